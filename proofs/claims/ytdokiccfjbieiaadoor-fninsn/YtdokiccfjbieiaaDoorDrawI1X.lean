/- The draws of instructions: numbers and operands; what comes out is one, whatever it holds. -/
import Derived.Test.YtdokiccfjbieiaaDoorRows
import Derived.WalkKit
import Derived.WalkSpells
import Derived.WalkLawsBesides
import Derived.Outline
import Derived.Deep.RegionHeld3
import Derived.Test.YtdokiccfjbieiaaDoorBun0
import Derived.Test.YtdokiccfjbieiaaDoorDrawX
import Derived.Test.YtdokiccfjbieiaaDoorBun5
import Derived.Test.YtdokiccfjbieiaaDoorBun12
namespace Go.Proofs.YtdokiccfjbieiaaDoor
open Go.RowKit
set_option linter.unusedVariables false

structure DrI (w0 w : World) (g : Nat) (a : Option Addr) (len cap : Nat) : Prop where
  d : Dr w g a len cap
  d0 : Dr w0 g a len cap
  gr : w0.grownBy w (some g)
theorem DrI.start {w : World} {g : Nat} {a : Option Addr} {len cap : Nat} (h : Dr w g a len cap) : DrI w w g a len cap := ⟨h, h, grownBy_refl _ _⟩
theorem DrI.size {w0 w : World} {g : Nat} {a : Option Addr} {len cap : Nat} (h : DrI w0 w g a len cap) : w0.heap.size ≤ w.heap.size := h.gr.size
theorem DrI.alloc {w0 w : World} {g : Nat} {a : Option Addr} {len cap : Nat} (h : DrI w0 w g a len cap) (o : Obj) : DrI w0 (w.alloc o) g a len cap :=
  ⟨h.d.alloc o, h.d0, grownBy_more h.gr (World.grownBy_alloc w o none) (fun j hj => by cases hj)⟩
theorem DrI.call {w0 w w' : World} {g : Nat} {a : Option Addr} {len cap : Nat} (h : DrI w0 w g a len cap) (hD : Dr w' g a len cap) (hG : w.grownBy w' (some g)) : DrI w0 w' g a len cap := ⟨hD, h.d0, grownBy_trans h.gr hG⟩
theorem below_grown {w w' : World} (hb : Below w.heap.size w w') : w.grownBy w' none := ⟨hb.os, hb.tape, hb.output, hb.size, fun i hi _ => hb.block i hi⟩
theorem DrI.below {w0 w w' : World} {g : Nat} {a : Option Addr} {len cap : Nat} (h : DrI w0 w g a len cap) (hb : Below w.heap.size w w') : DrI w0 w' g a len cap :=
  ⟨h.d.kept (below_grown hb) (by simp) (fun _ _ _ => by simp), h.d0, grownBy_more h.gr (below_grown hb) (fun j hj => by cases hj)⟩
theorem grownBy_setAny (w : World) (B k : Nat) (v : Value) : w.grownBy (w.setCell ⟨B, k, none⟩ v) (some B) :=
  let hb := (Below.refl B w).setCell (p := ⟨B, k, none⟩) (Nat.le_refl _) v
  ⟨hb.os, hb.tape, hb.output, hb.size, fun i hi hne => Go.heap_setCell_other w ⟨B, k, none⟩ i v (by simpa using hne)⟩
theorem DrI.set {w0 w : World} {g : Nat} {a : Option Addr} {len cap : Nat} (h : DrI w0 w g a len cap) {B : Nat} (hB : w0.heap.size ≤ B) (k : Nat) (v : Value) : DrI w0 (w.setCell ⟨B, k, none⟩ v) g a len cap :=
  ⟨h.d.kept (grownBy_setAny w B k v) (by have := h.d0.lt; simp; omega) (fun hl x hx => by have := h.d0.argLt hl hx; simp; omega), h.d0, grownBy_more h.gr (grownBy_setAny w B k v) (fun j hj => by cases hj; exact hB)⟩
theorem DrI.drew {w0 w : World} {g : Nat} {a : Option Addr} {len cap : Nat} (h : DrI w0 w g a len cap) : DrI w0 w.drew g a len cap := ⟨⟨h.d.src, h.d.small, h.d.arg⟩, h.d0, grownBy_drew h.gr⟩
theorem DrI.lt {w0 w : World} {g : Nat} {a : Option Addr} {len cap : Nat} (h : DrI w0 w g a len cap) : g < w0.heap.size := h.d0.lt
theorem heap_grown {W W' : World} {g B : Nat} {o : Obj} (h : W.heap[B]? = some o) (hG : W.grownBy W' (some g)) (hne : B ≠ g) : W'.heap[B]? = some o := (hG.block B (heap_lt h) (by simpa using hne)).trans h
theorem set_four {W : World} {g : Nat} {z0 z1 z2 z3 a b c d : Value} {t : TypeId} (h : W.heap[g]? = some (.cells #[z0, z1, z2, z3] t (0, 0))) : ((((W.setCell ⟨g, 0, none⟩ a).setCell ⟨g, 1, none⟩ b).setCell ⟨g, 2, none⟩ c).setCell ⟨g, 3, none⟩ d).heap[g]? = some (.cells #[a, b, c, d] t (0, 0)) :=
  heap_set (heap_set (heap_set (heap_set h 0 a) 1 b) 2 c) 3 d
theorem DrI.set4 {w0 w : World} {g : Nat} {a : Option Addr} {len cap : Nat} (h : DrI w0 w g a len cap) {B : Nat} (hB : w0.heap.size ≤ B) {v0 v1 v2 v3 : Value} : DrI w0 ((((w.setCell ⟨B, 0, none⟩ v0).setCell ⟨B, 1, none⟩ v1).setCell ⟨B, 2, none⟩ v2).setCell ⟨B, 3, none⟩ v3) g a len cap :=
  (((h.set hB 0 v0).set hB 1 v1).set hB 2 v2).set hB 3 v3
set_option maxRecDepth 100000 in
set_option maxHeartbeats 1000000 in
theorem l02N_any (g : Nat) (a : Option Addr) (len cap : Nat) (w : World) (h : Dr w g a len cap) :
    Calls Tryd.prog 56 #[.pointer (some ⟨g, 0, none⟩)] w fun e w' => ∃ v : Int, e = .returned (.int .i64 v) ∧ 0 ≤ v ∧ v ≤ 65535 ∧ Dr w' g a len cap ∧ w.grownBy w' (some g) := by
  have hgl := h.lt
  go_enter Tryd.func56, Tryd.ntmps56
  go_wp2_with fail
  refine (one_any g a len cap 2 _ h (by omega) (by omega)).mono ?_
  rintro e w1 ⟨b, rfl, hD1, hG1⟩
  cases b
  · go_wp2_with fail
    refine (n_any g a len cap 65536 _ hD1 (by omega) (by omega)).mono ?_
    rintro e w2 ⟨v, rfl, hv0, hv1, hD2, hG2⟩
    have HD : Hid (Dr w2 g a len cap) := hD2
    have HG : Hid (w.grownBy w2 (some g)) := grownBy_trans hG1 hG2
    clear hD2 hG2 hD1 hG1
    go_wp2
    go_ret
    exact ⟨_, rfl, by omega, by omega, HD.out, HG.out⟩
  · go_wp2_with fail
    refine (n_any g a len cap 8 _ (hD1.alloc _) (by omega) (by omega)).mono ?_
    rintro e w2 ⟨v, rfl, hv0, hv1, hD2, hG2⟩
    obtain ⟨V, rfl⟩ := Int.eq_ofNat_of_zero_le hv0
    have hV : V < 8 := by omega
    obtain ⟨y, hy, hyc⟩ := tab_cell (w := w1) (t := 2) [0, 1, 2, 4, 8, 65535, 65534, 3] V hV w2 hG2 hD1.lt
    have HY : Hid (0 ≤ y ∧ y ≤ 65535) := by show _ ∧ _; simp at hy; omega
    have HG : Hid (_) := grownBy_trans hG1 (grownBy_trans (World.grownBy_alloc w1 _ (some g)) hG2)
    have HDD : Hid (_) := hD2
    clear hy hG1 hG2 hD1 hD2 hv1
    go_wp2
    go_ret
    exact ⟨y, rfl, HY.out.1, HY.out.2, HDD.out, HG.out⟩
set_option maxRecDepth 100000 in
set_option maxHeartbeats 3200000 in
theorem drawOperand_src (g : Nat) (a : Option Addr) (len cap : Nat) (w : World) (h : Dr w g a len cap) :
    Calls Tryd.prog 63 #[.pointer (some ⟨g, 0, none⟩), .bool false] w fun e w' => ∃ (m r n : Int) (l : Bool), e = .returned (.agg #[.int .i64 m, .int .i64 r, .int .i64 n, .bool l]) ∧ Dr w' g a len cap ∧ w.grownBy w' (some g) := by
  have HD0 : Hid (DrI w w g a len cap) := DrI.start h
  have hgl := h.lt
  clear h
  go_enter Tryd.func63, Tryd.ntmps63
  go_wp2_with fail
  refine (n_any g a len cap 6 _ (HD0.out.alloc _).d (by omega) (by omega)).mono ?_
  rintro e x1 ⟨v, rfl, hv0, hv1, hD, hG⟩
  have HR1 : Hid (_ = _) := heap_grown (heap_alloc_new w _) hG (by omega)
  have HD1 : Hid (DrI w x1 g a len cap) := (HD0.out.alloc _).call hD hG
  have hz1 := heap_lt HR1.out
  clear hD hG HD0
  have hv : v = 0 ∨ v = 1 ∨ v = 2 ∨ v = 3 ∨ v = 4 ∨ v = 5 := by omega
  clear hv0 hv1
  rcases hv with rfl | rfl | rfl | rfl | rfl | rfl
  · go_wp2_with fail
    have HR1s : Hid (_ = _) := heap_more HR1.out (.cells #[.int .i64 0, .int .i64 0, .int .i64 0, .bool false] 35)
    have HO1s : Hid (_ = _) := heap_alloc_new x1 (.cells #[.int .i64 0, .int .i64 0, .int .i64 0, .bool false] 35)
    have HD1s : Hid (DrI w _ g a len cap) := HD1.out.alloc (.cells #[.int .i64 0, .int .i64 0, .int .i64 0, .bool false] 35)
    refine (n_any g a len cap 16 _ HD1s.out.d (by omega) (by omega)).mono ?_
    rintro e x2 ⟨u, rfl, hu0, hu1, hD, hG⟩
    have HR2 : Hid (_ = _) := heap_grown HR1s.out hG (by omega)
    have HO2 : Hid (_ = _) := heap_grown HO1s.out hG (by omega)
    have HD2 : Hid (DrI w x2 g a len cap) := HD1s.out.call hD hG
    clear hD hG
    obtain ⟨r0, r1, r2, r3⟩ := cells4h HR2.out
    have y0 := frozen_of_row _ _ 0 _ _ HR2.out
    have y1 := frozen_of_row _ _ 1 _ _ HR2.out
    have y2 := frozen_of_row _ _ 2 _ _ HR2.out
    have y3 := frozen_of_row _ _ 3 _ _ HR2.out
    obtain ⟨c0, c1, c2, c3⟩ := cells4h HO2.out
    have f1 := frozen_of_row _ _ 1 _ _ HO2.out
    go_wp2
    exact bodyPost_ret (results_cell_row Tryd.results63 _ _ w.heap.size 35 _ (0, 0) _ rfl (set_four (set_far (Nat.ne_of_lt hz1) HR2.out)) Tryd.underlying35 rfl (by kernel_rfl)) rfl ⟨_, _, _, _, rfl, ((HD2.out.set (Nat.le_of_lt hz1) 1 _).set4 (Nat.le_refl _)).d, ((HD2.out.set (Nat.le_of_lt hz1) 1 _).set4 (Nat.le_refl _)).gr⟩
  · go_wp2_with fail
    have HR1s : Hid (_ = _) := heap_more HR1.out (.cells #[.int .i64 1, .int .i64 0, .int .i64 0, .bool false] 35)
    have HO1s : Hid (_ = _) := heap_alloc_new x1 (.cells #[.int .i64 1, .int .i64 0, .int .i64 0, .bool false] 35)
    have HD1s : Hid (DrI w _ g a len cap) := HD1.out.alloc (.cells #[.int .i64 1, .int .i64 0, .int .i64 0, .bool false] 35)
    refine (n_any g a len cap 5 _ (HD1s.out.alloc _).d (by omega) (by omega)).mono ?_
    rintro e x2 ⟨u, rfl, hu0, hu1, hD, hG⟩
    have HR2 : Hid (_ = _) := heap_grown (heap_more HR1s.out _) hG (by omega)
    have HO2 : Hid (_ = _) := heap_grown (heap_more HO1s.out _) hG (by omega)
    have HD2 : Hid (DrI w x2 g a len cap) := (HD1s.out.alloc _).call hD hG
    obtain ⟨V, rfl⟩ := Int.eq_ofNat_of_zero_le hu0
    have hV : V < 5 := by omega
    obtain ⟨y, hy, hyc⟩ := tab_cell (t := 2) [0, 1, 4, 9, 15] V hV x2 hG (by simp; omega)
    have hi0 : (0 : Int) ≤ (V : Int) := by omega
    have hi1 : (V : Int) < 5 := by omega
    have hzz : x1.heap.size < x2.heap.size := heap_lt HO2.out
    have hyc' : x2.cell? ⟨x1.heap.size + 1, V, none⟩ = some (.int .i64 y) := by simpa using hyc
    clear hD hG hu1 hy hyc
    obtain ⟨r0, r1, r2, r3⟩ := cells4h HR2.out
    have y0 := frozen_of_row _ _ 0 _ _ HR2.out
    have y1 := frozen_of_row _ _ 1 _ _ HR2.out
    have y2 := frozen_of_row _ _ 2 _ _ HR2.out
    have y3 := frozen_of_row _ _ 3 _ _ HR2.out
    obtain ⟨c0, c1, c2, c3⟩ := cells4h HO2.out
    have f1 := frozen_of_row _ _ 1 _ _ HO2.out
    go_wp2_with fail
    refine (l02N_any g a len cap _ (HD2.out.set (Nat.le_of_lt hz1) 1 _).d).mono ?_
    rintro e x3 ⟨u3, rfl, hu0, hu1, hD, hG⟩
    have HR3 : Hid (_ = _) := heap_grown (set_far (Nat.ne_of_lt hz1) HR2.out) hG (by omega)
    have HO3 : Hid (_ = _) := heap_grown (heap_set HO2.out 1 _) hG (by omega)
    simp only [List.setIfInBounds_toArray, List.set_cons_zero, List.set_cons_succ] at HO3
    have HD3 : Hid (DrI w x3 g a len cap) := (HD2.out.set (Nat.le_of_lt hz1) 1 _).call hD hG
    clear hD hG hyc' r0 r1 r2 r3 y0 y1 y2 y3 c0 c1 c2 c3 f1
    obtain ⟨r0, r1, r2, r3⟩ := cells4h HR3.out
    have y0 := frozen_of_row _ _ 0 _ _ HR3.out
    have y1 := frozen_of_row _ _ 1 _ _ HR3.out
    have y2 := frozen_of_row _ _ 2 _ _ HR3.out
    have y3 := frozen_of_row _ _ 3 _ _ HR3.out
    obtain ⟨c0, c1, c2, c3⟩ := cells4h HO3.out
    have f2 := frozen_of_row _ _ 2 _ _ HO3.out
    go_wp2
    exact bodyPost_ret (results_cell_row Tryd.results63 _ _ w.heap.size 35 _ (0, 0) _ rfl (set_four (set_far (Nat.ne_of_lt hz1) HR3.out)) Tryd.underlying35 rfl (by kernel_rfl)) rfl ⟨_, _, _, _, rfl, ((HD3.out.set (Nat.le_of_lt hz1) 2 _).set4 (Nat.le_refl _)).d, ((HD3.out.set (Nat.le_of_lt hz1) 2 _).set4 (Nat.le_refl _)).gr⟩
  · go_wp2_with fail
    have HR1s : Hid (_ = _) := heap_more HR1.out (.cells #[.int .i64 2, .int .i64 0, .int .i64 0, .bool false] 35)
    have HO1s : Hid (_ = _) := heap_alloc_new x1 (.cells #[.int .i64 2, .int .i64 0, .int .i64 0, .bool false] 35)
    have HD1s : Hid (DrI w _ g a len cap) := HD1.out.alloc (.cells #[.int .i64 2, .int .i64 0, .int .i64 0, .bool false] 35)
    refine (l02N_any g a len cap _ HD1s.out.d).mono ?_
    rintro e x2 ⟨u, rfl, hu0, hu1, hD, hG⟩
    have HR2 : Hid (_ = _) := heap_grown HR1s.out hG (by omega)
    have HO2 : Hid (_ = _) := heap_grown HO1s.out hG (by omega)
    have HD2 : Hid (DrI w x2 g a len cap) := HD1s.out.call hD hG
    clear hD hG
    obtain ⟨r0, r1, r2, r3⟩ := cells4h HR2.out
    have y0 := frozen_of_row _ _ 0 _ _ HR2.out
    have y1 := frozen_of_row _ _ 1 _ _ HR2.out
    have y2 := frozen_of_row _ _ 2 _ _ HR2.out
    have y3 := frozen_of_row _ _ 3 _ _ HR2.out
    obtain ⟨c0, c1, c2, c3⟩ := cells4h HO2.out
    have f2 := frozen_of_row _ _ 2 _ _ HO2.out
    go_wp2_with fail
    refine (l02Short_any u _).mono ?_
    rintro e x3 ⟨rfl, rfl⟩
    have HR3 : Hid (_ = _) := set_far (a := ⟨x1.heap.size, 2, none⟩) (v := .int .i64 u) (Nat.ne_of_lt hz1) HR2.out
    have HO3 : Hid (_ = _) := heap_set HO2.out 2 (.int .i64 u)
    simp only [List.setIfInBounds_toArray, List.set_cons_zero, List.set_cons_succ] at HO3
    have HD3 : Hid (DrI w _ g a len cap) := HD2.out.set (Nat.le_of_lt hz1) 2 (.int .i64 u)
    generalize x2.setCell ⟨x1.heap.size, 2, none⟩ (.int .i64 u) = x3 at *
    clear r0 r1 r2 r3 y0 y1 y2 y3 c0 c1 c2 c3 f2
    obtain ⟨r0, r1, r2, r3⟩ := cells4h HR3.out
    have y0 := frozen_of_row _ _ 0 _ _ HR3.out
    have y1 := frozen_of_row _ _ 1 _ _ HR3.out
    have y2 := frozen_of_row _ _ 2 _ _ HR3.out
    have y3 := frozen_of_row _ _ 3 _ _ HR3.out
    obtain ⟨c0, c1, c2, c3⟩ := cells4h HO3.out
    have f3 := frozen_of_row _ _ 3 _ _ HO3.out
    generalize (shortI u).1 = s1 at *
    generalize (shortI u).2.1 = s2 at *
    generalize (shortI u).2.2 = s3 at *
    cases s3
    · go_wp2
      exact bodyPost_ret (results_cell_row Tryd.results63 _ _ w.heap.size 35 _ (0, 0) _ rfl (set_four (set_far (Nat.ne_of_lt hz1) HR3.out)) Tryd.underlying35 rfl (by kernel_rfl)) rfl ⟨_, _, _, _, rfl, ((HD3.out.set (Nat.le_of_lt hz1) 3 _).set4 (Nat.le_refl _)).d, ((HD3.out.set (Nat.le_of_lt hz1) 3 _).set4 (Nat.le_refl _)).gr⟩
    · go_wp2
      exact bodyPost_ret (results_cell_row Tryd.results63 _ _ w.heap.size 35 _ (0, 0) _ rfl (set_four (set_far (Nat.ne_of_lt hz1) HR3.out)) Tryd.underlying35 rfl (by kernel_rfl)) rfl ⟨_, _, _, _, rfl, ((HD3.out.set (Nat.le_of_lt hz1) 3 _).set4 (Nat.le_refl _)).d, ((HD3.out.set (Nat.le_of_lt hz1) 3 _).set4 (Nat.le_refl _)).gr⟩
  · go_wp2_with fail
    have HR1s : Hid (_ = _) := heap_more HR1.out (.cells #[.int .i64 3, .int .i64 0, .int .i64 0, .bool false] 35)
    have HO1s : Hid (_ = _) := heap_alloc_new x1 (.cells #[.int .i64 3, .int .i64 0, .int .i64 0, .bool false] 35)
    have HD1s : Hid (DrI w _ g a len cap) := HD1.out.alloc (.cells #[.int .i64 3, .int .i64 0, .int .i64 0, .bool false] 35)
    refine (n_any g a len cap 16 _ HD1s.out.d (by omega) (by omega)).mono ?_
    rintro e x2 ⟨u, rfl, hu0, hu1, hD, hG⟩
    have HR2 : Hid (_ = _) := heap_grown HR1s.out hG (by omega)
    have HO2 : Hid (_ = _) := heap_grown HO1s.out hG (by omega)
    have HD2 : Hid (DrI w x2 g a len cap) := HD1s.out.call hD hG
    clear hD hG
    obtain ⟨r0, r1, r2, r3⟩ := cells4h HR2.out
    have y0 := frozen_of_row _ _ 0 _ _ HR2.out
    have y1 := frozen_of_row _ _ 1 _ _ HR2.out
    have y2 := frozen_of_row _ _ 2 _ _ HR2.out
    have y3 := frozen_of_row _ _ 3 _ _ HR2.out
    obtain ⟨c0, c1, c2, c3⟩ := cells4h HO2.out
    have f1 := frozen_of_row _ _ 1 _ _ HO2.out
    go_wp2
    exact bodyPost_ret (results_cell_row Tryd.results63 _ _ w.heap.size 35 _ (0, 0) _ rfl (set_four (set_far (Nat.ne_of_lt hz1) HR2.out)) Tryd.underlying35 rfl (by kernel_rfl)) rfl ⟨_, _, _, _, rfl, ((HD2.out.set (Nat.le_of_lt hz1) 1 _).set4 (Nat.le_refl _)).d, ((HD2.out.set (Nat.le_of_lt hz1) 1 _).set4 (Nat.le_refl _)).gr⟩
  · go_wp2_with fail
    have HR1s : Hid (_ = _) := heap_more HR1.out (.cells #[.int .i64 4, .int .i64 0, .int .i64 0, .bool false] 35)
    have HO1s : Hid (_ = _) := heap_alloc_new x1 (.cells #[.int .i64 4, .int .i64 0, .int .i64 0, .bool false] 35)
    have HD1s : Hid (DrI w _ g a len cap) := HD1.out.alloc (.cells #[.int .i64 4, .int .i64 0, .int .i64 0, .bool false] 35)
    refine (n_any g a len cap 12 _ HD1s.out.d (by omega) (by omega)).mono ?_
    rintro e x2 ⟨u, rfl, hu0, hu1, hD, hG⟩
    have HR2 : Hid (_ = _) := heap_grown HR1s.out hG (by omega)
    have HO2 : Hid (_ = _) := heap_grown HO1s.out hG (by omega)
    have HD2 : Hid (DrI w x2 g a len cap) := HD1s.out.call hD hG
    clear hD hG
    obtain ⟨r0, r1, r2, r3⟩ := cells4h HR2.out
    have y0 := frozen_of_row _ _ 0 _ _ HR2.out
    have y1 := frozen_of_row _ _ 1 _ _ HR2.out
    have y2 := frozen_of_row _ _ 2 _ _ HR2.out
    have y3 := frozen_of_row _ _ 3 _ _ HR2.out
    obtain ⟨c0, c1, c2, c3⟩ := cells4h HO2.out
    have f1 := frozen_of_row _ _ 1 _ _ HO2.out
    go_wp2
    exact bodyPost_ret (results_cell_row Tryd.results63 _ _ w.heap.size 35 _ (0, 0) _ rfl (set_four (set_far (Nat.ne_of_lt hz1) HR2.out)) Tryd.underlying35 rfl (by kernel_rfl)) rfl ⟨_, _, _, _, rfl, ((HD2.out.set (Nat.le_of_lt hz1) 1 _).set4 (Nat.le_refl _)).d, ((HD2.out.set (Nat.le_of_lt hz1) 1 _).set4 (Nat.le_refl _)).gr⟩
  · go_wp2_with fail
    have HR1s : Hid (_ = _) := heap_more HR1.out (.cells #[.int .i64 5, .int .i64 0, .int .i64 0, .bool false] 35)
    have HO1s : Hid (_ = _) := heap_alloc_new x1 (.cells #[.int .i64 5, .int .i64 0, .int .i64 0, .bool false] 35)
    have HD1s : Hid (DrI w _ g a len cap) := HD1.out.alloc (.cells #[.int .i64 5, .int .i64 0, .int .i64 0, .bool false] 35)
    refine (l02N_any g a len cap _ HD1s.out.d).mono ?_
    rintro e x2 ⟨u, rfl, hu0, hu1, hD, hG⟩
    have HR2 : Hid (_ = _) := heap_grown HR1s.out hG (by omega)
    have HO2 : Hid (_ = _) := heap_grown HO1s.out hG (by omega)
    have HD2 : Hid (DrI w x2 g a len cap) := HD1s.out.call hD hG
    clear hD hG
    obtain ⟨r0, r1, r2, r3⟩ := cells4h HR2.out
    have y0 := frozen_of_row _ _ 0 _ _ HR2.out
    have y1 := frozen_of_row _ _ 1 _ _ HR2.out
    have y2 := frozen_of_row _ _ 2 _ _ HR2.out
    have y3 := frozen_of_row _ _ 3 _ _ HR2.out
    obtain ⟨c0, c1, c2, c3⟩ := cells4h HO2.out
    have f2 := frozen_of_row _ _ 2 _ _ HO2.out
    go_wp2_with fail
    refine (l02Short_any u _).mono ?_
    rintro e x3 ⟨rfl, rfl⟩
    have HR3 : Hid (_ = _) := set_far (a := ⟨x1.heap.size, 2, none⟩) (v := .int .i64 u) (Nat.ne_of_lt hz1) HR2.out
    have HO3 : Hid (_ = _) := heap_set HO2.out 2 (.int .i64 u)
    simp only [List.setIfInBounds_toArray, List.set_cons_zero, List.set_cons_succ] at HO3
    have HD3 : Hid (DrI w _ g a len cap) := HD2.out.set (Nat.le_of_lt hz1) 2 (.int .i64 u)
    generalize x2.setCell ⟨x1.heap.size, 2, none⟩ (.int .i64 u) = x3 at *
    clear r0 r1 r2 r3 y0 y1 y2 y3 c0 c1 c2 c3 f2
    obtain ⟨r0, r1, r2, r3⟩ := cells4h HR3.out
    have y0 := frozen_of_row _ _ 0 _ _ HR3.out
    have y1 := frozen_of_row _ _ 1 _ _ HR3.out
    have y2 := frozen_of_row _ _ 2 _ _ HR3.out
    have y3 := frozen_of_row _ _ 3 _ _ HR3.out
    obtain ⟨c0, c1, c2, c3⟩ := cells4h HO3.out
    have f3 := frozen_of_row _ _ 3 _ _ HO3.out
    generalize (shortI u).1 = s1 at *
    generalize (shortI u).2.1 = s2 at *
    generalize (shortI u).2.2 = s3 at *
    cases s3
    · go_wp2
      exact bodyPost_ret (results_cell_row Tryd.results63 _ _ w.heap.size 35 _ (0, 0) _ rfl (set_four (set_far (Nat.ne_of_lt hz1) HR3.out)) Tryd.underlying35 rfl (by kernel_rfl)) rfl ⟨_, _, _, _, rfl, ((HD3.out.set (Nat.le_of_lt hz1) 3 _).set4 (Nat.le_refl _)).d, ((HD3.out.set (Nat.le_of_lt hz1) 3 _).set4 (Nat.le_refl _)).gr⟩
    · go_wp2_with fail
      refine (one_any g a len cap 3 _ HD3.out.d (by omega) (by omega)).mono ?_
      rintro e x4 ⟨bb, rfl, hD, hG⟩
      have HR4 : Hid (_ = _) := heap_grown HR3.out hG (by omega)
      have HO4 : Hid (_ = _) := heap_grown HO3.out hG (by omega)
      have HD4 : Hid (DrI w x4 g a len cap) := HD3.out.call hD hG
      clear hD hG r0 r1 r2 r3 y0 y1 y2 y3 c0 c1 c2 c3 f3
      obtain ⟨r0, r1, r2, r3⟩ := cells4h HR4.out
      have y0 := frozen_of_row _ _ 0 _ _ HR4.out
      have y1 := frozen_of_row _ _ 1 _ _ HR4.out
      have y2 := frozen_of_row _ _ 2 _ _ HR4.out
      have y3 := frozen_of_row _ _ 3 _ _ HR4.out
      obtain ⟨c0, c1, c2, c3⟩ := cells4h HO4.out
      have f3 := frozen_of_row _ _ 3 _ _ HO4.out
      go_wp2
      exact bodyPost_ret (results_cell_row Tryd.results63 _ _ w.heap.size 35 _ (0, 0) _ rfl (set_four (set_far (Nat.ne_of_lt hz1) HR4.out)) Tryd.underlying35 rfl (by kernel_rfl)) rfl ⟨_, _, _, _, rfl, ((HD4.out.set (Nat.le_of_lt hz1) 3 _).set4 (Nat.le_refl _)).d, ((HD4.out.set (Nat.le_of_lt hz1) 3 _).set4 (Nat.le_refl _)).gr⟩
set_option maxRecDepth 100000 in
set_option maxHeartbeats 3200000 in
theorem drawOperand_dst (g : Nat) (a : Option Addr) (len cap : Nat) (w : World) (h : Dr w g a len cap) :
    Calls Tryd.prog 63 #[.pointer (some ⟨g, 0, none⟩), .bool true] w fun e w' => ∃ (m r n : Int) (l : Bool), e = .returned (.agg #[.int .i64 m, .int .i64 r, .int .i64 n, .bool l]) ∧ Dr w' g a len cap ∧ w.grownBy w' (some g) := by
  have HD0 : Hid (DrI w w g a len cap) := DrI.start h
  have hgl := h.lt
  clear h
  go_enter Tryd.func63, Tryd.ntmps63
  go_wp2_with fail
  refine (n_any g a len cap 6 _ (HD0.out.alloc _).d (by omega) (by omega)).mono ?_
  rintro e x1 ⟨v, rfl, hv0, hv1, hD, hG⟩
  have HR1 : Hid (_ = _) := heap_grown (heap_alloc_new w _) hG (by omega)
  have HD1 : Hid (DrI w x1 g a len cap) := (HD0.out.alloc _).call hD hG
  have hz1 := heap_lt HR1.out
  clear hD hG HD0
  clear hv0 hv1
  go_wp2_with fail
  refine (n_any g a len cap 3 _ (HD1.out.alloc _).d (by omega) (by omega)).mono ?_
  rintro e xb ⟨v2, rfl, hv0, hv1, hD, hG⟩
  have HRb : Hid (_ = _) := heap_grown (heap_more HR1.out _) hG (by omega)
  have HOb : Hid (_ = _) := heap_grown (heap_alloc_new x1 _) hG (by omega)
  have HDb : Hid (DrI w xb g a len cap) := (HD1.out.alloc _).call hD hG
  have hzb := heap_lt HOb.out
  obtain ⟨d0, d1, d2, d3⟩ := cells4h HOb.out
  have e0 := frozen_of_row _ _ 0 _ _ HOb.out
  have hv : v2 = 0 ∨ v2 = 1 ∨ v2 = 2 := by omega
  clear hv0 hv1 hD hG
  rcases hv with rfl | rfl | rfl
  · go_wp2_with fail
    have HR1s : Hid (_ = _) := set_far (a := ⟨x1.heap.size, 0, none⟩) (v := .int .i64 0) (Nat.ne_of_lt hz1) HRb.out
    have HO1s : Hid (_ = _) := heap_set HOb.out 0 (.int .i64 0)
    simp only [List.setIfInBounds_toArray, List.set_cons_zero] at HO1s
    have HD1s : Hid (DrI w _ g a len cap) := HDb.out.set (Nat.le_of_lt hz1) 0 (.int .i64 0)
    refine (n_any g a len cap 16 _ HD1s.out.d (by omega) (by omega)).mono ?_
    rintro e x2 ⟨u, rfl, hu0, hu1, hD, hG⟩
    have HR2 : Hid (_ = _) := heap_grown HR1s.out hG (by omega)
    have HO2 : Hid (_ = _) := heap_grown HO1s.out hG (by omega)
    have HD2 : Hid (DrI w x2 g a len cap) := HD1s.out.call hD hG
    clear hD hG
    obtain ⟨r0, r1, r2, r3⟩ := cells4h HR2.out
    have y0 := frozen_of_row _ _ 0 _ _ HR2.out
    have y1 := frozen_of_row _ _ 1 _ _ HR2.out
    have y2 := frozen_of_row _ _ 2 _ _ HR2.out
    have y3 := frozen_of_row _ _ 3 _ _ HR2.out
    obtain ⟨c0, c1, c2, c3⟩ := cells4h HO2.out
    have f1 := frozen_of_row _ _ 1 _ _ HO2.out
    go_wp2
    exact bodyPost_ret (results_cell_row Tryd.results63 _ _ w.heap.size 35 _ (0, 0) _ rfl (set_four (set_far (Nat.ne_of_lt hz1) HR2.out)) Tryd.underlying35 rfl (by kernel_rfl)) rfl ⟨_, _, _, _, rfl, ((HD2.out.set (Nat.le_of_lt hz1) 1 _).set4 (Nat.le_refl _)).d, ((HD2.out.set (Nat.le_of_lt hz1) 1 _).set4 (Nat.le_refl _)).gr⟩
  · go_wp2_with fail
    have HR1s : Hid (_ = _) := set_far (a := ⟨x1.heap.size, 0, none⟩) (v := .int .i64 1) (Nat.ne_of_lt hz1) HRb.out
    have HO1s : Hid (_ = _) := heap_set HOb.out 0 (.int .i64 1)
    simp only [List.setIfInBounds_toArray, List.set_cons_zero] at HO1s
    have HD1s : Hid (DrI w _ g a len cap) := HDb.out.set (Nat.le_of_lt hz1) 0 (.int .i64 1)
    refine (n_any g a len cap 5 _ (HD1s.out.alloc _).d (by omega) (by omega)).mono ?_
    rintro e x2 ⟨u, rfl, hu0, hu1, hD, hG⟩
    have HR2 : Hid (_ = _) := heap_grown (heap_more HR1s.out _) hG (by omega)
    have HO2 : Hid (_ = _) := heap_grown (heap_more HO1s.out _) hG (by omega)
    have HD2 : Hid (DrI w x2 g a len cap) := (HD1s.out.alloc _).call hD hG
    obtain ⟨V, rfl⟩ := Int.eq_ofNat_of_zero_le hu0
    have hV : V < 5 := by omega
    obtain ⟨y, hy, hyc⟩ := tab_cell (t := 2) [0, 1, 4, 9, 15] V hV x2 hG (by simp; omega)
    have hi0 : (0 : Int) ≤ (V : Int) := by omega
    have hi1 : (V : Int) < 5 := by omega
    have hzz : x1.heap.size < x2.heap.size := heap_lt HO2.out
    have hyc' : x2.cell? ⟨xb.heap.size, V, none⟩ = some (.int .i64 y) := by simpa using hyc
    clear hD hG hu1 hy hyc
    obtain ⟨r0, r1, r2, r3⟩ := cells4h HR2.out
    have y0 := frozen_of_row _ _ 0 _ _ HR2.out
    have y1 := frozen_of_row _ _ 1 _ _ HR2.out
    have y2 := frozen_of_row _ _ 2 _ _ HR2.out
    have y3 := frozen_of_row _ _ 3 _ _ HR2.out
    obtain ⟨c0, c1, c2, c3⟩ := cells4h HO2.out
    have f1 := frozen_of_row _ _ 1 _ _ HO2.out
    go_wp2_with fail
    refine (l02N_any g a len cap _ (HD2.out.set (Nat.le_of_lt hz1) 1 _).d).mono ?_
    rintro e x3 ⟨u3, rfl, hu0, hu1, hD, hG⟩
    have HR3 : Hid (_ = _) := heap_grown (set_far (Nat.ne_of_lt hz1) HR2.out) hG (by omega)
    have HO3 : Hid (_ = _) := heap_grown (heap_set HO2.out 1 _) hG (by omega)
    simp only [List.setIfInBounds_toArray, List.set_cons_zero, List.set_cons_succ] at HO3
    have HD3 : Hid (DrI w x3 g a len cap) := (HD2.out.set (Nat.le_of_lt hz1) 1 _).call hD hG
    clear hD hG hyc' r0 r1 r2 r3 y0 y1 y2 y3 c0 c1 c2 c3 f1
    obtain ⟨r0, r1, r2, r3⟩ := cells4h HR3.out
    have y0 := frozen_of_row _ _ 0 _ _ HR3.out
    have y1 := frozen_of_row _ _ 1 _ _ HR3.out
    have y2 := frozen_of_row _ _ 2 _ _ HR3.out
    have y3 := frozen_of_row _ _ 3 _ _ HR3.out
    obtain ⟨c0, c1, c2, c3⟩ := cells4h HO3.out
    have f2 := frozen_of_row _ _ 2 _ _ HO3.out
    go_wp2
    exact bodyPost_ret (results_cell_row Tryd.results63 _ _ w.heap.size 35 _ (0, 0) _ rfl (set_four (set_far (Nat.ne_of_lt hz1) HR3.out)) Tryd.underlying35 rfl (by kernel_rfl)) rfl ⟨_, _, _, _, rfl, ((HD3.out.set (Nat.le_of_lt hz1) 2 _).set4 (Nat.le_refl _)).d, ((HD3.out.set (Nat.le_of_lt hz1) 2 _).set4 (Nat.le_refl _)).gr⟩
  · go_wp2_with fail
    have HR1s : Hid (_ = _) := set_far (a := ⟨x1.heap.size, 0, none⟩) (v := .int .i64 2) (Nat.ne_of_lt hz1) HRb.out
    have HO1s : Hid (_ = _) := heap_set HOb.out 0 (.int .i64 2)
    simp only [List.setIfInBounds_toArray, List.set_cons_zero] at HO1s
    have HD1s : Hid (DrI w _ g a len cap) := HDb.out.set (Nat.le_of_lt hz1) 0 (.int .i64 2)
    refine (l02N_any g a len cap _ HD1s.out.d).mono ?_
    rintro e x2 ⟨u, rfl, hu0, hu1, hD, hG⟩
    have HR2 : Hid (_ = _) := heap_grown HR1s.out hG (by omega)
    have HO2 : Hid (_ = _) := heap_grown HO1s.out hG (by omega)
    have HD2 : Hid (DrI w x2 g a len cap) := HD1s.out.call hD hG
    clear hD hG
    obtain ⟨r0, r1, r2, r3⟩ := cells4h HR2.out
    have y0 := frozen_of_row _ _ 0 _ _ HR2.out
    have y1 := frozen_of_row _ _ 1 _ _ HR2.out
    have y2 := frozen_of_row _ _ 2 _ _ HR2.out
    have y3 := frozen_of_row _ _ 3 _ _ HR2.out
    obtain ⟨c0, c1, c2, c3⟩ := cells4h HO2.out
    have f2 := frozen_of_row _ _ 2 _ _ HO2.out
    go_wp2_with fail
    refine (l02Short_any u _).mono ?_
    rintro e x3 ⟨rfl, rfl⟩
    have HR3 : Hid (_ = _) := set_far (a := ⟨x1.heap.size, 2, none⟩) (v := .int .i64 u) (Nat.ne_of_lt hz1) HR2.out
    have HO3 : Hid (_ = _) := heap_set HO2.out 2 (.int .i64 u)
    simp only [List.setIfInBounds_toArray, List.set_cons_zero, List.set_cons_succ] at HO3
    have HD3 : Hid (DrI w _ g a len cap) := HD2.out.set (Nat.le_of_lt hz1) 2 (.int .i64 u)
    generalize x2.setCell ⟨x1.heap.size, 2, none⟩ (.int .i64 u) = x3 at *
    clear r0 r1 r2 r3 y0 y1 y2 y3 c0 c1 c2 c3 f2
    obtain ⟨r0, r1, r2, r3⟩ := cells4h HR3.out
    have y0 := frozen_of_row _ _ 0 _ _ HR3.out
    have y1 := frozen_of_row _ _ 1 _ _ HR3.out
    have y2 := frozen_of_row _ _ 2 _ _ HR3.out
    have y3 := frozen_of_row _ _ 3 _ _ HR3.out
    obtain ⟨c0, c1, c2, c3⟩ := cells4h HO3.out
    have f3 := frozen_of_row _ _ 3 _ _ HO3.out
    generalize (shortI u).1 = s1 at *
    generalize (shortI u).2.1 = s2 at *
    generalize (shortI u).2.2 = s3 at *
    cases s3
    · go_wp2
      exact bodyPost_ret (results_cell_row Tryd.results63 _ _ w.heap.size 35 _ (0, 0) _ rfl (set_four (set_far (Nat.ne_of_lt hz1) HR3.out)) Tryd.underlying35 rfl (by kernel_rfl)) rfl ⟨_, _, _, _, rfl, ((HD3.out.set (Nat.le_of_lt hz1) 3 _).set4 (Nat.le_refl _)).d, ((HD3.out.set (Nat.le_of_lt hz1) 3 _).set4 (Nat.le_refl _)).gr⟩
    · go_wp2
      exact bodyPost_ret (results_cell_row Tryd.results63 _ _ w.heap.size 35 _ (0, 0) _ rfl (set_four (set_far (Nat.ne_of_lt hz1) HR3.out)) Tryd.underlying35 rfl (by kernel_rfl)) rfl ⟨_, _, _, _, rfl, ((HD3.out.set (Nat.le_of_lt hz1) 3 _).set4 (Nat.le_refl _)).d, ((HD3.out.set (Nat.le_of_lt hz1) 3 _).set4 (Nat.le_refl _)).gr⟩
theorem drawOperand_any (dst : Bool) (g : Nat) (a : Option Addr) (len cap : Nat) (w : World) (h : Dr w g a len cap) :
    Calls Tryd.prog 63 #[.pointer (some ⟨g, 0, none⟩), .bool dst] w fun e w' => ∃ (m r n : Int) (l : Bool), e = .returned (.agg #[.int .i64 m, .int .i64 r, .int .i64 n, .bool l]) ∧ Dr w' g a len cap ∧ w.grownBy w' (some g) := by
  cases dst
  · exact drawOperand_src g a len cap w h
  · exact drawOperand_dst g a len cap w h
end Go.Proofs.YtdokiccfjbieiaaDoor
