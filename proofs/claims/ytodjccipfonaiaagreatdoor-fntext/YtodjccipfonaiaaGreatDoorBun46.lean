/- The draws' source: a struct in a block of its own, which its methods turn and nothing else; what each method answers, as far as the laws ask. -/
import Derived.Test.YtodjccipfonaiaaGreatDoorRows
import Derived.WalkKit
import Derived.WalkSpells
import Derived.WalkLawsBesides
import Derived.RegionTactic
import Derived.BigRegion
import Derived.OpenShut
import Derived.Test.YtodjccipfonaiaaGreatDoorBun0
import Derived.Test.YtodjccipfonaiaaGreatDoorBun14
import Derived.Outline
import Derived.Deep.RegionHeld3
import Derived.Test.YtodjccipfonaiaaGreatDoorBun3
import Derived.Test.YtodjccipfonaiaaGreatDoorBun1
import Derived.Test.YtodjccipfonaiaaGreatDoorOpsAX
namespace Go.Proofs.YtodjccipfonaiaaGreatDoor
open Go.RowKit

structure Dr (w : World) (g : Nat) (a : Option Addr) (len cap : Nat) : Prop where
  src : ∃ (p m z : Int), w.heap[g]? = some (.cells #[.slice a len cap, .int .i64 p, .int .u64 m, .int .i64 z] 84 (0, 0)) ∧ 0 ≤ p ∧ p ≤ len ∧ (Lit.int .u64 m).wf = true ∧ 0 ≤ z ∧ z ≤ 12
  small : len ≤ 1048576
  arg : 0 < len → ∃ x : Addr, a = some x ∧ x.block ≠ g ∧ ∀ i, i < len → ∃ z : Int, 0 ≤ z ∧ z < 256 ∧ w.cell? (x.add i) = some (.int .u8 z)

theorem add_block (x : Addr) (i : Nat) : (x.add i).block = x.block := by unfold Addr.add; split <;> rfl
theorem Dr.kept {w w' : World} {g : Nat} {a : Option Addr} {len cap : Nat} {row : Option Nat} (h : Dr w g a len cap) (hg : w.grownBy w' row) (hr : row ≠ some g) (ha : 0 < len → ∀ x, a = some x → some x.block ≠ row) : Dr w' g a len cap := by
  obtain ⟨p, m, z, h1, h2⟩ := h.src
  refine ⟨⟨p, m, z, ?_, h2⟩, h.small, fun hl => ?_⟩
  · rw [hg.block g (Array.getElem?_eq_some_iff.1 h1).1 (Ne.symm hr)]; exact h1
  · obtain ⟨x, rfl, hx, hc⟩ := h.arg hl
    refine ⟨x, rfl, hx, fun i hi => ?_⟩
    obtain ⟨u, h0, h3, h4⟩ := hc i hi
    exact ⟨u, h0, h3, hg.cell h4 (by rw [add_block]; exact ha hl x rfl)⟩
theorem Dr.alloc {w : World} {g : Nat} {a : Option Addr} {len cap : Nat} (h : Dr w g a len cap) (o : Obj) : Dr (w.alloc o) g a len cap :=
  h.kept (World.grownBy_alloc w o none) (by simp) (fun _ _ _ => by simp)
theorem Dr.lt {w : World} {g : Nat} {a : Option Addr} {len cap : Nat} (h : Dr w g a len cap) : g < w.heap.size := by
  obtain ⟨p, m, z, h1, _⟩ := h.src
  exact (Array.getElem?_eq_some_iff.1 h1).1
theorem Dr.argLt {w : World} {g : Nat} {a : Option Addr} {len cap : Nat} (h : Dr w g a len cap) (hl : 0 < len) {x : Addr} (hx : a = some x) : x.block < w.heap.size := by
  obtain ⟨y, hy, _, hc⟩ := h.arg hl
  obtain ⟨z, _, _, h4⟩ := hc 0 hl
  rw [hx] at hy
  cases hy
  have := World.block_lt_of_cell? w _ h4
  rwa [add_block] at this
theorem grownBy_more {w w1 w2 : World} {g : Nat} {row : Option Nat} (h : w.grownBy w1 (some g)) (k : w1.grownBy w2 row) (hr : ∀ j, row = some j → w.heap.size ≤ j) : w.grownBy w2 (some g) :=
  ⟨k.os.trans h.os, k.tape.trans h.tape, k.output.trans h.output, Nat.le_trans h.size k.size, fun i hi hne => (k.block i (Nat.lt_of_lt_of_le hi h.size) (fun e => by have := hr i e.symm; omega)).trans (h.block i hi hne)⟩
theorem four_cells {W : World} {B : Nat} {t : TypeId} {v0 v1 v2 v3 : Value} (hR : W.heap[B]? = some (.cells #[v0, v1, v2, v3] t (0, 0))) :
    (W.cell? ⟨B, 0, none⟩ = some v0 ∧ W.cell? ⟨B, 1, none⟩ = some v1 ∧ W.cell? ⟨B, 2, none⟩ = some v2 ∧ W.cell? ⟨B, 3, none⟩ = some v3) ∧ (W.frozen? ⟨B, 0, none⟩ = false ∧ W.frozen? ⟨B, 1, none⟩ = false ∧ W.frozen? ⟨B, 2, none⟩ = false ∧ W.frozen? ⟨B, 3, none⟩ = false) := by
  refine ⟨⟨?_, ?_, ?_, ?_⟩, ?_, ?_, ?_, ?_⟩ <;> simp [World.cell?, World.frozen?, hR]
theorem grownBy_refl (w : World) (r : Option Nat) : w.grownBy w r := ⟨rfl, rfl, rfl, Nat.le_refl _, fun _ _ _ => rfl⟩
theorem grownBy_trans {a b c : World} {r : Option Nat} (h : a.grownBy b r) (k : b.grownBy c r) : a.grownBy c r :=
  ⟨k.os.trans h.os, k.tape.trans h.tape, k.output.trans h.output, Nat.le_trans h.size k.size, fun i hi hne => (k.block i (Nat.lt_of_lt_of_le hi h.size) hne).trans (h.block i hi hne)⟩

theorem set_set {W : World} {B : Nat} {t : TypeId} {cur : Array Value} (hR : W.heap[B]? = some (.cells cur t (0, 0))) (k : Nat) (u v : Value) :
    (W.setCell ⟨B, k, none⟩ u).setCell ⟨B, k, none⟩ v = W.setCell ⟨B, k, none⟩ v := by
  rw [setCell_eq_setRow W B k cur t (0, 0) u hR, setCell_eq_setRow W B k cur t (0, 0) v hR]
  rw [setCell_eq_setRow _ B k _ t (0, 0) v (setRow_heap W B cur _ t _ hR), setRow_setRow]
  congr 1
  simp
theorem row4_set2 {W : World} {B : Nat} {t : TypeId} {v0 v1 v2 v3 : Value} (hR : W.heap[B]? = some (.cells #[v0, v1, v2, v3] t (0, 0))) (v : Value) : (W.setCell ⟨B, 2, none⟩ v).heap[B]? = some (.cells #[v0, v1, v, v3] t (0, 0)) := by
  rw [setCell_eq_setRow W B 2 _ t (0, 0) v hR, setRow_heap W B _ _ t _ hR]; rfl
theorem row4_set1 {W : World} {B : Nat} {t : TypeId} {v0 v1 v2 v3 : Value} (hR : W.heap[B]? = some (.cells #[v0, v1, v2, v3] t (0, 0))) (v : Value) : (W.setCell ⟨B, 1, none⟩ v).heap[B]? = some (.cells #[v0, v, v2, v3] t (0, 0)) := by
  rw [setCell_eq_setRow W B 1 _ t (0, 0) v hR, setRow_heap W B _ _ t _ hR]; rfl
theorem grownBy_set {W : World} {B : Nat} {t : TypeId} {cur : Array Value} (hR : W.heap[B]? = some (.cells cur t (0, 0))) (k : Nat) (v : Value) : W.grownBy (W.setCell ⟨B, k, none⟩ v) (some B) := by
  rw [setCell_eq_setRow W B k cur t (0, 0) v hR]
  exact ⟨rfl, rfl, rfl, by simp [World.setRow], fun i _ hne => setRow_other W B i _ (fun e => hne (by rw [e]))⟩
theorem grownBy_drew {a b : World} {r : Option Nat} (h : a.grownBy b r) : a.grownBy b.drew r := ⟨h.os, h.tape, h.output, h.size, h.block⟩
theorem Dr.turn {w w' : World} {g : Nat} {a : Option Addr} {len cap : Nat} (h : Dr w g a len cap) (hg : w.grownBy w' (some g))
    (hs : ∃ (p m z : Int), w'.heap[g]? = some (.cells #[.slice a len cap, .int .i64 p, .int .u64 m, .int .i64 z] 84 (0, 0)) ∧ 0 ≤ p ∧ p ≤ len ∧ (Lit.int .u64 m).wf = true ∧ 0 ≤ z ∧ z ≤ 12) : Dr w' g a len cap := by
  refine ⟨hs, h.small, fun hl => ?_⟩
  obtain ⟨x, rfl, hx, hc⟩ := h.arg hl
  refine ⟨x, rfl, hx, fun i hi => ?_⟩
  obtain ⟨u, h0, h3, h4⟩ := hc i hi
  exact ⟨u, h0, h3, hg.cell h4 (by rw [add_block]; simpa using hx)⟩
theorem bits_wf (x y : Int) : (Lit.int .u64 (bits BinOp.xor IntKind.u64 x y)).wf = true := wf_bits .xor .u64 x y
set_option maxRecDepth 100000 in
set_option maxHeartbeats 1000000 in
theorem n_any (g : Nat) (a : Option Addr) (len cap : Nat) (most : Int) (w : World) (h : Dr w g a len cap) (hm0 : -9223372036854775808 ≤ most) (hm1 : most ≤ 9223372036854775807) :
    Calls Tryz.prog 52 #[.pointer (some ⟨g, 0, none⟩), .int .i64 most] w fun e w' => ∃ v : Int, e = .returned (.int .i64 v) ∧ 0 ≤ v ∧ (v = 0 ∨ v < most) ∧ Dr w' g a len cap ∧ w.grownBy w' (some g) := by
  have HD : Hid (_) := h
  obtain ⟨p, m, z, hb, hp0, hp1, hmw, hz0, hz1⟩ := h.src
  obtain ⟨⟨c0, c1, c2, c3⟩, f0, f1, f2, f3⟩ := four_cells hb
  have HBk : Hid (_ = _) := hb
  have hsm := h.small
  have HAr : Hid (_ → _) := h.arg
  have hmb := bounds_u64 hmw
  clear hb h hmw
  by_cases h1 : most ≤ 1
  · go_enter Tryz.func52, Tryz.ntmps52
    go_wp2
    go_ret
    exact ⟨0, rfl, by omega, Or.inl rfl, HD.out, grownBy_refl _ _⟩
  obtain ⟨m1, hx1⟩ : ∃ m1, bits BinOp.xor IntKind.u64 m (IntKind.u64.wrap (m * 8192)) = m1 := ⟨_, rfl⟩
  have hw1 := bits_wf m (IntKind.u64.wrap (m * 8192))
  rw [hx1] at hw1
  obtain ⟨m2, hx2⟩ : ∃ m2, bits BinOp.xor IntKind.u64 m1 (m1 / 128) = m2 := ⟨_, rfl⟩
  have hw2 := bits_wf m1 (m1 / 128)
  rw [hx2] at hw2
  obtain ⟨m3, hx3⟩ : ∃ m3, bits BinOp.xor IntKind.u64 m2 (IntKind.u64.wrap (m2 * 131072)) = m3 := ⟨_, rfl⟩
  have hw3 := bits_wf m2 (IntKind.u64.wrap (m2 * 131072))
  rw [hx3] at hw3
  have HW3 : Hid (_) := hw3
  have hb1 := bounds_u64 hw1
  have hb2 := bounds_u64 hw2
  have hb3 := bounds_u64 hw3
  clear hw1 hw2 hw3
  have hss := set_set HBk.out 2
  by_cases hlt : p < len
  · obtain ⟨P, rfl⟩ := Int.eq_ofNat_of_zero_le hp0
    obtain ⟨x, rfl, hxg, hcs⟩ := HAr.out (by omega)
    obtain ⟨y, hy0, hy1, hyc⟩ := hcs P (by omega)
    have hxg2 : (x.add P).block ≠ g := by rw [add_block]; exact hxg
    have HX : Hid (_) := hcs
    clear hcs
    have hss1 := fun u => set_set (W := w.setCell ⟨g, 1, none⟩ u) (row4_set1 HBk.out u) 2
    go_enter Tryz.func52, Tryz.ntmps52
    go_wp2
    go_region
    go_wp2
    go_region
    go_wp2
    go_region
    go_wp2
    go_region
    go_wp2
    go_region
    go_wp2
    go_ret
    have hv0 : 0 ≤ (y + m3 / 1048576) % most := Int.emod_nonneg _ (by omega)
    have hv1 : (y + m3 / 1048576) % most < most := Int.emod_lt_of_pos _ (by omega)
    have hG : w.grownBy ((w.setCell ⟨g, 1, none⟩ (.int .i64 ((P : Int) + 1))).setCell ⟨g, 2, none⟩ (.int .u64 m3)) (some g) :=
      grownBy_trans (grownBy_set HBk.out 1 _) (grownBy_set (row4_set1 HBk.out _) 2 _)
    refine ⟨(y + m3 / 1048576) % most, ret_int (IntWalk.wrap64_in _ (by omega)), hv0, Or.inr hv1, ?_, ?_⟩
    · exact HD.out.turn (grownBy_drew (grownBy_drew (grownBy_drew (grownBy_drew (grownBy_drew hG))))) ⟨(P : Int) + 1, m3, z, row4_set2 (row4_set1 HBk.out _) _, by omega, by omega, HW3.out, hz0, hz1⟩
    · exact grownBy_drew (grownBy_drew (grownBy_drew (grownBy_drew (grownBy_drew hG))))
  · have hd : decide (p < (len : Int)) = false := by simp; omega
    go_enter Tryz.func52, Tryz.ntmps52
    go_wp2
    go_region
    go_wp2
    go_region
    go_wp2
    go_region
    go_wp2
    go_region
    go_wp2
    go_ret
    have hv0 : 0 ≤ m3 / 1048576 % most := Int.emod_nonneg _ (by omega)
    have hv1 : m3 / 1048576 % most < most := Int.emod_lt_of_pos _ (by omega)
    have hG : w.grownBy (w.setCell ⟨g, 2, none⟩ (.int .u64 m3)) (some g) := grownBy_set HBk.out 2 _
    refine ⟨m3 / 1048576 % most, ret_int (IntWalk.wrap64_in _ (by omega)), hv0, Or.inr hv1, ?_, ?_⟩
    · exact HD.out.turn (grownBy_drew (grownBy_drew (grownBy_drew (grownBy_drew hG)))) ⟨p, m3, z, row4_set2 HBk.out _, hp0, hp1, HW3.out, hz0, hz1⟩
    · exact grownBy_drew (grownBy_drew (grownBy_drew (grownBy_drew hG)))

structure Arg (w : World) (a : Option Addr) (len cap : Nat) : Prop where
  small : len ≤ 1048576
  arg : 0 < len → ∃ x : Addr, a = some x ∧ x.block < w.heap.size ∧ ∀ i, i < len → ∃ z : Int, 0 ≤ z ∧ z < 256 ∧ w.cell? (x.add i) = some (.int .u8 z)
theorem Arg.below {w w' : World} {a : Option Addr} {len cap : Nat} (h : Arg w a len cap) (hb : Below w.heap.size w w') : Arg w' a len cap := by
  refine ⟨h.small, fun hl => ?_⟩
  obtain ⟨x, rfl, hx, hc⟩ := h.arg hl
  refine ⟨x, rfl, Nat.lt_of_lt_of_le hx hb.size, fun i hi => ?_⟩
  obtain ⟨z, h0, h1, h2⟩ := hc i hi
  exact ⟨z, h0, h1, (hb.cell (by rw [add_block]; exact hx)).trans h2⟩
theorem row4_set3 {W : World} {B : Nat} {t : TypeId} {v0 v1 v2 v3 : Value} (hR : W.heap[B]? = some (.cells #[v0, v1, v2, v3] t (0, 0))) (v : Value) : (W.setCell ⟨B, 3, none⟩ v).heap[B]? = some (.cells #[v0, v1, v2, v] t (0, 0)) := by
  rw [setCell_eq_setRow W B 3 _ t (0, 0) v hR, setRow_heap W B _ _ t _ hR]; rfl
theorem wf_mul (x y : Int) : (Lit.int .u64 (IntKind.u64.wrap (x * y))).wf = true := wf_wrap _ _

theorem src_done {w wr : World} {a : Option Addr} {len cap : Nat} {m : Int} (HA : Arg w a len cap) (HR : wr.heap[w.heap.size]? = some (.cells #[.slice a len cap, .int .i64 0, .int .u64 m, .int .i64 0] 84 (0, 0)))
    (HM : (Lit.int .u64 m).wf = true) (hB : Below w.heap.size w wr) (z : Int) (hz0 : 0 ≤ z) (hz1 : z ≤ 12) :
    Dr (wr.setCell ⟨w.heap.size, 3, none⟩ (.int .i64 z)) w.heap.size a len cap ∧ Below w.heap.size w (wr.setCell ⟨w.heap.size, 3, none⟩ (.int .i64 z)) := by
  have hb := hB.setCell (p := ⟨w.heap.size, 3, none⟩) (Nat.le_refl _) (.int .i64 z)
  refine ⟨⟨⟨0, m, z, row4_set3 HR _, by omega, by omega, HM, hz0, hz1⟩, HA.small, fun hl => ?_⟩, hb⟩
  obtain ⟨x, rfl, hx, hc⟩ := HA.arg hl
  refine ⟨x, rfl, Nat.ne_of_lt hx, fun i hi => ?_⟩
  obtain ⟨u, h0, h1, h2⟩ := hc i hi
  exact ⟨u, h0, h1, (hb.cell (by rw [add_block]; exact hx)).trans h2⟩
set_option maxRecDepth 100000 in
set_option maxHeartbeats 1000000 in
theorem source_any (a : Option Addr) (len cap : Nat) (w : World) (h : Arg w a len cap) :
    Calls Tryz.prog 19 #[.slice a len cap] w fun e w' => e = .returned (.pointer (some ⟨w.heap.size, 0, none⟩)) ∧ Dr w' w.heap.size a len cap ∧ Below w.heap.size w w' := by
  have hsm := h.small
  have HA : Hid (_) := h
  clear h
  go_enter Tryz.func19, Tryz.ntmps19
  go_wp2
  go_loopw [4] (fun i wr => ∃ (k : Nat) (m : Int), k ≤ len ∧ i = .int .i64 k ∧ Hid (wr.heap[w.heap.size]? = some (.cells #[.slice a len cap, .int .i64 0, .int .u64 m, .int .i64 0] 84 (0, 0))) ∧ Hid ((Lit.int .u64 m).wf = true) ∧ Below w.heap.size w wr) (fun i _ => len - (intOf i).toNat)
  case atStart => exact ⟨0, 88172645463325252, by omega, rfl, heap_alloc_new _ _, (show _ = true by decide), (Below.refl _ _).alloc (Nat.le_refl _) _⟩
  case round =>
    obtain ⟨k, m, hk, rfl, HR, HM, hB⟩ := hrel
    obtain ⟨⟨c0, c1, c2, c3⟩, f0, f1, f2, f3⟩ := four_cells HR.out
    have hmb := bounds_u64 HM.out
    by_cases hlt : k < len
    · obtain ⟨x, rfl, hxg, hcs⟩ := HA.out.arg (by omega)
      obtain ⟨y, hy0, hy1, hyc0⟩ := hcs k hlt
      have hyc : wr.cell? (x.add k) = some (.int .u8 y) := (hB.cell (by rw [add_block]; exact hxg)).trans hyc0
      clear hcs hyc0
      by_cases h64 : k < 64
      · go_wp2
        go_region
        go_wp2
        go_roundw
        case rel => exact ⟨k + 1, _, by omega, by go_num, row4_set2 HR.out _, wf_mul _ _, (hB.setCell (Nat.le_refl _) _).drew⟩
        case measure => simp [intOf]; omega
      · clear hyc
        have HE : Hid (_) := fun z hz0 hz1 => src_done HA.out HR.out HM.out hB z hz0 hz1
        have hss := fun u v => set_set HR.out 3 u v
        go_wp2
        all_goals
          go_ret
          exact ⟨rfl, HE.out _ (by omega) (by omega)⟩
    · have HE : Hid (_) := fun z hz0 hz1 => src_done HA.out HR.out HM.out hB z hz0 hz1
      have hss := fun u v => set_set HR.out 3 u v
      go_wp2
      all_goals
        go_ret
        exact ⟨rfl, HE.out _ (by omega) (by omega)⟩

theorem Dr.low {w w' : World} {g : Nat} {B : Nat} (hg : w.grownBy w' (some g)) (hB : B ≤ g) (h : g < w.heap.size) : Below B w w' :=
  ⟨hg.os, hg.tape, hg.output, hg.size, fun k hk => hg.block k (by omega) (by simp; omega)⟩
set_option maxHeartbeats 400000 in
theorem one_any (g : Nat) (a : Option Addr) (len cap : Nat) (most : Int) (w : World) (h : Dr w g a len cap) (hm0 : -9223372036854775808 ≤ most) (hm1 : most ≤ 9223372036854775807) :
    Calls Tryz.prog 43 #[.pointer (some ⟨g, 0, none⟩), .int .i64 most] w fun e w' => ∃ b : Bool, e = .returned (.bool b) ∧ Dr w' g a len cap ∧ w.grownBy w' (some g) := by
  go_enter Tryz.func43, Tryz.ntmps43
  go_wp2_with fail
  refine (n_any g a len cap most _ h hm0 hm1).mono ?_
  rintro e w1 ⟨v, rfl, hv0, hv1, hD, hG⟩
  go_wp2
  go_ret
  exact ⟨_, rfl, hD, hG⟩
theorem tab_cell {w : World} {g : Nat} {t : TypeId} (L : List Int) (V : Nat) (h : V < L.length) (w1 : World) (hG : (w.alloc (.cells (L.map (Value.int .i64)).toArray t)).grownBy w1 (some g)) (hg : g < w.heap.size) :
    ∃ y, y ∈ L ∧ w1.cell? ⟨w.heap.size, V, none⟩ = some (.int .i64 y) := by
  refine ⟨L[V], List.getElem_mem h, hG.cell ?_ (by simp; omega)⟩
  simp [h]
theorem edge_bd (y : Int) (h : y ∈ [0, 1, -1, 2, 1000, 1001, 2147483648, 2147483647, -2147483648, 4611686018427387904, 9223372036854775807, -9223372036854775808, 1000000, (1000001 : Int)]) : -9223372036854775808 ≤ y ∧ y ≤ 9223372036854775807 := by
  simp at h; omega
set_option maxHeartbeats 400000 in
theorem edge_any (g : Nat) (a : Option Addr) (len cap : Nat) (w : World) (h : Dr w g a len cap) :
    Calls Tryz.prog 60 #[.pointer (some ⟨g, 0, none⟩)] w fun e w' => ∃ v : Int, e = .returned (.int .i64 v) ∧ -9223372036854775808 ≤ v ∧ v ≤ 9223372036854775807 ∧ Dr w' g a len cap ∧ w.grownBy w' (some g) := by
  go_enter Tryz.func60, Tryz.ntmps60
  go_wp2_with fail
  refine (n_any g a len cap 14 _ (h.alloc _) (by omega) (by omega)).mono ?_
  rintro e w1 ⟨v, rfl, hv0, hv1, hD, hG⟩
  obtain ⟨V, rfl⟩ := Int.eq_ofNat_of_zero_le hv0
  have hV : V < 14 := by omega
  obtain ⟨y, hy, hyc⟩ := tab_cell (w := w) (t := 2) [0, 1, -1, 2, 1000, 1001, 2147483648, 2147483647, -2147483648, 4611686018427387904, 9223372036854775807, -9223372036854775808, 1000000, 1000001] V hV w1 hG h.lt
  have HY : Hid (_) := edge_bd y hy
  have HG : Hid (_) := grownBy_trans (World.grownBy_alloc w _ (some g)) hG
  have HDD : Hid (_) := hD
  clear hy hG hD hv1
  go_wp2
  go_ret
  exact ⟨y, rfl, HY.out.1, HY.out.2, HDD.out, HG.out⟩

theorem own_ne {w wr : World} {g : Nat} {e : TypeId} {size : Nat} {v : Value} {n : Nat} {xs : List Value} (h : wr.ownsRow w.heap.size e size v n xs) (hg : g < w.heap.size) : v.ownBlock = none ∨ v.ownBlock ≠ some g := by
  cases hv : v.ownBlock with
  | none => exact Or.inl rfl
  | some k => exact Or.inr (by have := (h.lt k hv).1; simp; omega)
theorem len_le (k : Nat) (h : k < 1000000) : k + 1 ≤ maxLen := by unfold maxLen; omega
theorem own_text {W : World} (B : Nat) {v : Value} {n : Nat} {L : List UInt8} (h : W.ownsRow B 5 1 v n (cellsU L)) (hL : L.length = n) :
    (convert 22 9 v).run Tryz.prog W = .ok (.string ⟨L.toArray⟩) W := by
  rcases h.2 with ⟨rfl, h0⟩ | ⟨g, cap, cur, rfl, _, hg, _, _, _, hT⟩
  · obtain rfl : L = [] := List.eq_nil_of_length_eq_zero (by omega)
    exact run_convert_bytes_nil W 22 5 Tryz.underlying22 Tryz.underlying5 0 0 9 Tryz.underlying9
  · exact conv_row W g n cap 5 cur.toList L (by simpa using hg) hL (by simpa using hT)
end Go.Proofs.YtodjccipfonaiaaGreatDoor
namespace Go.Proofs.YtodjccipfonaiaaGreatDoor
open Go.RowKit
theorem Arg.drew {w : World} {a : Option Addr} {len cap : Nat} (h : Arg w a len cap) : Arg w.drew a len cap := ⟨h.small, h.arg⟩
theorem arg_of_cells {w : World} {a : Option Addr} {len cap : Nat} {zs : List Int}
    (h : (a = none ∧ len = 0 ∧ cap = 0 ∧ zs = []) ∨ ∃ x, a = some x ∧ len ≤ cap ∧ cap ≤ maxLen ∧ zs.length = cap ∧ (∀ i, i < zs.length → w.cell? (x.add i) = some (.int .u8 (zs.getD i 0))) ∧ ∀ n ∈ zs, (Lit.int .u8 n).wf = true)
    (hl : len ≤ 1048576) : Arg w a len cap := by
  refine ⟨hl, fun hp => ?_⟩
  rcases h with ⟨_, h0, _⟩ | ⟨x, rfl, hlc, _, hz, hc, hw⟩
  · omega
  · have hx : x.block < w.heap.size := by
      have := World.block_lt_of_cell? w _ (hc 0 (by omega))
      rwa [add_block] at this
    refine ⟨x, rfl, hx, fun i hi => ?_⟩
    have hi2 : i < zs.length := by omega
    have hm : zs.getD i 0 ∈ zs := by simp [List.getD, List.getElem?_eq_getElem hi2]
    have hb := bounds_u8 (hw _ hm)
    exact ⟨zs.getD i 0, by omega, by omega, hc i hi2⟩
end Go.Proofs.YtodjccipfonaiaaGreatDoor
namespace Go.Proofs.YtodjccipfonaiaaGreatDoor
open Go.RowKit
set_option linter.unusedVariables false

structure DrI (w0 w : World) (g : Nat) (a : Option Addr) (len cap : Nat) : Prop where
  d : Dr w g a len cap
  d0 : Dr w0 g a len cap
  gr : w0.grownBy w (some g)
theorem DrI.start {w : World} {g : Nat} {a : Option Addr} {len cap : Nat} (h : Dr w g a len cap) : DrI w w g a len cap := ⟨h, h, grownBy_refl _ _⟩
theorem DrI.size {w0 w : World} {g : Nat} {a : Option Addr} {len cap : Nat} (h : DrI w0 w g a len cap) : w0.heap.size ≤ w.heap.size := h.gr.size
theorem DrI.alloc {w0 w : World} {g : Nat} {a : Option Addr} {len cap : Nat} (h : DrI w0 w g a len cap) (o : Obj) : DrI w0 (w.alloc o) g a len cap :=
  ⟨h.d.alloc o, h.d0, grownBy_more h.gr (World.grownBy_alloc w o none) (fun j hj => by cases hj)⟩
theorem DrI.call {w0 w w' : World} {g : Nat} {a : Option Addr} {len cap : Nat} (h : DrI w0 w g a len cap) (hD : Dr w' g a len cap) (hG : w.grownBy w' (some g)) : DrI w0 w' g a len cap := ⟨hD, h.d0, grownBy_trans h.gr hG⟩
theorem below_grown {w w' : World} (hb : Below w.heap.size w w') : w.grownBy w' none := ⟨hb.os, hb.tape, hb.output, hb.size, fun i hi _ => hb.block i hi⟩
theorem DrI.below {w0 w w' : World} {g : Nat} {a : Option Addr} {len cap : Nat} (h : DrI w0 w g a len cap) (hb : Below w.heap.size w w') : DrI w0 w' g a len cap :=
  ⟨h.d.kept (below_grown hb) (by simp) (fun _ _ _ => by simp), h.d0, grownBy_more h.gr (below_grown hb) (fun j hj => by cases hj)⟩
theorem grownBy_setAny (w : World) (B k : Nat) (v : Value) : w.grownBy (w.setCell ⟨B, k, none⟩ v) (some B) :=
  let hb := (Below.refl B w).setCell (p := ⟨B, k, none⟩) (Nat.le_refl _) v
  ⟨hb.os, hb.tape, hb.output, hb.size, fun i hi hne => Go.heap_setCell_other w ⟨B, k, none⟩ i v (by simpa using hne)⟩
theorem DrI.set {w0 w : World} {g : Nat} {a : Option Addr} {len cap : Nat} (h : DrI w0 w g a len cap) {B : Nat} (hB : w0.heap.size ≤ B) (k : Nat) (v : Value) : DrI w0 (w.setCell ⟨B, k, none⟩ v) g a len cap :=
  ⟨h.d.kept (grownBy_setAny w B k v) (by have := h.d0.lt; simp; omega) (fun hl x hx => by have := h.d0.argLt hl hx; simp; omega), h.d0, grownBy_more h.gr (grownBy_setAny w B k v) (fun j hj => by cases hj; exact hB)⟩
theorem DrI.drew {w0 w : World} {g : Nat} {a : Option Addr} {len cap : Nat} (h : DrI w0 w g a len cap) : DrI w0 w.drew g a len cap := ⟨⟨h.d.src, h.d.small, h.d.arg⟩, h.d0, grownBy_drew h.gr⟩
theorem DrI.lt {w0 w : World} {g : Nat} {a : Option Addr} {len cap : Nat} (h : DrI w0 w g a len cap) : g < w0.heap.size := h.d0.lt
theorem heap_grown {W W' : World} {g B : Nat} {o : Obj} (h : W.heap[B]? = some o) (hG : W.grownBy W' (some g)) (hne : B ≠ g) : W'.heap[B]? = some o := (hG.block B (heap_lt h) (by simpa using hne)).trans h
theorem set_four {W : World} {g : Nat} {z0 z1 z2 z3 a b c d : Value} {t : TypeId} (h : W.heap[g]? = some (.cells #[z0, z1, z2, z3] t (0, 0))) : ((((W.setCell ⟨g, 0, none⟩ a).setCell ⟨g, 1, none⟩ b).setCell ⟨g, 2, none⟩ c).setCell ⟨g, 3, none⟩ d).heap[g]? = some (.cells #[a, b, c, d] t (0, 0)) :=
  heap_set (heap_set (heap_set (heap_set h 0 a) 1 b) 2 c) 3 d
theorem DrI.set4 {w0 w : World} {g : Nat} {a : Option Addr} {len cap : Nat} (h : DrI w0 w g a len cap) {B : Nat} (hB : w0.heap.size ≤ B) {v0 v1 v2 v3 : Value} : DrI w0 ((((w.setCell ⟨B, 0, none⟩ v0).setCell ⟨B, 1, none⟩ v1).setCell ⟨B, 2, none⟩ v2).setCell ⟨B, 3, none⟩ v3) g a len cap :=
  (((h.set hB 0 v0).set hB 1 v1).set hB 2 v2).set hB 3 v3
end Go.Proofs.YtodjccipfonaiaaGreatDoor
namespace Go.Proofs.YtodjccipfonaiaaGreatDoor
open Go.RowKit
set_option linter.unusedVariables false

set_option maxRecDepth 100000 in
set_option maxHeartbeats 1000000 in
theorem l02N_any (g : Nat) (a : Option Addr) (len cap : Nat) (w : World) (h : Dr w g a len cap) :
    Calls Tryz.prog 59 #[.pointer (some ⟨g, 0, none⟩)] w fun e w' => ∃ v : Int, e = .returned (.int .i64 v) ∧ 0 ≤ v ∧ v ≤ 65535 ∧ Dr w' g a len cap ∧ w.grownBy w' (some g) := by
  have hgl := h.lt
  go_enter Tryz.func59, Tryz.ntmps59
  go_wp2_with fail
  refine (one_any g a len cap 2 _ h (by omega) (by omega)).mono ?_
  rintro e w1 ⟨b, rfl, hD1, hG1⟩
  cases b
  · go_wp2_with fail
    refine (n_any g a len cap 65536 _ hD1 (by omega) (by omega)).mono ?_
    rintro e w2 ⟨v, rfl, hv0, hv1, hD2, hG2⟩
    have HD : Hid (Dr w2 g a len cap) := hD2
    have HG : Hid (w.grownBy w2 (some g)) := grownBy_trans hG1 hG2
    clear hD2 hG2 hD1 hG1
    go_wp2
    go_ret
    exact ⟨_, rfl, by omega, by omega, HD.out, HG.out⟩
  · go_wp2_with fail
    refine (n_any g a len cap 8 _ (hD1.alloc _) (by omega) (by omega)).mono ?_
    rintro e w2 ⟨v, rfl, hv0, hv1, hD2, hG2⟩
    obtain ⟨V, rfl⟩ := Int.eq_ofNat_of_zero_le hv0
    have hV : V < 8 := by omega
    obtain ⟨y, hy, hyc⟩ := tab_cell (w := w1) (t := 2) [0, 1, 2, 4, 8, 65535, 65534, 3] V hV w2 hG2 hD1.lt
    have HY : Hid (0 ≤ y ∧ y ≤ 65535) := by show _ ∧ _; simp at hy; omega
    have HG : Hid (_) := grownBy_trans hG1 (grownBy_trans (World.grownBy_alloc w1 _ (some g)) hG2)
    have HDD : Hid (_) := hD2
    clear hy hG1 hG2 hD1 hD2 hv1
    go_wp2
    go_ret
    exact ⟨y, rfl, HY.out.1, HY.out.2, HDD.out, HG.out⟩
set_option maxRecDepth 100000 in
set_option maxHeartbeats 3200000 in
theorem drawOperand_src (g : Nat) (a : Option Addr) (len cap : Nat) (w : World) (h : Dr w g a len cap) :
    Calls Tryz.prog 54 #[.pointer (some ⟨g, 0, none⟩), .bool false] w fun e w' => ∃ (m r n : Int) (l : Bool), e = .returned (.agg #[.int .i64 m, .int .i64 r, .int .i64 n, .bool l]) ∧ Dr w' g a len cap ∧ w.grownBy w' (some g) := by
  have HD0 : Hid (DrI w w g a len cap) := DrI.start h
  have hgl := h.lt
  clear h
  go_enter Tryz.func54, Tryz.ntmps54
  go_wp2_with fail
  refine (n_any g a len cap 6 _ (HD0.out.alloc _).d (by omega) (by omega)).mono ?_
  rintro e x1 ⟨v, rfl, hv0, hv1, hD, hG⟩
  have HR1 : Hid (_ = _) := heap_grown (heap_alloc_new w _) hG (by omega)
  have HD1 : Hid (DrI w x1 g a len cap) := (HD0.out.alloc _).call hD hG
  have hz1 := heap_lt HR1.out
  clear hD hG HD0
  have hv : v = 0 ∨ v = 1 ∨ v = 2 ∨ v = 3 ∨ v = 4 ∨ v = 5 := by omega
  clear hv0 hv1
  rcases hv with rfl | rfl | rfl | rfl | rfl | rfl
  · go_wp2_with fail
    have HR1s : Hid (_ = _) := heap_more HR1.out (.cells #[.int .i64 0, .int .i64 0, .int .i64 0, .bool false] 24)
    have HO1s : Hid (_ = _) := heap_alloc_new x1 (.cells #[.int .i64 0, .int .i64 0, .int .i64 0, .bool false] 24)
    have HD1s : Hid (DrI w _ g a len cap) := HD1.out.alloc (.cells #[.int .i64 0, .int .i64 0, .int .i64 0, .bool false] 24)
    refine (n_any g a len cap 16 _ HD1s.out.d (by omega) (by omega)).mono ?_
    rintro e x2 ⟨u, rfl, hu0, hu1, hD, hG⟩
    have HR2 : Hid (_ = _) := heap_grown HR1s.out hG (by omega)
    have HO2 : Hid (_ = _) := heap_grown HO1s.out hG (by omega)
    have HD2 : Hid (DrI w x2 g a len cap) := HD1s.out.call hD hG
    clear hD hG
    obtain ⟨r0, r1, r2, r3⟩ := cells4h HR2.out
    have y0 := frozen_of_row _ _ 0 _ _ HR2.out
    have y1 := frozen_of_row _ _ 1 _ _ HR2.out
    have y2 := frozen_of_row _ _ 2 _ _ HR2.out
    have y3 := frozen_of_row _ _ 3 _ _ HR2.out
    obtain ⟨c0, c1, c2, c3⟩ := cells4h HO2.out
    have f1 := frozen_of_row _ _ 1 _ _ HO2.out
    go_wp2
    exact bodyPost_ret (results_cell_row Tryz.results54 _ _ w.heap.size 24 _ (0, 0) _ rfl (set_four (set_far (Nat.ne_of_lt hz1) HR2.out)) Tryz.underlying24 rfl (by kernel_rfl)) rfl ⟨_, _, _, _, rfl, ((HD2.out.set (Nat.le_of_lt hz1) 1 _).set4 (Nat.le_refl _)).d, ((HD2.out.set (Nat.le_of_lt hz1) 1 _).set4 (Nat.le_refl _)).gr⟩
  · go_wp2_with fail
    have HR1s : Hid (_ = _) := heap_more HR1.out (.cells #[.int .i64 1, .int .i64 0, .int .i64 0, .bool false] 24)
    have HO1s : Hid (_ = _) := heap_alloc_new x1 (.cells #[.int .i64 1, .int .i64 0, .int .i64 0, .bool false] 24)
    have HD1s : Hid (DrI w _ g a len cap) := HD1.out.alloc (.cells #[.int .i64 1, .int .i64 0, .int .i64 0, .bool false] 24)
    refine (n_any g a len cap 5 _ (HD1s.out.alloc _).d (by omega) (by omega)).mono ?_
    rintro e x2 ⟨u, rfl, hu0, hu1, hD, hG⟩
    have HR2 : Hid (_ = _) := heap_grown (heap_more HR1s.out _) hG (by omega)
    have HO2 : Hid (_ = _) := heap_grown (heap_more HO1s.out _) hG (by omega)
    have HD2 : Hid (DrI w x2 g a len cap) := (HD1s.out.alloc _).call hD hG
    obtain ⟨V, rfl⟩ := Int.eq_ofNat_of_zero_le hu0
    have hV : V < 5 := by omega
    obtain ⟨y, hy, hyc⟩ := tab_cell (t := 2) [0, 1, 4, 9, 15] V hV x2 hG (by simp; omega)
    have hi0 : (0 : Int) ≤ (V : Int) := by omega
    have hi1 : (V : Int) < 5 := by omega
    have hzz : x1.heap.size < x2.heap.size := heap_lt HO2.out
    have hyc' : x2.cell? ⟨x1.heap.size + 1, V, none⟩ = some (.int .i64 y) := by simpa using hyc
    clear hD hG hu1 hy hyc
    obtain ⟨r0, r1, r2, r3⟩ := cells4h HR2.out
    have y0 := frozen_of_row _ _ 0 _ _ HR2.out
    have y1 := frozen_of_row _ _ 1 _ _ HR2.out
    have y2 := frozen_of_row _ _ 2 _ _ HR2.out
    have y3 := frozen_of_row _ _ 3 _ _ HR2.out
    obtain ⟨c0, c1, c2, c3⟩ := cells4h HO2.out
    have f1 := frozen_of_row _ _ 1 _ _ HO2.out
    go_wp2_with fail
    refine (l02N_any g a len cap _ (HD2.out.set (Nat.le_of_lt hz1) 1 _).d).mono ?_
    rintro e x3 ⟨u3, rfl, hu0, hu1, hD, hG⟩
    have HR3 : Hid (_ = _) := heap_grown (set_far (Nat.ne_of_lt hz1) HR2.out) hG (by omega)
    have HO3 : Hid (_ = _) := heap_grown (heap_set HO2.out 1 _) hG (by omega)
    simp only [List.setIfInBounds_toArray, List.set_cons_zero, List.set_cons_succ] at HO3
    have HD3 : Hid (DrI w x3 g a len cap) := (HD2.out.set (Nat.le_of_lt hz1) 1 _).call hD hG
    clear hD hG hyc' r0 r1 r2 r3 y0 y1 y2 y3 c0 c1 c2 c3 f1
    obtain ⟨r0, r1, r2, r3⟩ := cells4h HR3.out
    have y0 := frozen_of_row _ _ 0 _ _ HR3.out
    have y1 := frozen_of_row _ _ 1 _ _ HR3.out
    have y2 := frozen_of_row _ _ 2 _ _ HR3.out
    have y3 := frozen_of_row _ _ 3 _ _ HR3.out
    obtain ⟨c0, c1, c2, c3⟩ := cells4h HO3.out
    have f2 := frozen_of_row _ _ 2 _ _ HO3.out
    go_wp2
    exact bodyPost_ret (results_cell_row Tryz.results54 _ _ w.heap.size 24 _ (0, 0) _ rfl (set_four (set_far (Nat.ne_of_lt hz1) HR3.out)) Tryz.underlying24 rfl (by kernel_rfl)) rfl ⟨_, _, _, _, rfl, ((HD3.out.set (Nat.le_of_lt hz1) 2 _).set4 (Nat.le_refl _)).d, ((HD3.out.set (Nat.le_of_lt hz1) 2 _).set4 (Nat.le_refl _)).gr⟩
  · go_wp2_with fail
    have HR1s : Hid (_ = _) := heap_more HR1.out (.cells #[.int .i64 2, .int .i64 0, .int .i64 0, .bool false] 24)
    have HO1s : Hid (_ = _) := heap_alloc_new x1 (.cells #[.int .i64 2, .int .i64 0, .int .i64 0, .bool false] 24)
    have HD1s : Hid (DrI w _ g a len cap) := HD1.out.alloc (.cells #[.int .i64 2, .int .i64 0, .int .i64 0, .bool false] 24)
    refine (l02N_any g a len cap _ HD1s.out.d).mono ?_
    rintro e x2 ⟨u, rfl, hu0, hu1, hD, hG⟩
    have HR2 : Hid (_ = _) := heap_grown HR1s.out hG (by omega)
    have HO2 : Hid (_ = _) := heap_grown HO1s.out hG (by omega)
    have HD2 : Hid (DrI w x2 g a len cap) := HD1s.out.call hD hG
    clear hD hG
    obtain ⟨r0, r1, r2, r3⟩ := cells4h HR2.out
    have y0 := frozen_of_row _ _ 0 _ _ HR2.out
    have y1 := frozen_of_row _ _ 1 _ _ HR2.out
    have y2 := frozen_of_row _ _ 2 _ _ HR2.out
    have y3 := frozen_of_row _ _ 3 _ _ HR2.out
    obtain ⟨c0, c1, c2, c3⟩ := cells4h HO2.out
    have f2 := frozen_of_row _ _ 2 _ _ HO2.out
    go_wp2_with fail
    refine (l02Short_any u _).mono ?_
    rintro e x3 ⟨rfl, rfl⟩
    have HR3 : Hid (_ = _) := set_far (a := ⟨x1.heap.size, 2, none⟩) (v := .int .i64 u) (Nat.ne_of_lt hz1) HR2.out
    have HO3 : Hid (_ = _) := heap_set HO2.out 2 (.int .i64 u)
    simp only [List.setIfInBounds_toArray, List.set_cons_zero, List.set_cons_succ] at HO3
    have HD3 : Hid (DrI w _ g a len cap) := HD2.out.set (Nat.le_of_lt hz1) 2 (.int .i64 u)
    generalize x2.setCell ⟨x1.heap.size, 2, none⟩ (.int .i64 u) = x3 at *
    clear r0 r1 r2 r3 y0 y1 y2 y3 c0 c1 c2 c3 f2
    obtain ⟨r0, r1, r2, r3⟩ := cells4h HR3.out
    have y0 := frozen_of_row _ _ 0 _ _ HR3.out
    have y1 := frozen_of_row _ _ 1 _ _ HR3.out
    have y2 := frozen_of_row _ _ 2 _ _ HR3.out
    have y3 := frozen_of_row _ _ 3 _ _ HR3.out
    obtain ⟨c0, c1, c2, c3⟩ := cells4h HO3.out
    have f3 := frozen_of_row _ _ 3 _ _ HO3.out
    generalize (shortI u).1 = s1 at *
    generalize (shortI u).2.1 = s2 at *
    generalize (shortI u).2.2 = s3 at *
    cases s3
    · go_wp2
      exact bodyPost_ret (results_cell_row Tryz.results54 _ _ w.heap.size 24 _ (0, 0) _ rfl (set_four (set_far (Nat.ne_of_lt hz1) HR3.out)) Tryz.underlying24 rfl (by kernel_rfl)) rfl ⟨_, _, _, _, rfl, ((HD3.out.set (Nat.le_of_lt hz1) 3 _).set4 (Nat.le_refl _)).d, ((HD3.out.set (Nat.le_of_lt hz1) 3 _).set4 (Nat.le_refl _)).gr⟩
    · go_wp2
      exact bodyPost_ret (results_cell_row Tryz.results54 _ _ w.heap.size 24 _ (0, 0) _ rfl (set_four (set_far (Nat.ne_of_lt hz1) HR3.out)) Tryz.underlying24 rfl (by kernel_rfl)) rfl ⟨_, _, _, _, rfl, ((HD3.out.set (Nat.le_of_lt hz1) 3 _).set4 (Nat.le_refl _)).d, ((HD3.out.set (Nat.le_of_lt hz1) 3 _).set4 (Nat.le_refl _)).gr⟩
  · go_wp2_with fail
    have HR1s : Hid (_ = _) := heap_more HR1.out (.cells #[.int .i64 3, .int .i64 0, .int .i64 0, .bool false] 24)
    have HO1s : Hid (_ = _) := heap_alloc_new x1 (.cells #[.int .i64 3, .int .i64 0, .int .i64 0, .bool false] 24)
    have HD1s : Hid (DrI w _ g a len cap) := HD1.out.alloc (.cells #[.int .i64 3, .int .i64 0, .int .i64 0, .bool false] 24)
    refine (n_any g a len cap 16 _ HD1s.out.d (by omega) (by omega)).mono ?_
    rintro e x2 ⟨u, rfl, hu0, hu1, hD, hG⟩
    have HR2 : Hid (_ = _) := heap_grown HR1s.out hG (by omega)
    have HO2 : Hid (_ = _) := heap_grown HO1s.out hG (by omega)
    have HD2 : Hid (DrI w x2 g a len cap) := HD1s.out.call hD hG
    clear hD hG
    obtain ⟨r0, r1, r2, r3⟩ := cells4h HR2.out
    have y0 := frozen_of_row _ _ 0 _ _ HR2.out
    have y1 := frozen_of_row _ _ 1 _ _ HR2.out
    have y2 := frozen_of_row _ _ 2 _ _ HR2.out
    have y3 := frozen_of_row _ _ 3 _ _ HR2.out
    obtain ⟨c0, c1, c2, c3⟩ := cells4h HO2.out
    have f1 := frozen_of_row _ _ 1 _ _ HO2.out
    go_wp2
    exact bodyPost_ret (results_cell_row Tryz.results54 _ _ w.heap.size 24 _ (0, 0) _ rfl (set_four (set_far (Nat.ne_of_lt hz1) HR2.out)) Tryz.underlying24 rfl (by kernel_rfl)) rfl ⟨_, _, _, _, rfl, ((HD2.out.set (Nat.le_of_lt hz1) 1 _).set4 (Nat.le_refl _)).d, ((HD2.out.set (Nat.le_of_lt hz1) 1 _).set4 (Nat.le_refl _)).gr⟩
  · go_wp2_with fail
    have HR1s : Hid (_ = _) := heap_more HR1.out (.cells #[.int .i64 4, .int .i64 0, .int .i64 0, .bool false] 24)
    have HO1s : Hid (_ = _) := heap_alloc_new x1 (.cells #[.int .i64 4, .int .i64 0, .int .i64 0, .bool false] 24)
    have HD1s : Hid (DrI w _ g a len cap) := HD1.out.alloc (.cells #[.int .i64 4, .int .i64 0, .int .i64 0, .bool false] 24)
    refine (n_any g a len cap 12 _ HD1s.out.d (by omega) (by omega)).mono ?_
    rintro e x2 ⟨u, rfl, hu0, hu1, hD, hG⟩
    have HR2 : Hid (_ = _) := heap_grown HR1s.out hG (by omega)
    have HO2 : Hid (_ = _) := heap_grown HO1s.out hG (by omega)
    have HD2 : Hid (DrI w x2 g a len cap) := HD1s.out.call hD hG
    clear hD hG
    obtain ⟨r0, r1, r2, r3⟩ := cells4h HR2.out
    have y0 := frozen_of_row _ _ 0 _ _ HR2.out
    have y1 := frozen_of_row _ _ 1 _ _ HR2.out
    have y2 := frozen_of_row _ _ 2 _ _ HR2.out
    have y3 := frozen_of_row _ _ 3 _ _ HR2.out
    obtain ⟨c0, c1, c2, c3⟩ := cells4h HO2.out
    have f1 := frozen_of_row _ _ 1 _ _ HO2.out
    go_wp2
    exact bodyPost_ret (results_cell_row Tryz.results54 _ _ w.heap.size 24 _ (0, 0) _ rfl (set_four (set_far (Nat.ne_of_lt hz1) HR2.out)) Tryz.underlying24 rfl (by kernel_rfl)) rfl ⟨_, _, _, _, rfl, ((HD2.out.set (Nat.le_of_lt hz1) 1 _).set4 (Nat.le_refl _)).d, ((HD2.out.set (Nat.le_of_lt hz1) 1 _).set4 (Nat.le_refl _)).gr⟩
  · go_wp2_with fail
    have HR1s : Hid (_ = _) := heap_more HR1.out (.cells #[.int .i64 5, .int .i64 0, .int .i64 0, .bool false] 24)
    have HO1s : Hid (_ = _) := heap_alloc_new x1 (.cells #[.int .i64 5, .int .i64 0, .int .i64 0, .bool false] 24)
    have HD1s : Hid (DrI w _ g a len cap) := HD1.out.alloc (.cells #[.int .i64 5, .int .i64 0, .int .i64 0, .bool false] 24)
    refine (l02N_any g a len cap _ HD1s.out.d).mono ?_
    rintro e x2 ⟨u, rfl, hu0, hu1, hD, hG⟩
    have HR2 : Hid (_ = _) := heap_grown HR1s.out hG (by omega)
    have HO2 : Hid (_ = _) := heap_grown HO1s.out hG (by omega)
    have HD2 : Hid (DrI w x2 g a len cap) := HD1s.out.call hD hG
    clear hD hG
    obtain ⟨r0, r1, r2, r3⟩ := cells4h HR2.out
    have y0 := frozen_of_row _ _ 0 _ _ HR2.out
    have y1 := frozen_of_row _ _ 1 _ _ HR2.out
    have y2 := frozen_of_row _ _ 2 _ _ HR2.out
    have y3 := frozen_of_row _ _ 3 _ _ HR2.out
    obtain ⟨c0, c1, c2, c3⟩ := cells4h HO2.out
    have f2 := frozen_of_row _ _ 2 _ _ HO2.out
    go_wp2_with fail
    refine (l02Short_any u _).mono ?_
    rintro e x3 ⟨rfl, rfl⟩
    have HR3 : Hid (_ = _) := set_far (a := ⟨x1.heap.size, 2, none⟩) (v := .int .i64 u) (Nat.ne_of_lt hz1) HR2.out
    have HO3 : Hid (_ = _) := heap_set HO2.out 2 (.int .i64 u)
    simp only [List.setIfInBounds_toArray, List.set_cons_zero, List.set_cons_succ] at HO3
    have HD3 : Hid (DrI w _ g a len cap) := HD2.out.set (Nat.le_of_lt hz1) 2 (.int .i64 u)
    generalize x2.setCell ⟨x1.heap.size, 2, none⟩ (.int .i64 u) = x3 at *
    clear r0 r1 r2 r3 y0 y1 y2 y3 c0 c1 c2 c3 f2
    obtain ⟨r0, r1, r2, r3⟩ := cells4h HR3.out
    have y0 := frozen_of_row _ _ 0 _ _ HR3.out
    have y1 := frozen_of_row _ _ 1 _ _ HR3.out
    have y2 := frozen_of_row _ _ 2 _ _ HR3.out
    have y3 := frozen_of_row _ _ 3 _ _ HR3.out
    obtain ⟨c0, c1, c2, c3⟩ := cells4h HO3.out
    have f3 := frozen_of_row _ _ 3 _ _ HO3.out
    generalize (shortI u).1 = s1 at *
    generalize (shortI u).2.1 = s2 at *
    generalize (shortI u).2.2 = s3 at *
    cases s3
    · go_wp2
      exact bodyPost_ret (results_cell_row Tryz.results54 _ _ w.heap.size 24 _ (0, 0) _ rfl (set_four (set_far (Nat.ne_of_lt hz1) HR3.out)) Tryz.underlying24 rfl (by kernel_rfl)) rfl ⟨_, _, _, _, rfl, ((HD3.out.set (Nat.le_of_lt hz1) 3 _).set4 (Nat.le_refl _)).d, ((HD3.out.set (Nat.le_of_lt hz1) 3 _).set4 (Nat.le_refl _)).gr⟩
    · go_wp2_with fail
      refine (one_any g a len cap 3 _ HD3.out.d (by omega) (by omega)).mono ?_
      rintro e x4 ⟨bb, rfl, hD, hG⟩
      have HR4 : Hid (_ = _) := heap_grown HR3.out hG (by omega)
      have HO4 : Hid (_ = _) := heap_grown HO3.out hG (by omega)
      have HD4 : Hid (DrI w x4 g a len cap) := HD3.out.call hD hG
      clear hD hG r0 r1 r2 r3 y0 y1 y2 y3 c0 c1 c2 c3 f3
      obtain ⟨r0, r1, r2, r3⟩ := cells4h HR4.out
      have y0 := frozen_of_row _ _ 0 _ _ HR4.out
      have y1 := frozen_of_row _ _ 1 _ _ HR4.out
      have y2 := frozen_of_row _ _ 2 _ _ HR4.out
      have y3 := frozen_of_row _ _ 3 _ _ HR4.out
      obtain ⟨c0, c1, c2, c3⟩ := cells4h HO4.out
      have f3 := frozen_of_row _ _ 3 _ _ HO4.out
      go_wp2
      exact bodyPost_ret (results_cell_row Tryz.results54 _ _ w.heap.size 24 _ (0, 0) _ rfl (set_four (set_far (Nat.ne_of_lt hz1) HR4.out)) Tryz.underlying24 rfl (by kernel_rfl)) rfl ⟨_, _, _, _, rfl, ((HD4.out.set (Nat.le_of_lt hz1) 3 _).set4 (Nat.le_refl _)).d, ((HD4.out.set (Nat.le_of_lt hz1) 3 _).set4 (Nat.le_refl _)).gr⟩
set_option maxRecDepth 100000 in
set_option maxHeartbeats 3200000 in
theorem drawOperand_dst (g : Nat) (a : Option Addr) (len cap : Nat) (w : World) (h : Dr w g a len cap) :
    Calls Tryz.prog 54 #[.pointer (some ⟨g, 0, none⟩), .bool true] w fun e w' => ∃ (m r n : Int) (l : Bool), e = .returned (.agg #[.int .i64 m, .int .i64 r, .int .i64 n, .bool l]) ∧ Dr w' g a len cap ∧ w.grownBy w' (some g) := by
  have HD0 : Hid (DrI w w g a len cap) := DrI.start h
  have hgl := h.lt
  clear h
  go_enter Tryz.func54, Tryz.ntmps54
  go_wp2_with fail
  refine (n_any g a len cap 6 _ (HD0.out.alloc _).d (by omega) (by omega)).mono ?_
  rintro e x1 ⟨v, rfl, hv0, hv1, hD, hG⟩
  have HR1 : Hid (_ = _) := heap_grown (heap_alloc_new w _) hG (by omega)
  have HD1 : Hid (DrI w x1 g a len cap) := (HD0.out.alloc _).call hD hG
  have hz1 := heap_lt HR1.out
  clear hD hG HD0
  clear hv0 hv1
  go_wp2_with fail
  refine (n_any g a len cap 3 _ (HD1.out.alloc _).d (by omega) (by omega)).mono ?_
  rintro e xb ⟨v2, rfl, hv0, hv1, hD, hG⟩
  have HRb : Hid (_ = _) := heap_grown (heap_more HR1.out _) hG (by omega)
  have HOb : Hid (_ = _) := heap_grown (heap_alloc_new x1 _) hG (by omega)
  have HDb : Hid (DrI w xb g a len cap) := (HD1.out.alloc _).call hD hG
  have hzb := heap_lt HOb.out
  obtain ⟨d0, d1, d2, d3⟩ := cells4h HOb.out
  have e0 := frozen_of_row _ _ 0 _ _ HOb.out
  have hv : v2 = 0 ∨ v2 = 1 ∨ v2 = 2 := by omega
  clear hv0 hv1 hD hG
  rcases hv with rfl | rfl | rfl
  · go_wp2_with fail
    have HR1s : Hid (_ = _) := set_far (a := ⟨x1.heap.size, 0, none⟩) (v := .int .i64 0) (Nat.ne_of_lt hz1) HRb.out
    have HO1s : Hid (_ = _) := heap_set HOb.out 0 (.int .i64 0)
    simp only [List.setIfInBounds_toArray, List.set_cons_zero] at HO1s
    have HD1s : Hid (DrI w _ g a len cap) := HDb.out.set (Nat.le_of_lt hz1) 0 (.int .i64 0)
    refine (n_any g a len cap 16 _ HD1s.out.d (by omega) (by omega)).mono ?_
    rintro e x2 ⟨u, rfl, hu0, hu1, hD, hG⟩
    have HR2 : Hid (_ = _) := heap_grown HR1s.out hG (by omega)
    have HO2 : Hid (_ = _) := heap_grown HO1s.out hG (by omega)
    have HD2 : Hid (DrI w x2 g a len cap) := HD1s.out.call hD hG
    clear hD hG
    obtain ⟨r0, r1, r2, r3⟩ := cells4h HR2.out
    have y0 := frozen_of_row _ _ 0 _ _ HR2.out
    have y1 := frozen_of_row _ _ 1 _ _ HR2.out
    have y2 := frozen_of_row _ _ 2 _ _ HR2.out
    have y3 := frozen_of_row _ _ 3 _ _ HR2.out
    obtain ⟨c0, c1, c2, c3⟩ := cells4h HO2.out
    have f1 := frozen_of_row _ _ 1 _ _ HO2.out
    go_wp2
    exact bodyPost_ret (results_cell_row Tryz.results54 _ _ w.heap.size 24 _ (0, 0) _ rfl (set_four (set_far (Nat.ne_of_lt hz1) HR2.out)) Tryz.underlying24 rfl (by kernel_rfl)) rfl ⟨_, _, _, _, rfl, ((HD2.out.set (Nat.le_of_lt hz1) 1 _).set4 (Nat.le_refl _)).d, ((HD2.out.set (Nat.le_of_lt hz1) 1 _).set4 (Nat.le_refl _)).gr⟩
  · go_wp2_with fail
    have HR1s : Hid (_ = _) := set_far (a := ⟨x1.heap.size, 0, none⟩) (v := .int .i64 1) (Nat.ne_of_lt hz1) HRb.out
    have HO1s : Hid (_ = _) := heap_set HOb.out 0 (.int .i64 1)
    simp only [List.setIfInBounds_toArray, List.set_cons_zero] at HO1s
    have HD1s : Hid (DrI w _ g a len cap) := HDb.out.set (Nat.le_of_lt hz1) 0 (.int .i64 1)
    refine (n_any g a len cap 5 _ (HD1s.out.alloc _).d (by omega) (by omega)).mono ?_
    rintro e x2 ⟨u, rfl, hu0, hu1, hD, hG⟩
    have HR2 : Hid (_ = _) := heap_grown (heap_more HR1s.out _) hG (by omega)
    have HO2 : Hid (_ = _) := heap_grown (heap_more HO1s.out _) hG (by omega)
    have HD2 : Hid (DrI w x2 g a len cap) := (HD1s.out.alloc _).call hD hG
    obtain ⟨V, rfl⟩ := Int.eq_ofNat_of_zero_le hu0
    have hV : V < 5 := by omega
    obtain ⟨y, hy, hyc⟩ := tab_cell (t := 2) [0, 1, 4, 9, 15] V hV x2 hG (by simp; omega)
    have hi0 : (0 : Int) ≤ (V : Int) := by omega
    have hi1 : (V : Int) < 5 := by omega
    have hzz : x1.heap.size < x2.heap.size := heap_lt HO2.out
    have hyc' : x2.cell? ⟨xb.heap.size, V, none⟩ = some (.int .i64 y) := by simpa using hyc
    clear hD hG hu1 hy hyc
    obtain ⟨r0, r1, r2, r3⟩ := cells4h HR2.out
    have y0 := frozen_of_row _ _ 0 _ _ HR2.out
    have y1 := frozen_of_row _ _ 1 _ _ HR2.out
    have y2 := frozen_of_row _ _ 2 _ _ HR2.out
    have y3 := frozen_of_row _ _ 3 _ _ HR2.out
    obtain ⟨c0, c1, c2, c3⟩ := cells4h HO2.out
    have f1 := frozen_of_row _ _ 1 _ _ HO2.out
    go_wp2_with fail
    refine (l02N_any g a len cap _ (HD2.out.set (Nat.le_of_lt hz1) 1 _).d).mono ?_
    rintro e x3 ⟨u3, rfl, hu0, hu1, hD, hG⟩
    have HR3 : Hid (_ = _) := heap_grown (set_far (Nat.ne_of_lt hz1) HR2.out) hG (by omega)
    have HO3 : Hid (_ = _) := heap_grown (heap_set HO2.out 1 _) hG (by omega)
    simp only [List.setIfInBounds_toArray, List.set_cons_zero, List.set_cons_succ] at HO3
    have HD3 : Hid (DrI w x3 g a len cap) := (HD2.out.set (Nat.le_of_lt hz1) 1 _).call hD hG
    clear hD hG hyc' r0 r1 r2 r3 y0 y1 y2 y3 c0 c1 c2 c3 f1
    obtain ⟨r0, r1, r2, r3⟩ := cells4h HR3.out
    have y0 := frozen_of_row _ _ 0 _ _ HR3.out
    have y1 := frozen_of_row _ _ 1 _ _ HR3.out
    have y2 := frozen_of_row _ _ 2 _ _ HR3.out
    have y3 := frozen_of_row _ _ 3 _ _ HR3.out
    obtain ⟨c0, c1, c2, c3⟩ := cells4h HO3.out
    have f2 := frozen_of_row _ _ 2 _ _ HO3.out
    go_wp2
    exact bodyPost_ret (results_cell_row Tryz.results54 _ _ w.heap.size 24 _ (0, 0) _ rfl (set_four (set_far (Nat.ne_of_lt hz1) HR3.out)) Tryz.underlying24 rfl (by kernel_rfl)) rfl ⟨_, _, _, _, rfl, ((HD3.out.set (Nat.le_of_lt hz1) 2 _).set4 (Nat.le_refl _)).d, ((HD3.out.set (Nat.le_of_lt hz1) 2 _).set4 (Nat.le_refl _)).gr⟩
  · go_wp2_with fail
    have HR1s : Hid (_ = _) := set_far (a := ⟨x1.heap.size, 0, none⟩) (v := .int .i64 2) (Nat.ne_of_lt hz1) HRb.out
    have HO1s : Hid (_ = _) := heap_set HOb.out 0 (.int .i64 2)
    simp only [List.setIfInBounds_toArray, List.set_cons_zero] at HO1s
    have HD1s : Hid (DrI w _ g a len cap) := HDb.out.set (Nat.le_of_lt hz1) 0 (.int .i64 2)
    refine (l02N_any g a len cap _ HD1s.out.d).mono ?_
    rintro e x2 ⟨u, rfl, hu0, hu1, hD, hG⟩
    have HR2 : Hid (_ = _) := heap_grown HR1s.out hG (by omega)
    have HO2 : Hid (_ = _) := heap_grown HO1s.out hG (by omega)
    have HD2 : Hid (DrI w x2 g a len cap) := HD1s.out.call hD hG
    clear hD hG
    obtain ⟨r0, r1, r2, r3⟩ := cells4h HR2.out
    have y0 := frozen_of_row _ _ 0 _ _ HR2.out
    have y1 := frozen_of_row _ _ 1 _ _ HR2.out
    have y2 := frozen_of_row _ _ 2 _ _ HR2.out
    have y3 := frozen_of_row _ _ 3 _ _ HR2.out
    obtain ⟨c0, c1, c2, c3⟩ := cells4h HO2.out
    have f2 := frozen_of_row _ _ 2 _ _ HO2.out
    go_wp2_with fail
    refine (l02Short_any u _).mono ?_
    rintro e x3 ⟨rfl, rfl⟩
    have HR3 : Hid (_ = _) := set_far (a := ⟨x1.heap.size, 2, none⟩) (v := .int .i64 u) (Nat.ne_of_lt hz1) HR2.out
    have HO3 : Hid (_ = _) := heap_set HO2.out 2 (.int .i64 u)
    simp only [List.setIfInBounds_toArray, List.set_cons_zero, List.set_cons_succ] at HO3
    have HD3 : Hid (DrI w _ g a len cap) := HD2.out.set (Nat.le_of_lt hz1) 2 (.int .i64 u)
    generalize x2.setCell ⟨x1.heap.size, 2, none⟩ (.int .i64 u) = x3 at *
    clear r0 r1 r2 r3 y0 y1 y2 y3 c0 c1 c2 c3 f2
    obtain ⟨r0, r1, r2, r3⟩ := cells4h HR3.out
    have y0 := frozen_of_row _ _ 0 _ _ HR3.out
    have y1 := frozen_of_row _ _ 1 _ _ HR3.out
    have y2 := frozen_of_row _ _ 2 _ _ HR3.out
    have y3 := frozen_of_row _ _ 3 _ _ HR3.out
    obtain ⟨c0, c1, c2, c3⟩ := cells4h HO3.out
    have f3 := frozen_of_row _ _ 3 _ _ HO3.out
    generalize (shortI u).1 = s1 at *
    generalize (shortI u).2.1 = s2 at *
    generalize (shortI u).2.2 = s3 at *
    cases s3
    · go_wp2
      exact bodyPost_ret (results_cell_row Tryz.results54 _ _ w.heap.size 24 _ (0, 0) _ rfl (set_four (set_far (Nat.ne_of_lt hz1) HR3.out)) Tryz.underlying24 rfl (by kernel_rfl)) rfl ⟨_, _, _, _, rfl, ((HD3.out.set (Nat.le_of_lt hz1) 3 _).set4 (Nat.le_refl _)).d, ((HD3.out.set (Nat.le_of_lt hz1) 3 _).set4 (Nat.le_refl _)).gr⟩
    · go_wp2
      exact bodyPost_ret (results_cell_row Tryz.results54 _ _ w.heap.size 24 _ (0, 0) _ rfl (set_four (set_far (Nat.ne_of_lt hz1) HR3.out)) Tryz.underlying24 rfl (by kernel_rfl)) rfl ⟨_, _, _, _, rfl, ((HD3.out.set (Nat.le_of_lt hz1) 3 _).set4 (Nat.le_refl _)).d, ((HD3.out.set (Nat.le_of_lt hz1) 3 _).set4 (Nat.le_refl _)).gr⟩
theorem drawOperand_any (dst : Bool) (g : Nat) (a : Option Addr) (len cap : Nat) (w : World) (h : Dr w g a len cap) :
    Calls Tryz.prog 54 #[.pointer (some ⟨g, 0, none⟩), .bool dst] w fun e w' => ∃ (m r n : Int) (l : Bool), e = .returned (.agg #[.int .i64 m, .int .i64 r, .int .i64 n, .bool l]) ∧ Dr w' g a len cap ∧ w.grownBy w' (some g) := by
  cases dst
  · exact drawOperand_src g a len cap w h
  · exact drawOperand_dst g a len cap w h
end Go.Proofs.YtodjccipfonaiaaGreatDoor
namespace Go.Proofs.YtodjccipfonaiaaGreatDoor
open Go.RowKit
set_option linter.unusedVariables false

theorem DrI.set11 {w0 w : World} {g : Nat} {a : Option Addr} {len cap : Nat} (h : DrI w0 w g a len cap) {B : Nat} (hB : w0.heap.size ≤ B) {a0 a1 a2 a3 a4 a5 a6 a7 a8 a9 a10 : Value} : DrI w0 (((((((((((w.setCell ⟨B, 0, none⟩ a0).setCell ⟨B, 1, none⟩ a1).setCell ⟨B, 2, none⟩ a2).setCell ⟨B, 3, none⟩ a3).setCell ⟨B, 4, none⟩ a4).setCell ⟨B, 5, none⟩ a5).setCell ⟨B, 6, none⟩ a6).setCell ⟨B, 7, none⟩ a7).setCell ⟨B, 8, none⟩ a8).setCell ⟨B, 9, none⟩ a9).setCell ⟨B, 10, none⟩ a10) g a len cap :=
  ((((((((((h.set hB 0 _).set hB 1 _).set hB 2 _).set hB 3 _).set hB 4 _).set hB 5 _).set hB 6 _).set hB 7 _).set hB 8 _).set hB 9 _).set hB 10 _
theorem ops_at (q cap : Nat) (t : ByteArray) (w : World) (hc : ∀ i (h : i < 27), w.cell? ⟨q, i, none⟩ = some (.string (opsAll[i]'h))) : Calls Tryz.prog 53 #[.slice (some ⟨q, 0, none⟩) 27 cap, .string t] w fun e w' => e = .returned (.int .i64 (atI opsAll t)) ∧ w' = w :=
  l02At_any q opsAll cap t w (by decide +kernel) hc
def InsOut (w : World) (g : Nat) (a : Option Addr) (len cap : Nat) (e : Ending) (w' : World) : Prop := ∃ (op : ByteArray) (b : Bool) (m r n : Int) (l : Bool) (m2 r2 n2 : Int) (l2 : Bool) (j : Int), e = .returned (.agg #[.string op, .bool b, .int .i64 m, .int .i64 r, .int .i64 n, .bool l, .int .i64 m2, .int .i64 r2, .int .i64 n2, .bool l2, .int .i64 j]) ∧ Dr w' g a len cap ∧ w.grownBy w' (some g)
set_option maxRecDepth 100000 in
set_option maxHeartbeats 40000000 in
theorem drawInsn_any (g : Nat) (a : Option Addr) (len cap : Nat) (w : World) (h : Dr w g a len cap) : Calls Tryz.prog 20 #[.pointer (some ⟨g, 0, none⟩)] w (InsOut w g a len cap) := by
  unfold InsOut
  have HD0 : Hid (DrI w w g a len cap) := DrI.start h
  have hgl := h.lt
  clear h
  go_enter Tryz.func20, Tryz.ntmps20
  go_wp2_with fail
  refine (specOps_any _).mono ?_
  rintro e x1 ⟨v, rfl, ho, hb⟩
  have HR1 : Hid (_ = _) := heap_keep (heap_alloc_new w _) hb
  have HD1 : Hid (DrI w x1 g a len cap) := (HD0.out.alloc _).below hb
  clear hb
  rcases ho.form with ⟨_, e⟩ | ⟨q, qc, cur, rfl, hq, hqh, hq1, hq2, hq3, hq4⟩
  · exact absurd e (by decide +kernel)
  have HQ1 : Hid (_ = _) := hqh
  have HC : Hid (∀ i (h : i < 27), cur[i]? = some (.string (opsAll[i]'h))) := hq4
  have hqn : w.heap.size < q := by simp at hq; omega
  have e27 : opsAll.length = 27 := by decide +kernel
  rw [e27]
  clear ho hq hqh hq1 hq2 hq3 hq4 HD0 e27
  go_wp2_with fail
  refine (n_any g a len cap 27 _ HD1.out.d (by omega) (by omega)).mono ?_
  rintro e x2 ⟨u, rfl, hv0, hv1, hD, hG⟩
  have HQ2 : Hid (_ = _) := heap_grown HQ1.out hG (by omega)
  have HR2 : Hid (_ = _) := heap_grown HR1.out hG (by omega)
  have HD2 : Hid (DrI w x2 g a len cap) := HD1.out.call hD hG
  obtain ⟨U, rfl⟩ := Int.eq_ofNat_of_zero_le hv0
  have hU : U < 27 := by omega
  have hcu : x2.cell? ⟨q, U, none⟩ = some (.string (opsAll[U]'hU)) := by simp [World.cell?, HQ2.out, HC.out U hU]
  have hi0 : (0 : Int) ≤ (U : Int) := by omega
  have hi1 : (U : Int) < 27 := by omega
  clear hv0 hv1 hD hG HQ1 HR1 HD1
  generalize (opsAll[U]'hU) = op at *
  have hzx := heap_lt HQ2.out
  go_wp2_with fail
  refine (ops_at q qc op _ (fun i h => by rw [cell_of_row _ _ i _ _ _ (heap_more HQ2.out _)]; exact HC.out i h)).mono ?_
  rintro e x3 ⟨rfl, rfl⟩
  generalize atI opsAll op = k at *
  have HIa : Hid (_ = _) := heap_alloc_new x2 (.cells #[.string op, .bool false, .int .i64 0, .int .i64 0, .int .i64 0, .bool false, .int .i64 0, .int .i64 0, .int .i64 0, .bool false, .int .i64 0] 26)
  have HRa : Hid (_ = _) := heap_more HR2.out (.cells #[.string op, .bool false, .int .i64 0, .int .i64 0, .int .i64 0, .bool false, .int .i64 0, .int .i64 0, .int .i64 0, .bool false, .int .i64 0] 26)
  have HDa : Hid (DrI w _ g a len cap) := HD2.out.alloc (.cells #[.string op, .bool false, .int .i64 0, .int .i64 0, .int .i64 0, .bool false, .int .i64 0, .int .i64 0, .int .i64 0, .bool false, .int .i64 0] 26)
  have hz1 : w.heap.size < x2.heap.size := heap_lt HR2.out
  clear hcu HQ2 HR2 HD2
  generalize x2.alloc (.cells #[.string op, .bool false, .int .i64 0, .int .i64 0, .int .i64 0, .bool false, .int .i64 0, .int .i64 0, .int .i64 0, .bool false, .int .i64 0] 26) = ya at *
  generalize x2.heap.size = B at *
  have hB : w.heap.size ≤ B := Nat.le_of_lt hz1
  have hne : w.heap.size ≠ B := Nat.ne_of_lt hz1
  by_cases k1 : k < 12
  · go_wp2_with fail
    refine (one_any g a len cap 3 _ HDa.out.d (by omega) (by omega)).mono ?_
    rintro e xb ⟨b1, rfl, hD, hG⟩
    have HIxb : Hid (_ = _) := heap_grown HIa.out hG (by omega)
    have HRxb : Hid (_ = _) := heap_grown HRa.out hG (by omega)
    have HDxb : Hid (DrI w xb g a len cap) := HDa.out.call hD hG
    clear hD hG
    obtain ⟨c0, c1, c2, c3, c4, c5, c6, c7, c8, c9, c10⟩ := cells11 HIxb.out
    have f1 := frozen_of_row _ _ 1 _ _ HIxb.out
    go_wp2_with fail
    have HIxc : Hid (_ = _) := (heap_set HIxb.out 1 (.bool b1))
    have HRxc : Hid (_ = _) := (set_far (a := ⟨B, 1, none⟩) (v := .bool b1) hne HRxb.out)
    have HDxc : Hid (DrI w _ g a len cap) := (HDxb.out.set hB 1 (.bool b1))
    simp only [List.setIfInBounds_toArray, List.set_cons_zero, List.set_cons_succ] at HIxc
    clear c0 c1 c2 c3 c4 c5 c6 c7 c8 c9 c10 f1
    refine (drawOperand_any false g a len cap _ HDxc.out.d).mono ?_
    rintro e xd ⟨m, r, n, l, rfl, hD, hG⟩
    have HIxd : Hid (_ = _) := heap_grown HIxc.out hG (by omega)
    have HRxd : Hid (_ = _) := heap_grown HRxc.out hG (by omega)
    have HDxd : Hid (DrI w xd g a len cap) := HDxc.out.call hD hG
    clear hD hG
    obtain ⟨c0, c1, c2, c3, c4, c5, c6, c7, c8, c9, c10⟩ := cells11 HIxd.out
    have f2 := frozen_of_row _ _ 2 _ _ HIxd.out
    have f3 := frozen_of_row _ _ 3 _ _ HIxd.out
    have f4 := frozen_of_row _ _ 4 _ _ HIxd.out
    have f5 := frozen_of_row _ _ 5 _ _ HIxd.out
    go_wp2_with fail
    have HIxe : Hid (_ = _) := (heap_set (heap_set (heap_set (heap_set HIxd.out 2 (.int .i64 m)) 3 (.int .i64 r)) 4 (.int .i64 n)) 5 (.bool l))
    have HRxe : Hid (_ = _) := (set_far (a := ⟨B, 5, none⟩) (v := .bool l) hne (set_far (a := ⟨B, 4, none⟩) (v := .int .i64 n) hne (set_far (a := ⟨B, 3, none⟩) (v := .int .i64 r) hne (set_far (a := ⟨B, 2, none⟩) (v := .int .i64 m) hne HRxd.out))))
    have HDxe : Hid (DrI w _ g a len cap) := ((((HDxd.out.set hB 2 (.int .i64 m)).set hB 3 (.int .i64 r)).set hB 4 (.int .i64 n)).set hB 5 (.bool l))
    simp only [List.setIfInBounds_toArray, List.set_cons_zero, List.set_cons_succ] at HIxe
    clear c0 c1 c2 c3 c4 c5 c6 c7 c8 c9 c10 f2 f3 f4 f5
    refine (drawOperand_any true g a len cap _ HDxe.out.d).mono ?_
    rintro e xf ⟨m2, r2, n2, l2, rfl, hD, hG⟩
    have HIxf : Hid (_ = _) := heap_grown HIxe.out hG (by omega)
    have HRxf : Hid (_ = _) := heap_grown HRxe.out hG (by omega)
    have HDxf : Hid (DrI w xf g a len cap) := HDxe.out.call hD hG
    clear hD hG
    obtain ⟨c0, c1, c2, c3, c4, c5, c6, c7, c8, c9, c10⟩ := cells11 HIxf.out
    have f6 := frozen_of_row _ _ 6 _ _ HIxf.out
    have f7 := frozen_of_row _ _ 7 _ _ HIxf.out
    have f8 := frozen_of_row _ _ 8 _ _ HIxf.out
    have f9 := frozen_of_row _ _ 9 _ _ HIxf.out
    go_wp2_with fail
    have HIxg : Hid (_ = _) := (heap_set (heap_set (heap_set (heap_set HIxf.out 6 (.int .i64 m2)) 7 (.int .i64 r2)) 8 (.int .i64 n2)) 9 (.bool l2))
    have HRxg : Hid (_ = _) := (set_far (a := ⟨B, 9, none⟩) (v := .bool l2) hne (set_far (a := ⟨B, 8, none⟩) (v := .int .i64 n2) hne (set_far (a := ⟨B, 7, none⟩) (v := .int .i64 r2) hne (set_far (a := ⟨B, 6, none⟩) (v := .int .i64 m2) hne HRxf.out))))
    have HDxg : Hid (DrI w _ g a len cap) := ((((HDxf.out.set hB 6 (.int .i64 m2)).set hB 7 (.int .i64 r2)).set hB 8 (.int .i64 n2)).set hB 9 (.bool l2))
    simp only [List.setIfInBounds_toArray, List.set_cons_zero, List.set_cons_succ] at HIxg
    clear c0 c1 c2 c3 c4 c5 c6 c7 c8 c9 c10 f6 f7 f8 f9
    refine (one_any g a len cap 20 _ HDxg.out.d (by omega) (by omega)).mono ?_
    rintro e t1 ⟨bb, rfl, hD, hG⟩
    have HIt1 : Hid (_ = _) := heap_grown HIxg.out hG (by omega)
    have HRt1 : Hid (_ = _) := heap_grown HRxg.out hG (by omega)
    have HDt1 : Hid (DrI w t1 g a len cap) := HDxg.out.call hD hG
    clear hD hG
    cases bb
    · obtain ⟨r0, r1, r2, r3, r4, r5, r6, r7, r8, r9, r10⟩ := cells11 HRt1.out
      have y0 := frozen_of_row _ _ 0 _ _ HRt1.out
      have y1 := frozen_of_row _ _ 1 _ _ HRt1.out
      have y2 := frozen_of_row _ _ 2 _ _ HRt1.out
      have y3 := frozen_of_row _ _ 3 _ _ HRt1.out
      have y4 := frozen_of_row _ _ 4 _ _ HRt1.out
      have y5 := frozen_of_row _ _ 5 _ _ HRt1.out
      have y6 := frozen_of_row _ _ 6 _ _ HRt1.out
      have y7 := frozen_of_row _ _ 7 _ _ HRt1.out
      have y8 := frozen_of_row _ _ 8 _ _ HRt1.out
      have y9 := frozen_of_row _ _ 9 _ _ HRt1.out
      have y10 := frozen_of_row _ _ 10 _ _ HRt1.out
      obtain ⟨c0, c1, c2, c3, c4, c5, c6, c7, c8, c9, c10⟩ := cells11 HIt1.out
      go_wp2
      exact bodyPost_ret (results_cell_row Tryz.results20 _ _ w.heap.size 26 _ (0, 0) _ rfl (set_eleven HRt1.out) Tryz.underlying26 rfl (by kernel_rfl)) rfl ⟨_, _, _, _, _, _, _, _, _, _, _, rfl, (DrI.set11 HDt1.out (Nat.le_refl _)).d, (DrI.set11 HDt1.out (Nat.le_refl _)).gr⟩
    · go_wp2_with fail
      refine (n_any g a len cap 6 _ HDt1.out.d (by omega) (by omega)).mono ?_
      rintro e t2 ⟨v6, rfl, hv0, hv1, hD, hG⟩
      have HIt2 : Hid (_ = _) := heap_grown HIt1.out hG (by omega)
      have HRt2 : Hid (_ = _) := heap_grown HRt1.out hG (by omega)
      have HDt2 : Hid (DrI w t2 g a len cap) := HDt1.out.call hD hG
      have hv : v6 = 0 ∨ v6 = 1 ∨ v6 = 2 ∨ v6 = 3 ∨ v6 = 4 ∨ v6 = 5 := by omega
      clear hv0 hv1 hD hG
      rcases hv with rfl | rfl | rfl | rfl | rfl | rfl
      · go_wp2_with fail
        refine (n_any g a len cap 3 _ (HDt2.out.alloc _).d (by omega) (by omega)).mono ?_
        rintro e t3 ⟨u3, rfl, hv0, hv1, hD, hG⟩
        have HIt3 : Hid (_ = _) := heap_grown (heap_more HIt2.out _) hG (by omega)
        have HRt3 : Hid (_ = _) := heap_grown (heap_more HRt2.out _) hG (by omega)
        have HDt3 : Hid (DrI w t3 g a len cap) := (HDt2.out.alloc _).call hD hG
        obtain ⟨V, rfl⟩ := Int.eq_ofNat_of_zero_le hv0
        have hV : V < 3 := by omega
        obtain ⟨y, hy, hyc⟩ := tab_cell (t := 2) [-513, 512, 1] V hV t3 hG (by have := heap_lt HIt2.out; omega)
        have hi0 : (0 : Int) ≤ (V : Int) := by omega
        have hi1 : (V : Int) < 3 := by omega
        clear hv0 hv1 hD hG hy
        obtain ⟨r0, r1, r2, r3, r4, r5, r6, r7, r8, r9, r10⟩ := cells11 HRt3.out
        have y0 := frozen_of_row _ _ 0 _ _ HRt3.out
        have y1 := frozen_of_row _ _ 1 _ _ HRt3.out
        have y2 := frozen_of_row _ _ 2 _ _ HRt3.out
        have y3 := frozen_of_row _ _ 3 _ _ HRt3.out
        have y4 := frozen_of_row _ _ 4 _ _ HRt3.out
        have y5 := frozen_of_row _ _ 5 _ _ HRt3.out
        have y6 := frozen_of_row _ _ 6 _ _ HRt3.out
        have y7 := frozen_of_row _ _ 7 _ _ HRt3.out
        have y8 := frozen_of_row _ _ 8 _ _ HRt3.out
        have y9 := frozen_of_row _ _ 9 _ _ HRt3.out
        have y10 := frozen_of_row _ _ 10 _ _ HRt3.out
        obtain ⟨c0, c1, c2, c3, c4, c5, c6, c7, c8, c9, c10⟩ := cells11 HIt3.out
        have f10 := frozen_of_row _ _ 10 _ _ HIt3.out
        go_wp2
        exact bodyPost_ret (results_cell_row Tryz.results20 _ _ w.heap.size 26 _ (0, 0) _ rfl (set_eleven (set_far hne HRt3.out)) Tryz.underlying26 rfl (by kernel_rfl)) rfl ⟨_, _, _, _, _, _, _, _, _, _, _, rfl, (DrI.set11 (HDt3.out.set hB 10 _) (Nat.le_refl _)).d, (DrI.set11 (HDt3.out.set hB 10 _) (Nat.le_refl _)).gr⟩
      · obtain ⟨r0, r1, r2, r3, r4, r5, r6, r7, r8, r9, r10⟩ := cells11 HRt2.out
        have y0 := frozen_of_row _ _ 0 _ _ HRt2.out
        have y1 := frozen_of_row _ _ 1 _ _ HRt2.out
        have y2 := frozen_of_row _ _ 2 _ _ HRt2.out
        have y3 := frozen_of_row _ _ 3 _ _ HRt2.out
        have y4 := frozen_of_row _ _ 4 _ _ HRt2.out
        have y5 := frozen_of_row _ _ 5 _ _ HRt2.out
        have y6 := frozen_of_row _ _ 6 _ _ HRt2.out
        have y7 := frozen_of_row _ _ 7 _ _ HRt2.out
        have y8 := frozen_of_row _ _ 8 _ _ HRt2.out
        have y9 := frozen_of_row _ _ 9 _ _ HRt2.out
        have y10 := frozen_of_row _ _ 10 _ _ HRt2.out
        obtain ⟨c0, c1, c2, c3, c4, c5, c6, c7, c8, c9, c10⟩ := cells11 HIt2.out
        have f1 := frozen_of_row _ _ 1 _ _ HIt2.out
        go_wp2
        exact bodyPost_ret (results_cell_row Tryz.results20 _ _ w.heap.size 26 _ (0, 0) _ rfl (set_eleven (set_far hne HRt2.out)) Tryz.underlying26 rfl (by kernel_rfl)) rfl ⟨_, _, _, _, _, _, _, _, _, _, _, rfl, (DrI.set11 (HDt2.out.set hB 1 _) (Nat.le_refl _)).d, (DrI.set11 (HDt2.out.set hB 1 _) (Nat.le_refl _)).gr⟩
      · go_wp2_with fail
        refine (n_any g a len cap 4 _ (HDt2.out.alloc _).d (by omega) (by omega)).mono ?_
        rintro e t3 ⟨u3, rfl, hv0, hv1, hD, hG⟩
        have HIt3 : Hid (_ = _) := heap_grown (heap_more HIt2.out _) hG (by omega)
        have HRt3 : Hid (_ = _) := heap_grown (heap_more HRt2.out _) hG (by omega)
        have HDt3 : Hid (DrI w t3 g a len cap) := (HDt2.out.alloc _).call hD hG
        obtain ⟨V, rfl⟩ := Int.eq_ofNat_of_zero_le hv0
        have hV : V < 4 := by omega
        obtain ⟨y, hy, hyc⟩ := tab_cell (t := 2) [2, 3, 16, -1] V hV t3 hG (by have := heap_lt HIt2.out; omega)
        have hi0 : (0 : Int) ≤ (V : Int) := by omega
        have hi1 : (V : Int) < 4 := by omega
        clear hv0 hv1 hD hG hy
        obtain ⟨r0, r1, r2, r3, r4, r5, r6, r7, r8, r9, r10⟩ := cells11 HRt3.out
        have y0 := frozen_of_row _ _ 0 _ _ HRt3.out
        have y1 := frozen_of_row _ _ 1 _ _ HRt3.out
        have y2 := frozen_of_row _ _ 2 _ _ HRt3.out
        have y3 := frozen_of_row _ _ 3 _ _ HRt3.out
        have y4 := frozen_of_row _ _ 4 _ _ HRt3.out
        have y5 := frozen_of_row _ _ 5 _ _ HRt3.out
        have y6 := frozen_of_row _ _ 6 _ _ HRt3.out
        have y7 := frozen_of_row _ _ 7 _ _ HRt3.out
        have y8 := frozen_of_row _ _ 8 _ _ HRt3.out
        have y9 := frozen_of_row _ _ 9 _ _ HRt3.out
        have y10 := frozen_of_row _ _ 10 _ _ HRt3.out
        obtain ⟨c0, c1, c2, c3, c4, c5, c6, c7, c8, c9, c10⟩ := cells11 HIt3.out
        have f3 := frozen_of_row _ _ 3 _ _ HIt3.out
        go_wp2
        exact bodyPost_ret (results_cell_row Tryz.results20 _ _ w.heap.size 26 _ (0, 0) _ rfl (set_eleven (set_far hne HRt3.out)) Tryz.underlying26 rfl (by kernel_rfl)) rfl ⟨_, _, _, _, _, _, _, _, _, _, _, rfl, (DrI.set11 (HDt3.out.set hB 3 _) (Nat.le_refl _)).d, (DrI.set11 (HDt3.out.set hB 3 _) (Nat.le_refl _)).gr⟩
      · go_wp2_with fail
        refine (n_any g a len cap 3 _ (HDt2.out.alloc _).d (by omega) (by omega)).mono ?_
        rintro e t3 ⟨u3, rfl, hv0, hv1, hD, hG⟩
        have HIt3 : Hid (_ = _) := heap_grown (heap_more HIt2.out _) hG (by omega)
        have HRt3 : Hid (_ = _) := heap_grown (heap_more HRt2.out _) hG (by omega)
        have HDt3 : Hid (DrI w t3 g a len cap) := (HDt2.out.alloc _).call hD hG
        obtain ⟨V, rfl⟩ := Int.eq_ofNat_of_zero_le hv0
        have hV : V < 3 := by omega
        obtain ⟨y, hy, hyc⟩ := tab_cell (t := 2) [-1, 65536, 1] V hV t3 hG (by have := heap_lt HIt2.out; omega)
        have hi0 : (0 : Int) ≤ (V : Int) := by omega
        have hi1 : (V : Int) < 3 := by omega
        clear hv0 hv1 hD hG hy
        obtain ⟨r0, r1, r2, r3, r4, r5, r6, r7, r8, r9, r10⟩ := cells11 HRt3.out
        have y0 := frozen_of_row _ _ 0 _ _ HRt3.out
        have y1 := frozen_of_row _ _ 1 _ _ HRt3.out
        have y2 := frozen_of_row _ _ 2 _ _ HRt3.out
        have y3 := frozen_of_row _ _ 3 _ _ HRt3.out
        have y4 := frozen_of_row _ _ 4 _ _ HRt3.out
        have y5 := frozen_of_row _ _ 5 _ _ HRt3.out
        have y6 := frozen_of_row _ _ 6 _ _ HRt3.out
        have y7 := frozen_of_row _ _ 7 _ _ HRt3.out
        have y8 := frozen_of_row _ _ 8 _ _ HRt3.out
        have y9 := frozen_of_row _ _ 9 _ _ HRt3.out
        have y10 := frozen_of_row _ _ 10 _ _ HRt3.out
        obtain ⟨c0, c1, c2, c3, c4, c5, c6, c7, c8, c9, c10⟩ := cells11 HIt3.out
        have f8 := frozen_of_row _ _ 8 _ _ HIt3.out
        go_wp2
        exact bodyPost_ret (results_cell_row Tryz.results20 _ _ w.heap.size 26 _ (0, 0) _ rfl (set_eleven (set_far hne HRt3.out)) Tryz.underlying26 rfl (by kernel_rfl)) rfl ⟨_, _, _, _, _, _, _, _, _, _, _, rfl, (DrI.set11 (HDt3.out.set hB 8 _) (Nat.le_refl _)).d, (DrI.set11 (HDt3.out.set hB 8 _) (Nat.le_refl _)).gr⟩
      · obtain ⟨r0, r1, r2, r3, r4, r5, r6, r7, r8, r9, r10⟩ := cells11 HRt2.out
        have y0 := frozen_of_row _ _ 0 _ _ HRt2.out
        have y1 := frozen_of_row _ _ 1 _ _ HRt2.out
        have y2 := frozen_of_row _ _ 2 _ _ HRt2.out
        have y3 := frozen_of_row _ _ 3 _ _ HRt2.out
        have y4 := frozen_of_row _ _ 4 _ _ HRt2.out
        have y5 := frozen_of_row _ _ 5 _ _ HRt2.out
        have y6 := frozen_of_row _ _ 6 _ _ HRt2.out
        have y7 := frozen_of_row _ _ 7 _ _ HRt2.out
        have y8 := frozen_of_row _ _ 8 _ _ HRt2.out
        have y9 := frozen_of_row _ _ 9 _ _ HRt2.out
        have y10 := frozen_of_row _ _ 10 _ _ HRt2.out
        obtain ⟨c0, c1, c2, c3, c4, c5, c6, c7, c8, c9, c10⟩ := cells11 HIt2.out
        have f0 := frozen_of_row _ _ 0 _ _ HIt2.out
        go_wp2
        exact bodyPost_ret (results_cell_row Tryz.results20 _ _ w.heap.size 26 _ (0, 0) _ rfl (set_eleven (set_far hne HRt2.out)) Tryz.underlying26 rfl (by kernel_rfl)) rfl ⟨_, _, _, _, _, _, _, _, _, _, _, rfl, (DrI.set11 (HDt2.out.set hB 0 _) (Nat.le_refl _)).d, (DrI.set11 (HDt2.out.set hB 0 _) (Nat.le_refl _)).gr⟩
      · obtain ⟨r0, r1, r2, r3, r4, r5, r6, r7, r8, r9, r10⟩ := cells11 HRt2.out
        have y0 := frozen_of_row _ _ 0 _ _ HRt2.out
        have y1 := frozen_of_row _ _ 1 _ _ HRt2.out
        have y2 := frozen_of_row _ _ 2 _ _ HRt2.out
        have y3 := frozen_of_row _ _ 3 _ _ HRt2.out
        have y4 := frozen_of_row _ _ 4 _ _ HRt2.out
        have y5 := frozen_of_row _ _ 5 _ _ HRt2.out
        have y6 := frozen_of_row _ _ 6 _ _ HRt2.out
        have y7 := frozen_of_row _ _ 7 _ _ HRt2.out
        have y8 := frozen_of_row _ _ 8 _ _ HRt2.out
        have y9 := frozen_of_row _ _ 9 _ _ HRt2.out
        have y10 := frozen_of_row _ _ 10 _ _ HRt2.out
        obtain ⟨c0, c1, c2, c3, c4, c5, c6, c7, c8, c9, c10⟩ := cells11 HIt2.out
        have f5 := frozen_of_row _ _ 5 _ _ HIt2.out
        go_wp2
        exact bodyPost_ret (results_cell_row Tryz.results20 _ _ w.heap.size 26 _ (0, 0) _ rfl (set_eleven (set_far hne HRt2.out)) Tryz.underlying26 rfl (by kernel_rfl)) rfl ⟨_, _, _, _, _, _, _, _, _, _, _, rfl, (DrI.set11 (HDt2.out.set hB 5 _) (Nat.le_refl _)).d, (DrI.set11 (HDt2.out.set hB 5 _) (Nat.le_refl _)).gr⟩
  by_cases k2 : k < 18
  · go_wp2_with fail
    refine (drawOperand_any false g a len cap _ HDa.out.d).mono ?_
    rintro e xd ⟨m, r, n, l, rfl, hD, hG⟩
    have HIxd : Hid (_ = _) := heap_grown HIa.out hG (by omega)
    have HRxd : Hid (_ = _) := heap_grown HRa.out hG (by omega)
    have HDxd : Hid (DrI w xd g a len cap) := HDa.out.call hD hG
    clear hD hG
    obtain ⟨c0, c1, c2, c3, c4, c5, c6, c7, c8, c9, c10⟩ := cells11 HIxd.out
    have f2 := frozen_of_row _ _ 2 _ _ HIxd.out
    have f3 := frozen_of_row _ _ 3 _ _ HIxd.out
    have f4 := frozen_of_row _ _ 4 _ _ HIxd.out
    have f5 := frozen_of_row _ _ 5 _ _ HIxd.out
    go_wp2_with fail
    have HIxe : Hid (_ = _) := (heap_set (heap_set (heap_set (heap_set HIxd.out 2 (.int .i64 m)) 3 (.int .i64 r)) 4 (.int .i64 n)) 5 (.bool l))
    have HRxe : Hid (_ = _) := (set_far (a := ⟨B, 5, none⟩) (v := .bool l) hne (set_far (a := ⟨B, 4, none⟩) (v := .int .i64 n) hne (set_far (a := ⟨B, 3, none⟩) (v := .int .i64 r) hne (set_far (a := ⟨B, 2, none⟩) (v := .int .i64 m) hne HRxd.out))))
    have HDxe : Hid (DrI w _ g a len cap) := ((((HDxd.out.set hB 2 (.int .i64 m)).set hB 3 (.int .i64 r)).set hB 4 (.int .i64 n)).set hB 5 (.bool l))
    simp only [List.setIfInBounds_toArray, List.set_cons_zero, List.set_cons_succ] at HIxe
    clear c0 c1 c2 c3 c4 c5 c6 c7 c8 c9 c10 f2 f3 f4 f5
    refine (one_any g a len cap 4 _ HDxe.out.d (by omega) (by omega)).mono ?_
    rintro e xf ⟨b4, rfl, hD, hG⟩
    have HIxf : Hid (_ = _) := heap_grown HIxe.out hG (by omega)
    have HRxf : Hid (_ = _) := heap_grown HRxe.out hG (by omega)
    have HDxf : Hid (DrI w xf g a len cap) := HDxe.out.call hD hG
    clear hD hG
    obtain ⟨c0, c1, c2, c3, c4, c5, c6, c7, c8, c9, c10⟩ := cells11 HIxf.out
    have f1 := frozen_of_row _ _ 1 _ _ HIxf.out
    cases b4
    · go_wp2_with fail
      have HIxg : Hid (_ = _) := (heap_set HIxf.out 1 (.bool false))
      have HRxg : Hid (_ = _) := (set_far (a := ⟨B, 1, none⟩) (v := .bool false) hne HRxf.out)
      have HDxg : Hid (DrI w _ g a len cap) := (HDxf.out.set hB 1 (.bool false))
      simp only [List.setIfInBounds_toArray, List.set_cons_zero, List.set_cons_succ] at HIxg
      clear c0 c1 c2 c3 c4 c5 c6 c7 c8 c9 c10 f1
      refine (one_any g a len cap 20 _ HDxg.out.d (by omega) (by omega)).mono ?_
      rintro e t1 ⟨bb, rfl, hD, hG⟩
      have HIt1 : Hid (_ = _) := heap_grown HIxg.out hG (by omega)
      have HRt1 : Hid (_ = _) := heap_grown HRxg.out hG (by omega)
      have HDt1 : Hid (DrI w t1 g a len cap) := HDxg.out.call hD hG
      clear hD hG
      cases bb
      · obtain ⟨r0, r1, r2, r3, r4, r5, r6, r7, r8, r9, r10⟩ := cells11 HRt1.out
        have y0 := frozen_of_row _ _ 0 _ _ HRt1.out
        have y1 := frozen_of_row _ _ 1 _ _ HRt1.out
        have y2 := frozen_of_row _ _ 2 _ _ HRt1.out
        have y3 := frozen_of_row _ _ 3 _ _ HRt1.out
        have y4 := frozen_of_row _ _ 4 _ _ HRt1.out
        have y5 := frozen_of_row _ _ 5 _ _ HRt1.out
        have y6 := frozen_of_row _ _ 6 _ _ HRt1.out
        have y7 := frozen_of_row _ _ 7 _ _ HRt1.out
        have y8 := frozen_of_row _ _ 8 _ _ HRt1.out
        have y9 := frozen_of_row _ _ 9 _ _ HRt1.out
        have y10 := frozen_of_row _ _ 10 _ _ HRt1.out
        obtain ⟨c0, c1, c2, c3, c4, c5, c6, c7, c8, c9, c10⟩ := cells11 HIt1.out
        go_wp2
        exact bodyPost_ret (results_cell_row Tryz.results20 _ _ w.heap.size 26 _ (0, 0) _ rfl (set_eleven HRt1.out) Tryz.underlying26 rfl (by kernel_rfl)) rfl ⟨_, _, _, _, _, _, _, _, _, _, _, rfl, (DrI.set11 HDt1.out (Nat.le_refl _)).d, (DrI.set11 HDt1.out (Nat.le_refl _)).gr⟩
      · go_wp2_with fail
        refine (n_any g a len cap 6 _ HDt1.out.d (by omega) (by omega)).mono ?_
        rintro e t2 ⟨v6, rfl, hv0, hv1, hD, hG⟩
        have HIt2 : Hid (_ = _) := heap_grown HIt1.out hG (by omega)
        have HRt2 : Hid (_ = _) := heap_grown HRt1.out hG (by omega)
        have HDt2 : Hid (DrI w t2 g a len cap) := HDt1.out.call hD hG
        have hv : v6 = 0 ∨ v6 = 1 ∨ v6 = 2 ∨ v6 = 3 ∨ v6 = 4 ∨ v6 = 5 := by omega
        clear hv0 hv1 hD hG
        rcases hv with rfl | rfl | rfl | rfl | rfl | rfl
        · go_wp2_with fail
          refine (n_any g a len cap 3 _ (HDt2.out.alloc _).d (by omega) (by omega)).mono ?_
          rintro e t3 ⟨u3, rfl, hv0, hv1, hD, hG⟩
          have HIt3 : Hid (_ = _) := heap_grown (heap_more HIt2.out _) hG (by omega)
          have HRt3 : Hid (_ = _) := heap_grown (heap_more HRt2.out _) hG (by omega)
          have HDt3 : Hid (DrI w t3 g a len cap) := (HDt2.out.alloc _).call hD hG
          obtain ⟨V, rfl⟩ := Int.eq_ofNat_of_zero_le hv0
          have hV : V < 3 := by omega
          obtain ⟨y, hy, hyc⟩ := tab_cell (t := 2) [-513, 512, 1] V hV t3 hG (by have := heap_lt HIt2.out; omega)
          have hi0 : (0 : Int) ≤ (V : Int) := by omega
          have hi1 : (V : Int) < 3 := by omega
          clear hv0 hv1 hD hG hy
          obtain ⟨r0, r1, r2, r3, r4, r5, r6, r7, r8, r9, r10⟩ := cells11 HRt3.out
          have y0 := frozen_of_row _ _ 0 _ _ HRt3.out
          have y1 := frozen_of_row _ _ 1 _ _ HRt3.out
          have y2 := frozen_of_row _ _ 2 _ _ HRt3.out
          have y3 := frozen_of_row _ _ 3 _ _ HRt3.out
          have y4 := frozen_of_row _ _ 4 _ _ HRt3.out
          have y5 := frozen_of_row _ _ 5 _ _ HRt3.out
          have y6 := frozen_of_row _ _ 6 _ _ HRt3.out
          have y7 := frozen_of_row _ _ 7 _ _ HRt3.out
          have y8 := frozen_of_row _ _ 8 _ _ HRt3.out
          have y9 := frozen_of_row _ _ 9 _ _ HRt3.out
          have y10 := frozen_of_row _ _ 10 _ _ HRt3.out
          obtain ⟨c0, c1, c2, c3, c4, c5, c6, c7, c8, c9, c10⟩ := cells11 HIt3.out
          have f10 := frozen_of_row _ _ 10 _ _ HIt3.out
          go_wp2
          exact bodyPost_ret (results_cell_row Tryz.results20 _ _ w.heap.size 26 _ (0, 0) _ rfl (set_eleven (set_far hne HRt3.out)) Tryz.underlying26 rfl (by kernel_rfl)) rfl ⟨_, _, _, _, _, _, _, _, _, _, _, rfl, (DrI.set11 (HDt3.out.set hB 10 _) (Nat.le_refl _)).d, (DrI.set11 (HDt3.out.set hB 10 _) (Nat.le_refl _)).gr⟩
        · obtain ⟨r0, r1, r2, r3, r4, r5, r6, r7, r8, r9, r10⟩ := cells11 HRt2.out
          have y0 := frozen_of_row _ _ 0 _ _ HRt2.out
          have y1 := frozen_of_row _ _ 1 _ _ HRt2.out
          have y2 := frozen_of_row _ _ 2 _ _ HRt2.out
          have y3 := frozen_of_row _ _ 3 _ _ HRt2.out
          have y4 := frozen_of_row _ _ 4 _ _ HRt2.out
          have y5 := frozen_of_row _ _ 5 _ _ HRt2.out
          have y6 := frozen_of_row _ _ 6 _ _ HRt2.out
          have y7 := frozen_of_row _ _ 7 _ _ HRt2.out
          have y8 := frozen_of_row _ _ 8 _ _ HRt2.out
          have y9 := frozen_of_row _ _ 9 _ _ HRt2.out
          have y10 := frozen_of_row _ _ 10 _ _ HRt2.out
          obtain ⟨c0, c1, c2, c3, c4, c5, c6, c7, c8, c9, c10⟩ := cells11 HIt2.out
          have f1 := frozen_of_row _ _ 1 _ _ HIt2.out
          go_wp2
          exact bodyPost_ret (results_cell_row Tryz.results20 _ _ w.heap.size 26 _ (0, 0) _ rfl (set_eleven (set_far hne HRt2.out)) Tryz.underlying26 rfl (by kernel_rfl)) rfl ⟨_, _, _, _, _, _, _, _, _, _, _, rfl, (DrI.set11 (HDt2.out.set hB 1 _) (Nat.le_refl _)).d, (DrI.set11 (HDt2.out.set hB 1 _) (Nat.le_refl _)).gr⟩
        · go_wp2_with fail
          refine (n_any g a len cap 4 _ (HDt2.out.alloc _).d (by omega) (by omega)).mono ?_
          rintro e t3 ⟨u3, rfl, hv0, hv1, hD, hG⟩
          have HIt3 : Hid (_ = _) := heap_grown (heap_more HIt2.out _) hG (by omega)
          have HRt3 : Hid (_ = _) := heap_grown (heap_more HRt2.out _) hG (by omega)
          have HDt3 : Hid (DrI w t3 g a len cap) := (HDt2.out.alloc _).call hD hG
          obtain ⟨V, rfl⟩ := Int.eq_ofNat_of_zero_le hv0
          have hV : V < 4 := by omega
          obtain ⟨y, hy, hyc⟩ := tab_cell (t := 2) [2, 3, 16, -1] V hV t3 hG (by have := heap_lt HIt2.out; omega)
          have hi0 : (0 : Int) ≤ (V : Int) := by omega
          have hi1 : (V : Int) < 4 := by omega
          clear hv0 hv1 hD hG hy
          obtain ⟨r0, r1, r2, r3, r4, r5, r6, r7, r8, r9, r10⟩ := cells11 HRt3.out
          have y0 := frozen_of_row _ _ 0 _ _ HRt3.out
          have y1 := frozen_of_row _ _ 1 _ _ HRt3.out
          have y2 := frozen_of_row _ _ 2 _ _ HRt3.out
          have y3 := frozen_of_row _ _ 3 _ _ HRt3.out
          have y4 := frozen_of_row _ _ 4 _ _ HRt3.out
          have y5 := frozen_of_row _ _ 5 _ _ HRt3.out
          have y6 := frozen_of_row _ _ 6 _ _ HRt3.out
          have y7 := frozen_of_row _ _ 7 _ _ HRt3.out
          have y8 := frozen_of_row _ _ 8 _ _ HRt3.out
          have y9 := frozen_of_row _ _ 9 _ _ HRt3.out
          have y10 := frozen_of_row _ _ 10 _ _ HRt3.out
          obtain ⟨c0, c1, c2, c3, c4, c5, c6, c7, c8, c9, c10⟩ := cells11 HIt3.out
          have f3 := frozen_of_row _ _ 3 _ _ HIt3.out
          go_wp2
          exact bodyPost_ret (results_cell_row Tryz.results20 _ _ w.heap.size 26 _ (0, 0) _ rfl (set_eleven (set_far hne HRt3.out)) Tryz.underlying26 rfl (by kernel_rfl)) rfl ⟨_, _, _, _, _, _, _, _, _, _, _, rfl, (DrI.set11 (HDt3.out.set hB 3 _) (Nat.le_refl _)).d, (DrI.set11 (HDt3.out.set hB 3 _) (Nat.le_refl _)).gr⟩
        · go_wp2_with fail
          refine (n_any g a len cap 3 _ (HDt2.out.alloc _).d (by omega) (by omega)).mono ?_
          rintro e t3 ⟨u3, rfl, hv0, hv1, hD, hG⟩
          have HIt3 : Hid (_ = _) := heap_grown (heap_more HIt2.out _) hG (by omega)
          have HRt3 : Hid (_ = _) := heap_grown (heap_more HRt2.out _) hG (by omega)
          have HDt3 : Hid (DrI w t3 g a len cap) := (HDt2.out.alloc _).call hD hG
          obtain ⟨V, rfl⟩ := Int.eq_ofNat_of_zero_le hv0
          have hV : V < 3 := by omega
          obtain ⟨y, hy, hyc⟩ := tab_cell (t := 2) [-1, 65536, 1] V hV t3 hG (by have := heap_lt HIt2.out; omega)
          have hi0 : (0 : Int) ≤ (V : Int) := by omega
          have hi1 : (V : Int) < 3 := by omega
          clear hv0 hv1 hD hG hy
          obtain ⟨r0, r1, r2, r3, r4, r5, r6, r7, r8, r9, r10⟩ := cells11 HRt3.out
          have y0 := frozen_of_row _ _ 0 _ _ HRt3.out
          have y1 := frozen_of_row _ _ 1 _ _ HRt3.out
          have y2 := frozen_of_row _ _ 2 _ _ HRt3.out
          have y3 := frozen_of_row _ _ 3 _ _ HRt3.out
          have y4 := frozen_of_row _ _ 4 _ _ HRt3.out
          have y5 := frozen_of_row _ _ 5 _ _ HRt3.out
          have y6 := frozen_of_row _ _ 6 _ _ HRt3.out
          have y7 := frozen_of_row _ _ 7 _ _ HRt3.out
          have y8 := frozen_of_row _ _ 8 _ _ HRt3.out
          have y9 := frozen_of_row _ _ 9 _ _ HRt3.out
          have y10 := frozen_of_row _ _ 10 _ _ HRt3.out
          obtain ⟨c0, c1, c2, c3, c4, c5, c6, c7, c8, c9, c10⟩ := cells11 HIt3.out
          have f8 := frozen_of_row _ _ 8 _ _ HIt3.out
          go_wp2
          exact bodyPost_ret (results_cell_row Tryz.results20 _ _ w.heap.size 26 _ (0, 0) _ rfl (set_eleven (set_far hne HRt3.out)) Tryz.underlying26 rfl (by kernel_rfl)) rfl ⟨_, _, _, _, _, _, _, _, _, _, _, rfl, (DrI.set11 (HDt3.out.set hB 8 _) (Nat.le_refl _)).d, (DrI.set11 (HDt3.out.set hB 8 _) (Nat.le_refl _)).gr⟩
        · obtain ⟨r0, r1, r2, r3, r4, r5, r6, r7, r8, r9, r10⟩ := cells11 HRt2.out
          have y0 := frozen_of_row _ _ 0 _ _ HRt2.out
          have y1 := frozen_of_row _ _ 1 _ _ HRt2.out
          have y2 := frozen_of_row _ _ 2 _ _ HRt2.out
          have y3 := frozen_of_row _ _ 3 _ _ HRt2.out
          have y4 := frozen_of_row _ _ 4 _ _ HRt2.out
          have y5 := frozen_of_row _ _ 5 _ _ HRt2.out
          have y6 := frozen_of_row _ _ 6 _ _ HRt2.out
          have y7 := frozen_of_row _ _ 7 _ _ HRt2.out
          have y8 := frozen_of_row _ _ 8 _ _ HRt2.out
          have y9 := frozen_of_row _ _ 9 _ _ HRt2.out
          have y10 := frozen_of_row _ _ 10 _ _ HRt2.out
          obtain ⟨c0, c1, c2, c3, c4, c5, c6, c7, c8, c9, c10⟩ := cells11 HIt2.out
          have f0 := frozen_of_row _ _ 0 _ _ HIt2.out
          go_wp2
          exact bodyPost_ret (results_cell_row Tryz.results20 _ _ w.heap.size 26 _ (0, 0) _ rfl (set_eleven (set_far hne HRt2.out)) Tryz.underlying26 rfl (by kernel_rfl)) rfl ⟨_, _, _, _, _, _, _, _, _, _, _, rfl, (DrI.set11 (HDt2.out.set hB 0 _) (Nat.le_refl _)).d, (DrI.set11 (HDt2.out.set hB 0 _) (Nat.le_refl _)).gr⟩
        · obtain ⟨r0, r1, r2, r3, r4, r5, r6, r7, r8, r9, r10⟩ := cells11 HRt2.out
          have y0 := frozen_of_row _ _ 0 _ _ HRt2.out
          have y1 := frozen_of_row _ _ 1 _ _ HRt2.out
          have y2 := frozen_of_row _ _ 2 _ _ HRt2.out
          have y3 := frozen_of_row _ _ 3 _ _ HRt2.out
          have y4 := frozen_of_row _ _ 4 _ _ HRt2.out
          have y5 := frozen_of_row _ _ 5 _ _ HRt2.out
          have y6 := frozen_of_row _ _ 6 _ _ HRt2.out
          have y7 := frozen_of_row _ _ 7 _ _ HRt2.out
          have y8 := frozen_of_row _ _ 8 _ _ HRt2.out
          have y9 := frozen_of_row _ _ 9 _ _ HRt2.out
          have y10 := frozen_of_row _ _ 10 _ _ HRt2.out
          obtain ⟨c0, c1, c2, c3, c4, c5, c6, c7, c8, c9, c10⟩ := cells11 HIt2.out
          have f5 := frozen_of_row _ _ 5 _ _ HIt2.out
          go_wp2
          exact bodyPost_ret (results_cell_row Tryz.results20 _ _ w.heap.size 26 _ (0, 0) _ rfl (set_eleven (set_far hne HRt2.out)) Tryz.underlying26 rfl (by kernel_rfl)) rfl ⟨_, _, _, _, _, _, _, _, _, _, _, rfl, (DrI.set11 (HDt2.out.set hB 5 _) (Nat.le_refl _)).d, (DrI.set11 (HDt2.out.set hB 5 _) (Nat.le_refl _)).gr⟩
    · cases q1 : (op.toList == [114, 114, 99])
      · cases q2 : (op.toList == [114, 114, 97])
        · cases q3 : (op.toList == [112, 117, 115, 104])
          · go_wp2_with fail
            have HIxg : Hid (_ = _) := (heap_set HIxf.out 1 (.bool false))
            have HRxg : Hid (_ = _) := (set_far (a := ⟨B, 1, none⟩) (v := .bool false) hne HRxf.out)
            have HDxg : Hid (DrI w _ g a len cap) := (HDxf.out.set hB 1 (.bool false))
            simp only [List.setIfInBounds_toArray, List.set_cons_zero, List.set_cons_succ] at HIxg
            clear c0 c1 c2 c3 c4 c5 c6 c7 c8 c9 c10 f1
            refine (one_any g a len cap 20 _ HDxg.out.d (by omega) (by omega)).mono ?_
            rintro e t1 ⟨bb, rfl, hD, hG⟩
            have HIt1 : Hid (_ = _) := heap_grown HIxg.out hG (by omega)
            have HRt1 : Hid (_ = _) := heap_grown HRxg.out hG (by omega)
            have HDt1 : Hid (DrI w t1 g a len cap) := HDxg.out.call hD hG
            clear hD hG
            cases bb
            · obtain ⟨r0, r1, r2, r3, r4, r5, r6, r7, r8, r9, r10⟩ := cells11 HRt1.out
              have y0 := frozen_of_row _ _ 0 _ _ HRt1.out
              have y1 := frozen_of_row _ _ 1 _ _ HRt1.out
              have y2 := frozen_of_row _ _ 2 _ _ HRt1.out
              have y3 := frozen_of_row _ _ 3 _ _ HRt1.out
              have y4 := frozen_of_row _ _ 4 _ _ HRt1.out
              have y5 := frozen_of_row _ _ 5 _ _ HRt1.out
              have y6 := frozen_of_row _ _ 6 _ _ HRt1.out
              have y7 := frozen_of_row _ _ 7 _ _ HRt1.out
              have y8 := frozen_of_row _ _ 8 _ _ HRt1.out
              have y9 := frozen_of_row _ _ 9 _ _ HRt1.out
              have y10 := frozen_of_row _ _ 10 _ _ HRt1.out
              obtain ⟨c0, c1, c2, c3, c4, c5, c6, c7, c8, c9, c10⟩ := cells11 HIt1.out
              go_wp2
              exact bodyPost_ret (results_cell_row Tryz.results20 _ _ w.heap.size 26 _ (0, 0) _ rfl (set_eleven HRt1.out) Tryz.underlying26 rfl (by kernel_rfl)) rfl ⟨_, _, _, _, _, _, _, _, _, _, _, rfl, (DrI.set11 HDt1.out (Nat.le_refl _)).d, (DrI.set11 HDt1.out (Nat.le_refl _)).gr⟩
            · go_wp2_with fail
              refine (n_any g a len cap 6 _ HDt1.out.d (by omega) (by omega)).mono ?_
              rintro e t2 ⟨v6, rfl, hv0, hv1, hD, hG⟩
              have HIt2 : Hid (_ = _) := heap_grown HIt1.out hG (by omega)
              have HRt2 : Hid (_ = _) := heap_grown HRt1.out hG (by omega)
              have HDt2 : Hid (DrI w t2 g a len cap) := HDt1.out.call hD hG
              have hv : v6 = 0 ∨ v6 = 1 ∨ v6 = 2 ∨ v6 = 3 ∨ v6 = 4 ∨ v6 = 5 := by omega
              clear hv0 hv1 hD hG
              rcases hv with rfl | rfl | rfl | rfl | rfl | rfl
              · go_wp2_with fail
                refine (n_any g a len cap 3 _ (HDt2.out.alloc _).d (by omega) (by omega)).mono ?_
                rintro e t3 ⟨u3, rfl, hv0, hv1, hD, hG⟩
                have HIt3 : Hid (_ = _) := heap_grown (heap_more HIt2.out _) hG (by omega)
                have HRt3 : Hid (_ = _) := heap_grown (heap_more HRt2.out _) hG (by omega)
                have HDt3 : Hid (DrI w t3 g a len cap) := (HDt2.out.alloc _).call hD hG
                obtain ⟨V, rfl⟩ := Int.eq_ofNat_of_zero_le hv0
                have hV : V < 3 := by omega
                obtain ⟨y, hy, hyc⟩ := tab_cell (t := 2) [-513, 512, 1] V hV t3 hG (by have := heap_lt HIt2.out; omega)
                have hi0 : (0 : Int) ≤ (V : Int) := by omega
                have hi1 : (V : Int) < 3 := by omega
                clear hv0 hv1 hD hG hy
                obtain ⟨r0, r1, r2, r3, r4, r5, r6, r7, r8, r9, r10⟩ := cells11 HRt3.out
                have y0 := frozen_of_row _ _ 0 _ _ HRt3.out
                have y1 := frozen_of_row _ _ 1 _ _ HRt3.out
                have y2 := frozen_of_row _ _ 2 _ _ HRt3.out
                have y3 := frozen_of_row _ _ 3 _ _ HRt3.out
                have y4 := frozen_of_row _ _ 4 _ _ HRt3.out
                have y5 := frozen_of_row _ _ 5 _ _ HRt3.out
                have y6 := frozen_of_row _ _ 6 _ _ HRt3.out
                have y7 := frozen_of_row _ _ 7 _ _ HRt3.out
                have y8 := frozen_of_row _ _ 8 _ _ HRt3.out
                have y9 := frozen_of_row _ _ 9 _ _ HRt3.out
                have y10 := frozen_of_row _ _ 10 _ _ HRt3.out
                obtain ⟨c0, c1, c2, c3, c4, c5, c6, c7, c8, c9, c10⟩ := cells11 HIt3.out
                have f10 := frozen_of_row _ _ 10 _ _ HIt3.out
                go_wp2
                exact bodyPost_ret (results_cell_row Tryz.results20 _ _ w.heap.size 26 _ (0, 0) _ rfl (set_eleven (set_far hne HRt3.out)) Tryz.underlying26 rfl (by kernel_rfl)) rfl ⟨_, _, _, _, _, _, _, _, _, _, _, rfl, (DrI.set11 (HDt3.out.set hB 10 _) (Nat.le_refl _)).d, (DrI.set11 (HDt3.out.set hB 10 _) (Nat.le_refl _)).gr⟩
              · obtain ⟨r0, r1, r2, r3, r4, r5, r6, r7, r8, r9, r10⟩ := cells11 HRt2.out
                have y0 := frozen_of_row _ _ 0 _ _ HRt2.out
                have y1 := frozen_of_row _ _ 1 _ _ HRt2.out
                have y2 := frozen_of_row _ _ 2 _ _ HRt2.out
                have y3 := frozen_of_row _ _ 3 _ _ HRt2.out
                have y4 := frozen_of_row _ _ 4 _ _ HRt2.out
                have y5 := frozen_of_row _ _ 5 _ _ HRt2.out
                have y6 := frozen_of_row _ _ 6 _ _ HRt2.out
                have y7 := frozen_of_row _ _ 7 _ _ HRt2.out
                have y8 := frozen_of_row _ _ 8 _ _ HRt2.out
                have y9 := frozen_of_row _ _ 9 _ _ HRt2.out
                have y10 := frozen_of_row _ _ 10 _ _ HRt2.out
                obtain ⟨c0, c1, c2, c3, c4, c5, c6, c7, c8, c9, c10⟩ := cells11 HIt2.out
                have f1 := frozen_of_row _ _ 1 _ _ HIt2.out
                go_wp2
                exact bodyPost_ret (results_cell_row Tryz.results20 _ _ w.heap.size 26 _ (0, 0) _ rfl (set_eleven (set_far hne HRt2.out)) Tryz.underlying26 rfl (by kernel_rfl)) rfl ⟨_, _, _, _, _, _, _, _, _, _, _, rfl, (DrI.set11 (HDt2.out.set hB 1 _) (Nat.le_refl _)).d, (DrI.set11 (HDt2.out.set hB 1 _) (Nat.le_refl _)).gr⟩
              · go_wp2_with fail
                refine (n_any g a len cap 4 _ (HDt2.out.alloc _).d (by omega) (by omega)).mono ?_
                rintro e t3 ⟨u3, rfl, hv0, hv1, hD, hG⟩
                have HIt3 : Hid (_ = _) := heap_grown (heap_more HIt2.out _) hG (by omega)
                have HRt3 : Hid (_ = _) := heap_grown (heap_more HRt2.out _) hG (by omega)
                have HDt3 : Hid (DrI w t3 g a len cap) := (HDt2.out.alloc _).call hD hG
                obtain ⟨V, rfl⟩ := Int.eq_ofNat_of_zero_le hv0
                have hV : V < 4 := by omega
                obtain ⟨y, hy, hyc⟩ := tab_cell (t := 2) [2, 3, 16, -1] V hV t3 hG (by have := heap_lt HIt2.out; omega)
                have hi0 : (0 : Int) ≤ (V : Int) := by omega
                have hi1 : (V : Int) < 4 := by omega
                clear hv0 hv1 hD hG hy
                obtain ⟨r0, r1, r2, r3, r4, r5, r6, r7, r8, r9, r10⟩ := cells11 HRt3.out
                have y0 := frozen_of_row _ _ 0 _ _ HRt3.out
                have y1 := frozen_of_row _ _ 1 _ _ HRt3.out
                have y2 := frozen_of_row _ _ 2 _ _ HRt3.out
                have y3 := frozen_of_row _ _ 3 _ _ HRt3.out
                have y4 := frozen_of_row _ _ 4 _ _ HRt3.out
                have y5 := frozen_of_row _ _ 5 _ _ HRt3.out
                have y6 := frozen_of_row _ _ 6 _ _ HRt3.out
                have y7 := frozen_of_row _ _ 7 _ _ HRt3.out
                have y8 := frozen_of_row _ _ 8 _ _ HRt3.out
                have y9 := frozen_of_row _ _ 9 _ _ HRt3.out
                have y10 := frozen_of_row _ _ 10 _ _ HRt3.out
                obtain ⟨c0, c1, c2, c3, c4, c5, c6, c7, c8, c9, c10⟩ := cells11 HIt3.out
                have f3 := frozen_of_row _ _ 3 _ _ HIt3.out
                go_wp2
                exact bodyPost_ret (results_cell_row Tryz.results20 _ _ w.heap.size 26 _ (0, 0) _ rfl (set_eleven (set_far hne HRt3.out)) Tryz.underlying26 rfl (by kernel_rfl)) rfl ⟨_, _, _, _, _, _, _, _, _, _, _, rfl, (DrI.set11 (HDt3.out.set hB 3 _) (Nat.le_refl _)).d, (DrI.set11 (HDt3.out.set hB 3 _) (Nat.le_refl _)).gr⟩
              · go_wp2_with fail
                refine (n_any g a len cap 3 _ (HDt2.out.alloc _).d (by omega) (by omega)).mono ?_
                rintro e t3 ⟨u3, rfl, hv0, hv1, hD, hG⟩
                have HIt3 : Hid (_ = _) := heap_grown (heap_more HIt2.out _) hG (by omega)
                have HRt3 : Hid (_ = _) := heap_grown (heap_more HRt2.out _) hG (by omega)
                have HDt3 : Hid (DrI w t3 g a len cap) := (HDt2.out.alloc _).call hD hG
                obtain ⟨V, rfl⟩ := Int.eq_ofNat_of_zero_le hv0
                have hV : V < 3 := by omega
                obtain ⟨y, hy, hyc⟩ := tab_cell (t := 2) [-1, 65536, 1] V hV t3 hG (by have := heap_lt HIt2.out; omega)
                have hi0 : (0 : Int) ≤ (V : Int) := by omega
                have hi1 : (V : Int) < 3 := by omega
                clear hv0 hv1 hD hG hy
                obtain ⟨r0, r1, r2, r3, r4, r5, r6, r7, r8, r9, r10⟩ := cells11 HRt3.out
                have y0 := frozen_of_row _ _ 0 _ _ HRt3.out
                have y1 := frozen_of_row _ _ 1 _ _ HRt3.out
                have y2 := frozen_of_row _ _ 2 _ _ HRt3.out
                have y3 := frozen_of_row _ _ 3 _ _ HRt3.out
                have y4 := frozen_of_row _ _ 4 _ _ HRt3.out
                have y5 := frozen_of_row _ _ 5 _ _ HRt3.out
                have y6 := frozen_of_row _ _ 6 _ _ HRt3.out
                have y7 := frozen_of_row _ _ 7 _ _ HRt3.out
                have y8 := frozen_of_row _ _ 8 _ _ HRt3.out
                have y9 := frozen_of_row _ _ 9 _ _ HRt3.out
                have y10 := frozen_of_row _ _ 10 _ _ HRt3.out
                obtain ⟨c0, c1, c2, c3, c4, c5, c6, c7, c8, c9, c10⟩ := cells11 HIt3.out
                have f8 := frozen_of_row _ _ 8 _ _ HIt3.out
                go_wp2
                exact bodyPost_ret (results_cell_row Tryz.results20 _ _ w.heap.size 26 _ (0, 0) _ rfl (set_eleven (set_far hne HRt3.out)) Tryz.underlying26 rfl (by kernel_rfl)) rfl ⟨_, _, _, _, _, _, _, _, _, _, _, rfl, (DrI.set11 (HDt3.out.set hB 8 _) (Nat.le_refl _)).d, (DrI.set11 (HDt3.out.set hB 8 _) (Nat.le_refl _)).gr⟩
              · obtain ⟨r0, r1, r2, r3, r4, r5, r6, r7, r8, r9, r10⟩ := cells11 HRt2.out
                have y0 := frozen_of_row _ _ 0 _ _ HRt2.out
                have y1 := frozen_of_row _ _ 1 _ _ HRt2.out
                have y2 := frozen_of_row _ _ 2 _ _ HRt2.out
                have y3 := frozen_of_row _ _ 3 _ _ HRt2.out
                have y4 := frozen_of_row _ _ 4 _ _ HRt2.out
                have y5 := frozen_of_row _ _ 5 _ _ HRt2.out
                have y6 := frozen_of_row _ _ 6 _ _ HRt2.out
                have y7 := frozen_of_row _ _ 7 _ _ HRt2.out
                have y8 := frozen_of_row _ _ 8 _ _ HRt2.out
                have y9 := frozen_of_row _ _ 9 _ _ HRt2.out
                have y10 := frozen_of_row _ _ 10 _ _ HRt2.out
                obtain ⟨c0, c1, c2, c3, c4, c5, c6, c7, c8, c9, c10⟩ := cells11 HIt2.out
                have f0 := frozen_of_row _ _ 0 _ _ HIt2.out
                go_wp2
                exact bodyPost_ret (results_cell_row Tryz.results20 _ _ w.heap.size 26 _ (0, 0) _ rfl (set_eleven (set_far hne HRt2.out)) Tryz.underlying26 rfl (by kernel_rfl)) rfl ⟨_, _, _, _, _, _, _, _, _, _, _, rfl, (DrI.set11 (HDt2.out.set hB 0 _) (Nat.le_refl _)).d, (DrI.set11 (HDt2.out.set hB 0 _) (Nat.le_refl _)).gr⟩
              · obtain ⟨r0, r1, r2, r3, r4, r5, r6, r7, r8, r9, r10⟩ := cells11 HRt2.out
                have y0 := frozen_of_row _ _ 0 _ _ HRt2.out
                have y1 := frozen_of_row _ _ 1 _ _ HRt2.out
                have y2 := frozen_of_row _ _ 2 _ _ HRt2.out
                have y3 := frozen_of_row _ _ 3 _ _ HRt2.out
                have y4 := frozen_of_row _ _ 4 _ _ HRt2.out
                have y5 := frozen_of_row _ _ 5 _ _ HRt2.out
                have y6 := frozen_of_row _ _ 6 _ _ HRt2.out
                have y7 := frozen_of_row _ _ 7 _ _ HRt2.out
                have y8 := frozen_of_row _ _ 8 _ _ HRt2.out
                have y9 := frozen_of_row _ _ 9 _ _ HRt2.out
                have y10 := frozen_of_row _ _ 10 _ _ HRt2.out
                obtain ⟨c0, c1, c2, c3, c4, c5, c6, c7, c8, c9, c10⟩ := cells11 HIt2.out
                have f5 := frozen_of_row _ _ 5 _ _ HIt2.out
                go_wp2
                exact bodyPost_ret (results_cell_row Tryz.results20 _ _ w.heap.size 26 _ (0, 0) _ rfl (set_eleven (set_far hne HRt2.out)) Tryz.underlying26 rfl (by kernel_rfl)) rfl ⟨_, _, _, _, _, _, _, _, _, _, _, rfl, (DrI.set11 (HDt2.out.set hB 5 _) (Nat.le_refl _)).d, (DrI.set11 (HDt2.out.set hB 5 _) (Nat.le_refl _)).gr⟩
          · go_wp2_with fail
            have HIxg : Hid (_ = _) := (heap_set HIxf.out 1 (.bool true))
            have HRxg : Hid (_ = _) := (set_far (a := ⟨B, 1, none⟩) (v := .bool true) hne HRxf.out)
            have HDxg : Hid (DrI w _ g a len cap) := (HDxf.out.set hB 1 (.bool true))
            simp only [List.setIfInBounds_toArray, List.set_cons_zero, List.set_cons_succ] at HIxg
            clear c0 c1 c2 c3 c4 c5 c6 c7 c8 c9 c10 f1
            refine (one_any g a len cap 20 _ HDxg.out.d (by omega) (by omega)).mono ?_
            rintro e t1 ⟨bb, rfl, hD, hG⟩
            have HIt1 : Hid (_ = _) := heap_grown HIxg.out hG (by omega)
            have HRt1 : Hid (_ = _) := heap_grown HRxg.out hG (by omega)
            have HDt1 : Hid (DrI w t1 g a len cap) := HDxg.out.call hD hG
            clear hD hG
            cases bb
            · obtain ⟨r0, r1, r2, r3, r4, r5, r6, r7, r8, r9, r10⟩ := cells11 HRt1.out
              have y0 := frozen_of_row _ _ 0 _ _ HRt1.out
              have y1 := frozen_of_row _ _ 1 _ _ HRt1.out
              have y2 := frozen_of_row _ _ 2 _ _ HRt1.out
              have y3 := frozen_of_row _ _ 3 _ _ HRt1.out
              have y4 := frozen_of_row _ _ 4 _ _ HRt1.out
              have y5 := frozen_of_row _ _ 5 _ _ HRt1.out
              have y6 := frozen_of_row _ _ 6 _ _ HRt1.out
              have y7 := frozen_of_row _ _ 7 _ _ HRt1.out
              have y8 := frozen_of_row _ _ 8 _ _ HRt1.out
              have y9 := frozen_of_row _ _ 9 _ _ HRt1.out
              have y10 := frozen_of_row _ _ 10 _ _ HRt1.out
              obtain ⟨c0, c1, c2, c3, c4, c5, c6, c7, c8, c9, c10⟩ := cells11 HIt1.out
              go_wp2
              exact bodyPost_ret (results_cell_row Tryz.results20 _ _ w.heap.size 26 _ (0, 0) _ rfl (set_eleven HRt1.out) Tryz.underlying26 rfl (by kernel_rfl)) rfl ⟨_, _, _, _, _, _, _, _, _, _, _, rfl, (DrI.set11 HDt1.out (Nat.le_refl _)).d, (DrI.set11 HDt1.out (Nat.le_refl _)).gr⟩
            · go_wp2_with fail
              refine (n_any g a len cap 6 _ HDt1.out.d (by omega) (by omega)).mono ?_
              rintro e t2 ⟨v6, rfl, hv0, hv1, hD, hG⟩
              have HIt2 : Hid (_ = _) := heap_grown HIt1.out hG (by omega)
              have HRt2 : Hid (_ = _) := heap_grown HRt1.out hG (by omega)
              have HDt2 : Hid (DrI w t2 g a len cap) := HDt1.out.call hD hG
              have hv : v6 = 0 ∨ v6 = 1 ∨ v6 = 2 ∨ v6 = 3 ∨ v6 = 4 ∨ v6 = 5 := by omega
              clear hv0 hv1 hD hG
              rcases hv with rfl | rfl | rfl | rfl | rfl | rfl
              · go_wp2_with fail
                refine (n_any g a len cap 3 _ (HDt2.out.alloc _).d (by omega) (by omega)).mono ?_
                rintro e t3 ⟨u3, rfl, hv0, hv1, hD, hG⟩
                have HIt3 : Hid (_ = _) := heap_grown (heap_more HIt2.out _) hG (by omega)
                have HRt3 : Hid (_ = _) := heap_grown (heap_more HRt2.out _) hG (by omega)
                have HDt3 : Hid (DrI w t3 g a len cap) := (HDt2.out.alloc _).call hD hG
                obtain ⟨V, rfl⟩ := Int.eq_ofNat_of_zero_le hv0
                have hV : V < 3 := by omega
                obtain ⟨y, hy, hyc⟩ := tab_cell (t := 2) [-513, 512, 1] V hV t3 hG (by have := heap_lt HIt2.out; omega)
                have hi0 : (0 : Int) ≤ (V : Int) := by omega
                have hi1 : (V : Int) < 3 := by omega
                clear hv0 hv1 hD hG hy
                obtain ⟨r0, r1, r2, r3, r4, r5, r6, r7, r8, r9, r10⟩ := cells11 HRt3.out
                have y0 := frozen_of_row _ _ 0 _ _ HRt3.out
                have y1 := frozen_of_row _ _ 1 _ _ HRt3.out
                have y2 := frozen_of_row _ _ 2 _ _ HRt3.out
                have y3 := frozen_of_row _ _ 3 _ _ HRt3.out
                have y4 := frozen_of_row _ _ 4 _ _ HRt3.out
                have y5 := frozen_of_row _ _ 5 _ _ HRt3.out
                have y6 := frozen_of_row _ _ 6 _ _ HRt3.out
                have y7 := frozen_of_row _ _ 7 _ _ HRt3.out
                have y8 := frozen_of_row _ _ 8 _ _ HRt3.out
                have y9 := frozen_of_row _ _ 9 _ _ HRt3.out
                have y10 := frozen_of_row _ _ 10 _ _ HRt3.out
                obtain ⟨c0, c1, c2, c3, c4, c5, c6, c7, c8, c9, c10⟩ := cells11 HIt3.out
                have f10 := frozen_of_row _ _ 10 _ _ HIt3.out
                go_wp2
                exact bodyPost_ret (results_cell_row Tryz.results20 _ _ w.heap.size 26 _ (0, 0) _ rfl (set_eleven (set_far hne HRt3.out)) Tryz.underlying26 rfl (by kernel_rfl)) rfl ⟨_, _, _, _, _, _, _, _, _, _, _, rfl, (DrI.set11 (HDt3.out.set hB 10 _) (Nat.le_refl _)).d, (DrI.set11 (HDt3.out.set hB 10 _) (Nat.le_refl _)).gr⟩
              · obtain ⟨r0, r1, r2, r3, r4, r5, r6, r7, r8, r9, r10⟩ := cells11 HRt2.out
                have y0 := frozen_of_row _ _ 0 _ _ HRt2.out
                have y1 := frozen_of_row _ _ 1 _ _ HRt2.out
                have y2 := frozen_of_row _ _ 2 _ _ HRt2.out
                have y3 := frozen_of_row _ _ 3 _ _ HRt2.out
                have y4 := frozen_of_row _ _ 4 _ _ HRt2.out
                have y5 := frozen_of_row _ _ 5 _ _ HRt2.out
                have y6 := frozen_of_row _ _ 6 _ _ HRt2.out
                have y7 := frozen_of_row _ _ 7 _ _ HRt2.out
                have y8 := frozen_of_row _ _ 8 _ _ HRt2.out
                have y9 := frozen_of_row _ _ 9 _ _ HRt2.out
                have y10 := frozen_of_row _ _ 10 _ _ HRt2.out
                obtain ⟨c0, c1, c2, c3, c4, c5, c6, c7, c8, c9, c10⟩ := cells11 HIt2.out
                have f1 := frozen_of_row _ _ 1 _ _ HIt2.out
                go_wp2
                exact bodyPost_ret (results_cell_row Tryz.results20 _ _ w.heap.size 26 _ (0, 0) _ rfl (set_eleven (set_far hne HRt2.out)) Tryz.underlying26 rfl (by kernel_rfl)) rfl ⟨_, _, _, _, _, _, _, _, _, _, _, rfl, (DrI.set11 (HDt2.out.set hB 1 _) (Nat.le_refl _)).d, (DrI.set11 (HDt2.out.set hB 1 _) (Nat.le_refl _)).gr⟩
              · go_wp2_with fail
                refine (n_any g a len cap 4 _ (HDt2.out.alloc _).d (by omega) (by omega)).mono ?_
                rintro e t3 ⟨u3, rfl, hv0, hv1, hD, hG⟩
                have HIt3 : Hid (_ = _) := heap_grown (heap_more HIt2.out _) hG (by omega)
                have HRt3 : Hid (_ = _) := heap_grown (heap_more HRt2.out _) hG (by omega)
                have HDt3 : Hid (DrI w t3 g a len cap) := (HDt2.out.alloc _).call hD hG
                obtain ⟨V, rfl⟩ := Int.eq_ofNat_of_zero_le hv0
                have hV : V < 4 := by omega
                obtain ⟨y, hy, hyc⟩ := tab_cell (t := 2) [2, 3, 16, -1] V hV t3 hG (by have := heap_lt HIt2.out; omega)
                have hi0 : (0 : Int) ≤ (V : Int) := by omega
                have hi1 : (V : Int) < 4 := by omega
                clear hv0 hv1 hD hG hy
                obtain ⟨r0, r1, r2, r3, r4, r5, r6, r7, r8, r9, r10⟩ := cells11 HRt3.out
                have y0 := frozen_of_row _ _ 0 _ _ HRt3.out
                have y1 := frozen_of_row _ _ 1 _ _ HRt3.out
                have y2 := frozen_of_row _ _ 2 _ _ HRt3.out
                have y3 := frozen_of_row _ _ 3 _ _ HRt3.out
                have y4 := frozen_of_row _ _ 4 _ _ HRt3.out
                have y5 := frozen_of_row _ _ 5 _ _ HRt3.out
                have y6 := frozen_of_row _ _ 6 _ _ HRt3.out
                have y7 := frozen_of_row _ _ 7 _ _ HRt3.out
                have y8 := frozen_of_row _ _ 8 _ _ HRt3.out
                have y9 := frozen_of_row _ _ 9 _ _ HRt3.out
                have y10 := frozen_of_row _ _ 10 _ _ HRt3.out
                obtain ⟨c0, c1, c2, c3, c4, c5, c6, c7, c8, c9, c10⟩ := cells11 HIt3.out
                have f3 := frozen_of_row _ _ 3 _ _ HIt3.out
                go_wp2
                exact bodyPost_ret (results_cell_row Tryz.results20 _ _ w.heap.size 26 _ (0, 0) _ rfl (set_eleven (set_far hne HRt3.out)) Tryz.underlying26 rfl (by kernel_rfl)) rfl ⟨_, _, _, _, _, _, _, _, _, _, _, rfl, (DrI.set11 (HDt3.out.set hB 3 _) (Nat.le_refl _)).d, (DrI.set11 (HDt3.out.set hB 3 _) (Nat.le_refl _)).gr⟩
              · go_wp2_with fail
                refine (n_any g a len cap 3 _ (HDt2.out.alloc _).d (by omega) (by omega)).mono ?_
                rintro e t3 ⟨u3, rfl, hv0, hv1, hD, hG⟩
                have HIt3 : Hid (_ = _) := heap_grown (heap_more HIt2.out _) hG (by omega)
                have HRt3 : Hid (_ = _) := heap_grown (heap_more HRt2.out _) hG (by omega)
                have HDt3 : Hid (DrI w t3 g a len cap) := (HDt2.out.alloc _).call hD hG
                obtain ⟨V, rfl⟩ := Int.eq_ofNat_of_zero_le hv0
                have hV : V < 3 := by omega
                obtain ⟨y, hy, hyc⟩ := tab_cell (t := 2) [-1, 65536, 1] V hV t3 hG (by have := heap_lt HIt2.out; omega)
                have hi0 : (0 : Int) ≤ (V : Int) := by omega
                have hi1 : (V : Int) < 3 := by omega
                clear hv0 hv1 hD hG hy
                obtain ⟨r0, r1, r2, r3, r4, r5, r6, r7, r8, r9, r10⟩ := cells11 HRt3.out
                have y0 := frozen_of_row _ _ 0 _ _ HRt3.out
                have y1 := frozen_of_row _ _ 1 _ _ HRt3.out
                have y2 := frozen_of_row _ _ 2 _ _ HRt3.out
                have y3 := frozen_of_row _ _ 3 _ _ HRt3.out
                have y4 := frozen_of_row _ _ 4 _ _ HRt3.out
                have y5 := frozen_of_row _ _ 5 _ _ HRt3.out
                have y6 := frozen_of_row _ _ 6 _ _ HRt3.out
                have y7 := frozen_of_row _ _ 7 _ _ HRt3.out
                have y8 := frozen_of_row _ _ 8 _ _ HRt3.out
                have y9 := frozen_of_row _ _ 9 _ _ HRt3.out
                have y10 := frozen_of_row _ _ 10 _ _ HRt3.out
                obtain ⟨c0, c1, c2, c3, c4, c5, c6, c7, c8, c9, c10⟩ := cells11 HIt3.out
                have f8 := frozen_of_row _ _ 8 _ _ HIt3.out
                go_wp2
                exact bodyPost_ret (results_cell_row Tryz.results20 _ _ w.heap.size 26 _ (0, 0) _ rfl (set_eleven (set_far hne HRt3.out)) Tryz.underlying26 rfl (by kernel_rfl)) rfl ⟨_, _, _, _, _, _, _, _, _, _, _, rfl, (DrI.set11 (HDt3.out.set hB 8 _) (Nat.le_refl _)).d, (DrI.set11 (HDt3.out.set hB 8 _) (Nat.le_refl _)).gr⟩
              · obtain ⟨r0, r1, r2, r3, r4, r5, r6, r7, r8, r9, r10⟩ := cells11 HRt2.out
                have y0 := frozen_of_row _ _ 0 _ _ HRt2.out
                have y1 := frozen_of_row _ _ 1 _ _ HRt2.out
                have y2 := frozen_of_row _ _ 2 _ _ HRt2.out
                have y3 := frozen_of_row _ _ 3 _ _ HRt2.out
                have y4 := frozen_of_row _ _ 4 _ _ HRt2.out
                have y5 := frozen_of_row _ _ 5 _ _ HRt2.out
                have y6 := frozen_of_row _ _ 6 _ _ HRt2.out
                have y7 := frozen_of_row _ _ 7 _ _ HRt2.out
                have y8 := frozen_of_row _ _ 8 _ _ HRt2.out
                have y9 := frozen_of_row _ _ 9 _ _ HRt2.out
                have y10 := frozen_of_row _ _ 10 _ _ HRt2.out
                obtain ⟨c0, c1, c2, c3, c4, c5, c6, c7, c8, c9, c10⟩ := cells11 HIt2.out
                have f0 := frozen_of_row _ _ 0 _ _ HIt2.out
                go_wp2
                exact bodyPost_ret (results_cell_row Tryz.results20 _ _ w.heap.size 26 _ (0, 0) _ rfl (set_eleven (set_far hne HRt2.out)) Tryz.underlying26 rfl (by kernel_rfl)) rfl ⟨_, _, _, _, _, _, _, _, _, _, _, rfl, (DrI.set11 (HDt2.out.set hB 0 _) (Nat.le_refl _)).d, (DrI.set11 (HDt2.out.set hB 0 _) (Nat.le_refl _)).gr⟩
              · obtain ⟨r0, r1, r2, r3, r4, r5, r6, r7, r8, r9, r10⟩ := cells11 HRt2.out
                have y0 := frozen_of_row _ _ 0 _ _ HRt2.out
                have y1 := frozen_of_row _ _ 1 _ _ HRt2.out
                have y2 := frozen_of_row _ _ 2 _ _ HRt2.out
                have y3 := frozen_of_row _ _ 3 _ _ HRt2.out
                have y4 := frozen_of_row _ _ 4 _ _ HRt2.out
                have y5 := frozen_of_row _ _ 5 _ _ HRt2.out
                have y6 := frozen_of_row _ _ 6 _ _ HRt2.out
                have y7 := frozen_of_row _ _ 7 _ _ HRt2.out
                have y8 := frozen_of_row _ _ 8 _ _ HRt2.out
                have y9 := frozen_of_row _ _ 9 _ _ HRt2.out
                have y10 := frozen_of_row _ _ 10 _ _ HRt2.out
                obtain ⟨c0, c1, c2, c3, c4, c5, c6, c7, c8, c9, c10⟩ := cells11 HIt2.out
                have f5 := frozen_of_row _ _ 5 _ _ HIt2.out
                go_wp2
                exact bodyPost_ret (results_cell_row Tryz.results20 _ _ w.heap.size 26 _ (0, 0) _ rfl (set_eleven (set_far hne HRt2.out)) Tryz.underlying26 rfl (by kernel_rfl)) rfl ⟨_, _, _, _, _, _, _, _, _, _, _, rfl, (DrI.set11 (HDt2.out.set hB 5 _) (Nat.le_refl _)).d, (DrI.set11 (HDt2.out.set hB 5 _) (Nat.le_refl _)).gr⟩
        · go_wp2_with fail
          have HIxg : Hid (_ = _) := (heap_set HIxf.out 1 (.bool true))
          have HRxg : Hid (_ = _) := (set_far (a := ⟨B, 1, none⟩) (v := .bool true) hne HRxf.out)
          have HDxg : Hid (DrI w _ g a len cap) := (HDxf.out.set hB 1 (.bool true))
          simp only [List.setIfInBounds_toArray, List.set_cons_zero, List.set_cons_succ] at HIxg
          clear c0 c1 c2 c3 c4 c5 c6 c7 c8 c9 c10 f1
          refine (one_any g a len cap 20 _ HDxg.out.d (by omega) (by omega)).mono ?_
          rintro e t1 ⟨bb, rfl, hD, hG⟩
          have HIt1 : Hid (_ = _) := heap_grown HIxg.out hG (by omega)
          have HRt1 : Hid (_ = _) := heap_grown HRxg.out hG (by omega)
          have HDt1 : Hid (DrI w t1 g a len cap) := HDxg.out.call hD hG
          clear hD hG
          cases bb
          · obtain ⟨r0, r1, r2, r3, r4, r5, r6, r7, r8, r9, r10⟩ := cells11 HRt1.out
            have y0 := frozen_of_row _ _ 0 _ _ HRt1.out
            have y1 := frozen_of_row _ _ 1 _ _ HRt1.out
            have y2 := frozen_of_row _ _ 2 _ _ HRt1.out
            have y3 := frozen_of_row _ _ 3 _ _ HRt1.out
            have y4 := frozen_of_row _ _ 4 _ _ HRt1.out
            have y5 := frozen_of_row _ _ 5 _ _ HRt1.out
            have y6 := frozen_of_row _ _ 6 _ _ HRt1.out
            have y7 := frozen_of_row _ _ 7 _ _ HRt1.out
            have y8 := frozen_of_row _ _ 8 _ _ HRt1.out
            have y9 := frozen_of_row _ _ 9 _ _ HRt1.out
            have y10 := frozen_of_row _ _ 10 _ _ HRt1.out
            obtain ⟨c0, c1, c2, c3, c4, c5, c6, c7, c8, c9, c10⟩ := cells11 HIt1.out
            go_wp2
            exact bodyPost_ret (results_cell_row Tryz.results20 _ _ w.heap.size 26 _ (0, 0) _ rfl (set_eleven HRt1.out) Tryz.underlying26 rfl (by kernel_rfl)) rfl ⟨_, _, _, _, _, _, _, _, _, _, _, rfl, (DrI.set11 HDt1.out (Nat.le_refl _)).d, (DrI.set11 HDt1.out (Nat.le_refl _)).gr⟩
          · go_wp2_with fail
            refine (n_any g a len cap 6 _ HDt1.out.d (by omega) (by omega)).mono ?_
            rintro e t2 ⟨v6, rfl, hv0, hv1, hD, hG⟩
            have HIt2 : Hid (_ = _) := heap_grown HIt1.out hG (by omega)
            have HRt2 : Hid (_ = _) := heap_grown HRt1.out hG (by omega)
            have HDt2 : Hid (DrI w t2 g a len cap) := HDt1.out.call hD hG
            have hv : v6 = 0 ∨ v6 = 1 ∨ v6 = 2 ∨ v6 = 3 ∨ v6 = 4 ∨ v6 = 5 := by omega
            clear hv0 hv1 hD hG
            rcases hv with rfl | rfl | rfl | rfl | rfl | rfl
            · go_wp2_with fail
              refine (n_any g a len cap 3 _ (HDt2.out.alloc _).d (by omega) (by omega)).mono ?_
              rintro e t3 ⟨u3, rfl, hv0, hv1, hD, hG⟩
              have HIt3 : Hid (_ = _) := heap_grown (heap_more HIt2.out _) hG (by omega)
              have HRt3 : Hid (_ = _) := heap_grown (heap_more HRt2.out _) hG (by omega)
              have HDt3 : Hid (DrI w t3 g a len cap) := (HDt2.out.alloc _).call hD hG
              obtain ⟨V, rfl⟩ := Int.eq_ofNat_of_zero_le hv0
              have hV : V < 3 := by omega
              obtain ⟨y, hy, hyc⟩ := tab_cell (t := 2) [-513, 512, 1] V hV t3 hG (by have := heap_lt HIt2.out; omega)
              have hi0 : (0 : Int) ≤ (V : Int) := by omega
              have hi1 : (V : Int) < 3 := by omega
              clear hv0 hv1 hD hG hy
              obtain ⟨r0, r1, r2, r3, r4, r5, r6, r7, r8, r9, r10⟩ := cells11 HRt3.out
              have y0 := frozen_of_row _ _ 0 _ _ HRt3.out
              have y1 := frozen_of_row _ _ 1 _ _ HRt3.out
              have y2 := frozen_of_row _ _ 2 _ _ HRt3.out
              have y3 := frozen_of_row _ _ 3 _ _ HRt3.out
              have y4 := frozen_of_row _ _ 4 _ _ HRt3.out
              have y5 := frozen_of_row _ _ 5 _ _ HRt3.out
              have y6 := frozen_of_row _ _ 6 _ _ HRt3.out
              have y7 := frozen_of_row _ _ 7 _ _ HRt3.out
              have y8 := frozen_of_row _ _ 8 _ _ HRt3.out
              have y9 := frozen_of_row _ _ 9 _ _ HRt3.out
              have y10 := frozen_of_row _ _ 10 _ _ HRt3.out
              obtain ⟨c0, c1, c2, c3, c4, c5, c6, c7, c8, c9, c10⟩ := cells11 HIt3.out
              have f10 := frozen_of_row _ _ 10 _ _ HIt3.out
              go_wp2
              exact bodyPost_ret (results_cell_row Tryz.results20 _ _ w.heap.size 26 _ (0, 0) _ rfl (set_eleven (set_far hne HRt3.out)) Tryz.underlying26 rfl (by kernel_rfl)) rfl ⟨_, _, _, _, _, _, _, _, _, _, _, rfl, (DrI.set11 (HDt3.out.set hB 10 _) (Nat.le_refl _)).d, (DrI.set11 (HDt3.out.set hB 10 _) (Nat.le_refl _)).gr⟩
            · obtain ⟨r0, r1, r2, r3, r4, r5, r6, r7, r8, r9, r10⟩ := cells11 HRt2.out
              have y0 := frozen_of_row _ _ 0 _ _ HRt2.out
              have y1 := frozen_of_row _ _ 1 _ _ HRt2.out
              have y2 := frozen_of_row _ _ 2 _ _ HRt2.out
              have y3 := frozen_of_row _ _ 3 _ _ HRt2.out
              have y4 := frozen_of_row _ _ 4 _ _ HRt2.out
              have y5 := frozen_of_row _ _ 5 _ _ HRt2.out
              have y6 := frozen_of_row _ _ 6 _ _ HRt2.out
              have y7 := frozen_of_row _ _ 7 _ _ HRt2.out
              have y8 := frozen_of_row _ _ 8 _ _ HRt2.out
              have y9 := frozen_of_row _ _ 9 _ _ HRt2.out
              have y10 := frozen_of_row _ _ 10 _ _ HRt2.out
              obtain ⟨c0, c1, c2, c3, c4, c5, c6, c7, c8, c9, c10⟩ := cells11 HIt2.out
              have f1 := frozen_of_row _ _ 1 _ _ HIt2.out
              go_wp2
              exact bodyPost_ret (results_cell_row Tryz.results20 _ _ w.heap.size 26 _ (0, 0) _ rfl (set_eleven (set_far hne HRt2.out)) Tryz.underlying26 rfl (by kernel_rfl)) rfl ⟨_, _, _, _, _, _, _, _, _, _, _, rfl, (DrI.set11 (HDt2.out.set hB 1 _) (Nat.le_refl _)).d, (DrI.set11 (HDt2.out.set hB 1 _) (Nat.le_refl _)).gr⟩
            · go_wp2_with fail
              refine (n_any g a len cap 4 _ (HDt2.out.alloc _).d (by omega) (by omega)).mono ?_
              rintro e t3 ⟨u3, rfl, hv0, hv1, hD, hG⟩
              have HIt3 : Hid (_ = _) := heap_grown (heap_more HIt2.out _) hG (by omega)
              have HRt3 : Hid (_ = _) := heap_grown (heap_more HRt2.out _) hG (by omega)
              have HDt3 : Hid (DrI w t3 g a len cap) := (HDt2.out.alloc _).call hD hG
              obtain ⟨V, rfl⟩ := Int.eq_ofNat_of_zero_le hv0
              have hV : V < 4 := by omega
              obtain ⟨y, hy, hyc⟩ := tab_cell (t := 2) [2, 3, 16, -1] V hV t3 hG (by have := heap_lt HIt2.out; omega)
              have hi0 : (0 : Int) ≤ (V : Int) := by omega
              have hi1 : (V : Int) < 4 := by omega
              clear hv0 hv1 hD hG hy
              obtain ⟨r0, r1, r2, r3, r4, r5, r6, r7, r8, r9, r10⟩ := cells11 HRt3.out
              have y0 := frozen_of_row _ _ 0 _ _ HRt3.out
              have y1 := frozen_of_row _ _ 1 _ _ HRt3.out
              have y2 := frozen_of_row _ _ 2 _ _ HRt3.out
              have y3 := frozen_of_row _ _ 3 _ _ HRt3.out
              have y4 := frozen_of_row _ _ 4 _ _ HRt3.out
              have y5 := frozen_of_row _ _ 5 _ _ HRt3.out
              have y6 := frozen_of_row _ _ 6 _ _ HRt3.out
              have y7 := frozen_of_row _ _ 7 _ _ HRt3.out
              have y8 := frozen_of_row _ _ 8 _ _ HRt3.out
              have y9 := frozen_of_row _ _ 9 _ _ HRt3.out
              have y10 := frozen_of_row _ _ 10 _ _ HRt3.out
              obtain ⟨c0, c1, c2, c3, c4, c5, c6, c7, c8, c9, c10⟩ := cells11 HIt3.out
              have f3 := frozen_of_row _ _ 3 _ _ HIt3.out
              go_wp2
              exact bodyPost_ret (results_cell_row Tryz.results20 _ _ w.heap.size 26 _ (0, 0) _ rfl (set_eleven (set_far hne HRt3.out)) Tryz.underlying26 rfl (by kernel_rfl)) rfl ⟨_, _, _, _, _, _, _, _, _, _, _, rfl, (DrI.set11 (HDt3.out.set hB 3 _) (Nat.le_refl _)).d, (DrI.set11 (HDt3.out.set hB 3 _) (Nat.le_refl _)).gr⟩
            · go_wp2_with fail
              refine (n_any g a len cap 3 _ (HDt2.out.alloc _).d (by omega) (by omega)).mono ?_
              rintro e t3 ⟨u3, rfl, hv0, hv1, hD, hG⟩
              have HIt3 : Hid (_ = _) := heap_grown (heap_more HIt2.out _) hG (by omega)
              have HRt3 : Hid (_ = _) := heap_grown (heap_more HRt2.out _) hG (by omega)
              have HDt3 : Hid (DrI w t3 g a len cap) := (HDt2.out.alloc _).call hD hG
              obtain ⟨V, rfl⟩ := Int.eq_ofNat_of_zero_le hv0
              have hV : V < 3 := by omega
              obtain ⟨y, hy, hyc⟩ := tab_cell (t := 2) [-1, 65536, 1] V hV t3 hG (by have := heap_lt HIt2.out; omega)
              have hi0 : (0 : Int) ≤ (V : Int) := by omega
              have hi1 : (V : Int) < 3 := by omega
              clear hv0 hv1 hD hG hy
              obtain ⟨r0, r1, r2, r3, r4, r5, r6, r7, r8, r9, r10⟩ := cells11 HRt3.out
              have y0 := frozen_of_row _ _ 0 _ _ HRt3.out
              have y1 := frozen_of_row _ _ 1 _ _ HRt3.out
              have y2 := frozen_of_row _ _ 2 _ _ HRt3.out
              have y3 := frozen_of_row _ _ 3 _ _ HRt3.out
              have y4 := frozen_of_row _ _ 4 _ _ HRt3.out
              have y5 := frozen_of_row _ _ 5 _ _ HRt3.out
              have y6 := frozen_of_row _ _ 6 _ _ HRt3.out
              have y7 := frozen_of_row _ _ 7 _ _ HRt3.out
              have y8 := frozen_of_row _ _ 8 _ _ HRt3.out
              have y9 := frozen_of_row _ _ 9 _ _ HRt3.out
              have y10 := frozen_of_row _ _ 10 _ _ HRt3.out
              obtain ⟨c0, c1, c2, c3, c4, c5, c6, c7, c8, c9, c10⟩ := cells11 HIt3.out
              have f8 := frozen_of_row _ _ 8 _ _ HIt3.out
              go_wp2
              exact bodyPost_ret (results_cell_row Tryz.results20 _ _ w.heap.size 26 _ (0, 0) _ rfl (set_eleven (set_far hne HRt3.out)) Tryz.underlying26 rfl (by kernel_rfl)) rfl ⟨_, _, _, _, _, _, _, _, _, _, _, rfl, (DrI.set11 (HDt3.out.set hB 8 _) (Nat.le_refl _)).d, (DrI.set11 (HDt3.out.set hB 8 _) (Nat.le_refl _)).gr⟩
            · obtain ⟨r0, r1, r2, r3, r4, r5, r6, r7, r8, r9, r10⟩ := cells11 HRt2.out
              have y0 := frozen_of_row _ _ 0 _ _ HRt2.out
              have y1 := frozen_of_row _ _ 1 _ _ HRt2.out
              have y2 := frozen_of_row _ _ 2 _ _ HRt2.out
              have y3 := frozen_of_row _ _ 3 _ _ HRt2.out
              have y4 := frozen_of_row _ _ 4 _ _ HRt2.out
              have y5 := frozen_of_row _ _ 5 _ _ HRt2.out
              have y6 := frozen_of_row _ _ 6 _ _ HRt2.out
              have y7 := frozen_of_row _ _ 7 _ _ HRt2.out
              have y8 := frozen_of_row _ _ 8 _ _ HRt2.out
              have y9 := frozen_of_row _ _ 9 _ _ HRt2.out
              have y10 := frozen_of_row _ _ 10 _ _ HRt2.out
              obtain ⟨c0, c1, c2, c3, c4, c5, c6, c7, c8, c9, c10⟩ := cells11 HIt2.out
              have f0 := frozen_of_row _ _ 0 _ _ HIt2.out
              go_wp2
              exact bodyPost_ret (results_cell_row Tryz.results20 _ _ w.heap.size 26 _ (0, 0) _ rfl (set_eleven (set_far hne HRt2.out)) Tryz.underlying26 rfl (by kernel_rfl)) rfl ⟨_, _, _, _, _, _, _, _, _, _, _, rfl, (DrI.set11 (HDt2.out.set hB 0 _) (Nat.le_refl _)).d, (DrI.set11 (HDt2.out.set hB 0 _) (Nat.le_refl _)).gr⟩
            · obtain ⟨r0, r1, r2, r3, r4, r5, r6, r7, r8, r9, r10⟩ := cells11 HRt2.out
              have y0 := frozen_of_row _ _ 0 _ _ HRt2.out
              have y1 := frozen_of_row _ _ 1 _ _ HRt2.out
              have y2 := frozen_of_row _ _ 2 _ _ HRt2.out
              have y3 := frozen_of_row _ _ 3 _ _ HRt2.out
              have y4 := frozen_of_row _ _ 4 _ _ HRt2.out
              have y5 := frozen_of_row _ _ 5 _ _ HRt2.out
              have y6 := frozen_of_row _ _ 6 _ _ HRt2.out
              have y7 := frozen_of_row _ _ 7 _ _ HRt2.out
              have y8 := frozen_of_row _ _ 8 _ _ HRt2.out
              have y9 := frozen_of_row _ _ 9 _ _ HRt2.out
              have y10 := frozen_of_row _ _ 10 _ _ HRt2.out
              obtain ⟨c0, c1, c2, c3, c4, c5, c6, c7, c8, c9, c10⟩ := cells11 HIt2.out
              have f5 := frozen_of_row _ _ 5 _ _ HIt2.out
              go_wp2
              exact bodyPost_ret (results_cell_row Tryz.results20 _ _ w.heap.size 26 _ (0, 0) _ rfl (set_eleven (set_far hne HRt2.out)) Tryz.underlying26 rfl (by kernel_rfl)) rfl ⟨_, _, _, _, _, _, _, _, _, _, _, rfl, (DrI.set11 (HDt2.out.set hB 5 _) (Nat.le_refl _)).d, (DrI.set11 (HDt2.out.set hB 5 _) (Nat.le_refl _)).gr⟩
      · go_wp2_with fail
        have HIxg : Hid (_ = _) := (heap_set HIxf.out 1 (.bool true))
        have HRxg : Hid (_ = _) := (set_far (a := ⟨B, 1, none⟩) (v := .bool true) hne HRxf.out)
        have HDxg : Hid (DrI w _ g a len cap) := (HDxf.out.set hB 1 (.bool true))
        simp only [List.setIfInBounds_toArray, List.set_cons_zero, List.set_cons_succ] at HIxg
        clear c0 c1 c2 c3 c4 c5 c6 c7 c8 c9 c10 f1
        refine (one_any g a len cap 20 _ HDxg.out.d (by omega) (by omega)).mono ?_
        rintro e t1 ⟨bb, rfl, hD, hG⟩
        have HIt1 : Hid (_ = _) := heap_grown HIxg.out hG (by omega)
        have HRt1 : Hid (_ = _) := heap_grown HRxg.out hG (by omega)
        have HDt1 : Hid (DrI w t1 g a len cap) := HDxg.out.call hD hG
        clear hD hG
        cases bb
        · obtain ⟨r0, r1, r2, r3, r4, r5, r6, r7, r8, r9, r10⟩ := cells11 HRt1.out
          have y0 := frozen_of_row _ _ 0 _ _ HRt1.out
          have y1 := frozen_of_row _ _ 1 _ _ HRt1.out
          have y2 := frozen_of_row _ _ 2 _ _ HRt1.out
          have y3 := frozen_of_row _ _ 3 _ _ HRt1.out
          have y4 := frozen_of_row _ _ 4 _ _ HRt1.out
          have y5 := frozen_of_row _ _ 5 _ _ HRt1.out
          have y6 := frozen_of_row _ _ 6 _ _ HRt1.out
          have y7 := frozen_of_row _ _ 7 _ _ HRt1.out
          have y8 := frozen_of_row _ _ 8 _ _ HRt1.out
          have y9 := frozen_of_row _ _ 9 _ _ HRt1.out
          have y10 := frozen_of_row _ _ 10 _ _ HRt1.out
          obtain ⟨c0, c1, c2, c3, c4, c5, c6, c7, c8, c9, c10⟩ := cells11 HIt1.out
          go_wp2
          exact bodyPost_ret (results_cell_row Tryz.results20 _ _ w.heap.size 26 _ (0, 0) _ rfl (set_eleven HRt1.out) Tryz.underlying26 rfl (by kernel_rfl)) rfl ⟨_, _, _, _, _, _, _, _, _, _, _, rfl, (DrI.set11 HDt1.out (Nat.le_refl _)).d, (DrI.set11 HDt1.out (Nat.le_refl _)).gr⟩
        · go_wp2_with fail
          refine (n_any g a len cap 6 _ HDt1.out.d (by omega) (by omega)).mono ?_
          rintro e t2 ⟨v6, rfl, hv0, hv1, hD, hG⟩
          have HIt2 : Hid (_ = _) := heap_grown HIt1.out hG (by omega)
          have HRt2 : Hid (_ = _) := heap_grown HRt1.out hG (by omega)
          have HDt2 : Hid (DrI w t2 g a len cap) := HDt1.out.call hD hG
          have hv : v6 = 0 ∨ v6 = 1 ∨ v6 = 2 ∨ v6 = 3 ∨ v6 = 4 ∨ v6 = 5 := by omega
          clear hv0 hv1 hD hG
          rcases hv with rfl | rfl | rfl | rfl | rfl | rfl
          · go_wp2_with fail
            refine (n_any g a len cap 3 _ (HDt2.out.alloc _).d (by omega) (by omega)).mono ?_
            rintro e t3 ⟨u3, rfl, hv0, hv1, hD, hG⟩
            have HIt3 : Hid (_ = _) := heap_grown (heap_more HIt2.out _) hG (by omega)
            have HRt3 : Hid (_ = _) := heap_grown (heap_more HRt2.out _) hG (by omega)
            have HDt3 : Hid (DrI w t3 g a len cap) := (HDt2.out.alloc _).call hD hG
            obtain ⟨V, rfl⟩ := Int.eq_ofNat_of_zero_le hv0
            have hV : V < 3 := by omega
            obtain ⟨y, hy, hyc⟩ := tab_cell (t := 2) [-513, 512, 1] V hV t3 hG (by have := heap_lt HIt2.out; omega)
            have hi0 : (0 : Int) ≤ (V : Int) := by omega
            have hi1 : (V : Int) < 3 := by omega
            clear hv0 hv1 hD hG hy
            obtain ⟨r0, r1, r2, r3, r4, r5, r6, r7, r8, r9, r10⟩ := cells11 HRt3.out
            have y0 := frozen_of_row _ _ 0 _ _ HRt3.out
            have y1 := frozen_of_row _ _ 1 _ _ HRt3.out
            have y2 := frozen_of_row _ _ 2 _ _ HRt3.out
            have y3 := frozen_of_row _ _ 3 _ _ HRt3.out
            have y4 := frozen_of_row _ _ 4 _ _ HRt3.out
            have y5 := frozen_of_row _ _ 5 _ _ HRt3.out
            have y6 := frozen_of_row _ _ 6 _ _ HRt3.out
            have y7 := frozen_of_row _ _ 7 _ _ HRt3.out
            have y8 := frozen_of_row _ _ 8 _ _ HRt3.out
            have y9 := frozen_of_row _ _ 9 _ _ HRt3.out
            have y10 := frozen_of_row _ _ 10 _ _ HRt3.out
            obtain ⟨c0, c1, c2, c3, c4, c5, c6, c7, c8, c9, c10⟩ := cells11 HIt3.out
            have f10 := frozen_of_row _ _ 10 _ _ HIt3.out
            go_wp2
            exact bodyPost_ret (results_cell_row Tryz.results20 _ _ w.heap.size 26 _ (0, 0) _ rfl (set_eleven (set_far hne HRt3.out)) Tryz.underlying26 rfl (by kernel_rfl)) rfl ⟨_, _, _, _, _, _, _, _, _, _, _, rfl, (DrI.set11 (HDt3.out.set hB 10 _) (Nat.le_refl _)).d, (DrI.set11 (HDt3.out.set hB 10 _) (Nat.le_refl _)).gr⟩
          · obtain ⟨r0, r1, r2, r3, r4, r5, r6, r7, r8, r9, r10⟩ := cells11 HRt2.out
            have y0 := frozen_of_row _ _ 0 _ _ HRt2.out
            have y1 := frozen_of_row _ _ 1 _ _ HRt2.out
            have y2 := frozen_of_row _ _ 2 _ _ HRt2.out
            have y3 := frozen_of_row _ _ 3 _ _ HRt2.out
            have y4 := frozen_of_row _ _ 4 _ _ HRt2.out
            have y5 := frozen_of_row _ _ 5 _ _ HRt2.out
            have y6 := frozen_of_row _ _ 6 _ _ HRt2.out
            have y7 := frozen_of_row _ _ 7 _ _ HRt2.out
            have y8 := frozen_of_row _ _ 8 _ _ HRt2.out
            have y9 := frozen_of_row _ _ 9 _ _ HRt2.out
            have y10 := frozen_of_row _ _ 10 _ _ HRt2.out
            obtain ⟨c0, c1, c2, c3, c4, c5, c6, c7, c8, c9, c10⟩ := cells11 HIt2.out
            have f1 := frozen_of_row _ _ 1 _ _ HIt2.out
            go_wp2
            exact bodyPost_ret (results_cell_row Tryz.results20 _ _ w.heap.size 26 _ (0, 0) _ rfl (set_eleven (set_far hne HRt2.out)) Tryz.underlying26 rfl (by kernel_rfl)) rfl ⟨_, _, _, _, _, _, _, _, _, _, _, rfl, (DrI.set11 (HDt2.out.set hB 1 _) (Nat.le_refl _)).d, (DrI.set11 (HDt2.out.set hB 1 _) (Nat.le_refl _)).gr⟩
          · go_wp2_with fail
            refine (n_any g a len cap 4 _ (HDt2.out.alloc _).d (by omega) (by omega)).mono ?_
            rintro e t3 ⟨u3, rfl, hv0, hv1, hD, hG⟩
            have HIt3 : Hid (_ = _) := heap_grown (heap_more HIt2.out _) hG (by omega)
            have HRt3 : Hid (_ = _) := heap_grown (heap_more HRt2.out _) hG (by omega)
            have HDt3 : Hid (DrI w t3 g a len cap) := (HDt2.out.alloc _).call hD hG
            obtain ⟨V, rfl⟩ := Int.eq_ofNat_of_zero_le hv0
            have hV : V < 4 := by omega
            obtain ⟨y, hy, hyc⟩ := tab_cell (t := 2) [2, 3, 16, -1] V hV t3 hG (by have := heap_lt HIt2.out; omega)
            have hi0 : (0 : Int) ≤ (V : Int) := by omega
            have hi1 : (V : Int) < 4 := by omega
            clear hv0 hv1 hD hG hy
            obtain ⟨r0, r1, r2, r3, r4, r5, r6, r7, r8, r9, r10⟩ := cells11 HRt3.out
            have y0 := frozen_of_row _ _ 0 _ _ HRt3.out
            have y1 := frozen_of_row _ _ 1 _ _ HRt3.out
            have y2 := frozen_of_row _ _ 2 _ _ HRt3.out
            have y3 := frozen_of_row _ _ 3 _ _ HRt3.out
            have y4 := frozen_of_row _ _ 4 _ _ HRt3.out
            have y5 := frozen_of_row _ _ 5 _ _ HRt3.out
            have y6 := frozen_of_row _ _ 6 _ _ HRt3.out
            have y7 := frozen_of_row _ _ 7 _ _ HRt3.out
            have y8 := frozen_of_row _ _ 8 _ _ HRt3.out
            have y9 := frozen_of_row _ _ 9 _ _ HRt3.out
            have y10 := frozen_of_row _ _ 10 _ _ HRt3.out
            obtain ⟨c0, c1, c2, c3, c4, c5, c6, c7, c8, c9, c10⟩ := cells11 HIt3.out
            have f3 := frozen_of_row _ _ 3 _ _ HIt3.out
            go_wp2
            exact bodyPost_ret (results_cell_row Tryz.results20 _ _ w.heap.size 26 _ (0, 0) _ rfl (set_eleven (set_far hne HRt3.out)) Tryz.underlying26 rfl (by kernel_rfl)) rfl ⟨_, _, _, _, _, _, _, _, _, _, _, rfl, (DrI.set11 (HDt3.out.set hB 3 _) (Nat.le_refl _)).d, (DrI.set11 (HDt3.out.set hB 3 _) (Nat.le_refl _)).gr⟩
          · go_wp2_with fail
            refine (n_any g a len cap 3 _ (HDt2.out.alloc _).d (by omega) (by omega)).mono ?_
            rintro e t3 ⟨u3, rfl, hv0, hv1, hD, hG⟩
            have HIt3 : Hid (_ = _) := heap_grown (heap_more HIt2.out _) hG (by omega)
            have HRt3 : Hid (_ = _) := heap_grown (heap_more HRt2.out _) hG (by omega)
            have HDt3 : Hid (DrI w t3 g a len cap) := (HDt2.out.alloc _).call hD hG
            obtain ⟨V, rfl⟩ := Int.eq_ofNat_of_zero_le hv0
            have hV : V < 3 := by omega
            obtain ⟨y, hy, hyc⟩ := tab_cell (t := 2) [-1, 65536, 1] V hV t3 hG (by have := heap_lt HIt2.out; omega)
            have hi0 : (0 : Int) ≤ (V : Int) := by omega
            have hi1 : (V : Int) < 3 := by omega
            clear hv0 hv1 hD hG hy
            obtain ⟨r0, r1, r2, r3, r4, r5, r6, r7, r8, r9, r10⟩ := cells11 HRt3.out
            have y0 := frozen_of_row _ _ 0 _ _ HRt3.out
            have y1 := frozen_of_row _ _ 1 _ _ HRt3.out
            have y2 := frozen_of_row _ _ 2 _ _ HRt3.out
            have y3 := frozen_of_row _ _ 3 _ _ HRt3.out
            have y4 := frozen_of_row _ _ 4 _ _ HRt3.out
            have y5 := frozen_of_row _ _ 5 _ _ HRt3.out
            have y6 := frozen_of_row _ _ 6 _ _ HRt3.out
            have y7 := frozen_of_row _ _ 7 _ _ HRt3.out
            have y8 := frozen_of_row _ _ 8 _ _ HRt3.out
            have y9 := frozen_of_row _ _ 9 _ _ HRt3.out
            have y10 := frozen_of_row _ _ 10 _ _ HRt3.out
            obtain ⟨c0, c1, c2, c3, c4, c5, c6, c7, c8, c9, c10⟩ := cells11 HIt3.out
            have f8 := frozen_of_row _ _ 8 _ _ HIt3.out
            go_wp2
            exact bodyPost_ret (results_cell_row Tryz.results20 _ _ w.heap.size 26 _ (0, 0) _ rfl (set_eleven (set_far hne HRt3.out)) Tryz.underlying26 rfl (by kernel_rfl)) rfl ⟨_, _, _, _, _, _, _, _, _, _, _, rfl, (DrI.set11 (HDt3.out.set hB 8 _) (Nat.le_refl _)).d, (DrI.set11 (HDt3.out.set hB 8 _) (Nat.le_refl _)).gr⟩
          · obtain ⟨r0, r1, r2, r3, r4, r5, r6, r7, r8, r9, r10⟩ := cells11 HRt2.out
            have y0 := frozen_of_row _ _ 0 _ _ HRt2.out
            have y1 := frozen_of_row _ _ 1 _ _ HRt2.out
            have y2 := frozen_of_row _ _ 2 _ _ HRt2.out
            have y3 := frozen_of_row _ _ 3 _ _ HRt2.out
            have y4 := frozen_of_row _ _ 4 _ _ HRt2.out
            have y5 := frozen_of_row _ _ 5 _ _ HRt2.out
            have y6 := frozen_of_row _ _ 6 _ _ HRt2.out
            have y7 := frozen_of_row _ _ 7 _ _ HRt2.out
            have y8 := frozen_of_row _ _ 8 _ _ HRt2.out
            have y9 := frozen_of_row _ _ 9 _ _ HRt2.out
            have y10 := frozen_of_row _ _ 10 _ _ HRt2.out
            obtain ⟨c0, c1, c2, c3, c4, c5, c6, c7, c8, c9, c10⟩ := cells11 HIt2.out
            have f0 := frozen_of_row _ _ 0 _ _ HIt2.out
            go_wp2
            exact bodyPost_ret (results_cell_row Tryz.results20 _ _ w.heap.size 26 _ (0, 0) _ rfl (set_eleven (set_far hne HRt2.out)) Tryz.underlying26 rfl (by kernel_rfl)) rfl ⟨_, _, _, _, _, _, _, _, _, _, _, rfl, (DrI.set11 (HDt2.out.set hB 0 _) (Nat.le_refl _)).d, (DrI.set11 (HDt2.out.set hB 0 _) (Nat.le_refl _)).gr⟩
          · obtain ⟨r0, r1, r2, r3, r4, r5, r6, r7, r8, r9, r10⟩ := cells11 HRt2.out
            have y0 := frozen_of_row _ _ 0 _ _ HRt2.out
            have y1 := frozen_of_row _ _ 1 _ _ HRt2.out
            have y2 := frozen_of_row _ _ 2 _ _ HRt2.out
            have y3 := frozen_of_row _ _ 3 _ _ HRt2.out
            have y4 := frozen_of_row _ _ 4 _ _ HRt2.out
            have y5 := frozen_of_row _ _ 5 _ _ HRt2.out
            have y6 := frozen_of_row _ _ 6 _ _ HRt2.out
            have y7 := frozen_of_row _ _ 7 _ _ HRt2.out
            have y8 := frozen_of_row _ _ 8 _ _ HRt2.out
            have y9 := frozen_of_row _ _ 9 _ _ HRt2.out
            have y10 := frozen_of_row _ _ 10 _ _ HRt2.out
            obtain ⟨c0, c1, c2, c3, c4, c5, c6, c7, c8, c9, c10⟩ := cells11 HIt2.out
            have f5 := frozen_of_row _ _ 5 _ _ HIt2.out
            go_wp2
            exact bodyPost_ret (results_cell_row Tryz.results20 _ _ w.heap.size 26 _ (0, 0) _ rfl (set_eleven (set_far hne HRt2.out)) Tryz.underlying26 rfl (by kernel_rfl)) rfl ⟨_, _, _, _, _, _, _, _, _, _, _, rfl, (DrI.set11 (HDt2.out.set hB 5 _) (Nat.le_refl _)).d, (DrI.set11 (HDt2.out.set hB 5 _) (Nat.le_refl _)).gr⟩
  by_cases k3 : 18 < k
  · go_wp2_with fail
    refine (n_any g a len cap 1024 _ HDa.out.d (by omega) (by omega)).mono ?_
    rintro e xb ⟨u1, rfl, hv0, hv1, hD, hG⟩
    have HIxb : Hid (_ = _) := heap_grown HIa.out hG (by omega)
    have HRxb : Hid (_ = _) := heap_grown HRa.out hG (by omega)
    have HDxb : Hid (DrI w xb g a len cap) := HDa.out.call hD hG
    clear hD hG
    obtain ⟨c0, c1, c2, c3, c4, c5, c6, c7, c8, c9, c10⟩ := cells11 HIxb.out
    have f10 := frozen_of_row _ _ 10 _ _ HIxb.out
    go_wp2_with fail
    have HIxg : Hid (_ = _) := (heap_set HIxb.out 10 (.int .i64 (u1 - 512)))
    have HRxg : Hid (_ = _) := (set_far (a := ⟨B, 10, none⟩) (v := .int .i64 (u1 - 512)) hne HRxb.out)
    have HDxg : Hid (DrI w _ g a len cap) := (HDxb.out.set hB 10 (.int .i64 (u1 - 512)))
    simp only [List.setIfInBounds_toArray, List.set_cons_zero, List.set_cons_succ] at HIxg
    clear c0 c1 c2 c3 c4 c5 c6 c7 c8 c9 c10 f10
    refine (one_any g a len cap 20 _ HDxg.out.d (by omega) (by omega)).mono ?_
    rintro e t1 ⟨bb, rfl, hD, hG⟩
    have HIt1 : Hid (_ = _) := heap_grown HIxg.out hG (by omega)
    have HRt1 : Hid (_ = _) := heap_grown HRxg.out hG (by omega)
    have HDt1 : Hid (DrI w t1 g a len cap) := HDxg.out.call hD hG
    clear hD hG
    cases bb
    · obtain ⟨r0, r1, r2, r3, r4, r5, r6, r7, r8, r9, r10⟩ := cells11 HRt1.out
      have y0 := frozen_of_row _ _ 0 _ _ HRt1.out
      have y1 := frozen_of_row _ _ 1 _ _ HRt1.out
      have y2 := frozen_of_row _ _ 2 _ _ HRt1.out
      have y3 := frozen_of_row _ _ 3 _ _ HRt1.out
      have y4 := frozen_of_row _ _ 4 _ _ HRt1.out
      have y5 := frozen_of_row _ _ 5 _ _ HRt1.out
      have y6 := frozen_of_row _ _ 6 _ _ HRt1.out
      have y7 := frozen_of_row _ _ 7 _ _ HRt1.out
      have y8 := frozen_of_row _ _ 8 _ _ HRt1.out
      have y9 := frozen_of_row _ _ 9 _ _ HRt1.out
      have y10 := frozen_of_row _ _ 10 _ _ HRt1.out
      obtain ⟨c0, c1, c2, c3, c4, c5, c6, c7, c8, c9, c10⟩ := cells11 HIt1.out
      go_wp2
      exact bodyPost_ret (results_cell_row Tryz.results20 _ _ w.heap.size 26 _ (0, 0) _ rfl (set_eleven HRt1.out) Tryz.underlying26 rfl (by kernel_rfl)) rfl ⟨_, _, _, _, _, _, _, _, _, _, _, rfl, (DrI.set11 HDt1.out (Nat.le_refl _)).d, (DrI.set11 HDt1.out (Nat.le_refl _)).gr⟩
    · go_wp2_with fail
      refine (n_any g a len cap 6 _ HDt1.out.d (by omega) (by omega)).mono ?_
      rintro e t2 ⟨v6, rfl, hv0, hv1, hD, hG⟩
      have HIt2 : Hid (_ = _) := heap_grown HIt1.out hG (by omega)
      have HRt2 : Hid (_ = _) := heap_grown HRt1.out hG (by omega)
      have HDt2 : Hid (DrI w t2 g a len cap) := HDt1.out.call hD hG
      have hv : v6 = 0 ∨ v6 = 1 ∨ v6 = 2 ∨ v6 = 3 ∨ v6 = 4 ∨ v6 = 5 := by omega
      clear hv0 hv1 hD hG
      rcases hv with rfl | rfl | rfl | rfl | rfl | rfl
      · go_wp2_with fail
        refine (n_any g a len cap 3 _ (HDt2.out.alloc _).d (by omega) (by omega)).mono ?_
        rintro e t3 ⟨u3, rfl, hv0, hv1, hD, hG⟩
        have HIt3 : Hid (_ = _) := heap_grown (heap_more HIt2.out _) hG (by omega)
        have HRt3 : Hid (_ = _) := heap_grown (heap_more HRt2.out _) hG (by omega)
        have HDt3 : Hid (DrI w t3 g a len cap) := (HDt2.out.alloc _).call hD hG
        obtain ⟨V, rfl⟩ := Int.eq_ofNat_of_zero_le hv0
        have hV : V < 3 := by omega
        obtain ⟨y, hy, hyc⟩ := tab_cell (t := 2) [-513, 512, 1] V hV t3 hG (by have := heap_lt HIt2.out; omega)
        have hi0 : (0 : Int) ≤ (V : Int) := by omega
        have hi1 : (V : Int) < 3 := by omega
        clear hv0 hv1 hD hG hy
        obtain ⟨r0, r1, r2, r3, r4, r5, r6, r7, r8, r9, r10⟩ := cells11 HRt3.out
        have y0 := frozen_of_row _ _ 0 _ _ HRt3.out
        have y1 := frozen_of_row _ _ 1 _ _ HRt3.out
        have y2 := frozen_of_row _ _ 2 _ _ HRt3.out
        have y3 := frozen_of_row _ _ 3 _ _ HRt3.out
        have y4 := frozen_of_row _ _ 4 _ _ HRt3.out
        have y5 := frozen_of_row _ _ 5 _ _ HRt3.out
        have y6 := frozen_of_row _ _ 6 _ _ HRt3.out
        have y7 := frozen_of_row _ _ 7 _ _ HRt3.out
        have y8 := frozen_of_row _ _ 8 _ _ HRt3.out
        have y9 := frozen_of_row _ _ 9 _ _ HRt3.out
        have y10 := frozen_of_row _ _ 10 _ _ HRt3.out
        obtain ⟨c0, c1, c2, c3, c4, c5, c6, c7, c8, c9, c10⟩ := cells11 HIt3.out
        have f10 := frozen_of_row _ _ 10 _ _ HIt3.out
        go_wp2
        exact bodyPost_ret (results_cell_row Tryz.results20 _ _ w.heap.size 26 _ (0, 0) _ rfl (set_eleven (set_far hne HRt3.out)) Tryz.underlying26 rfl (by kernel_rfl)) rfl ⟨_, _, _, _, _, _, _, _, _, _, _, rfl, (DrI.set11 (HDt3.out.set hB 10 _) (Nat.le_refl _)).d, (DrI.set11 (HDt3.out.set hB 10 _) (Nat.le_refl _)).gr⟩
      · obtain ⟨r0, r1, r2, r3, r4, r5, r6, r7, r8, r9, r10⟩ := cells11 HRt2.out
        have y0 := frozen_of_row _ _ 0 _ _ HRt2.out
        have y1 := frozen_of_row _ _ 1 _ _ HRt2.out
        have y2 := frozen_of_row _ _ 2 _ _ HRt2.out
        have y3 := frozen_of_row _ _ 3 _ _ HRt2.out
        have y4 := frozen_of_row _ _ 4 _ _ HRt2.out
        have y5 := frozen_of_row _ _ 5 _ _ HRt2.out
        have y6 := frozen_of_row _ _ 6 _ _ HRt2.out
        have y7 := frozen_of_row _ _ 7 _ _ HRt2.out
        have y8 := frozen_of_row _ _ 8 _ _ HRt2.out
        have y9 := frozen_of_row _ _ 9 _ _ HRt2.out
        have y10 := frozen_of_row _ _ 10 _ _ HRt2.out
        obtain ⟨c0, c1, c2, c3, c4, c5, c6, c7, c8, c9, c10⟩ := cells11 HIt2.out
        have f1 := frozen_of_row _ _ 1 _ _ HIt2.out
        go_wp2
        exact bodyPost_ret (results_cell_row Tryz.results20 _ _ w.heap.size 26 _ (0, 0) _ rfl (set_eleven (set_far hne HRt2.out)) Tryz.underlying26 rfl (by kernel_rfl)) rfl ⟨_, _, _, _, _, _, _, _, _, _, _, rfl, (DrI.set11 (HDt2.out.set hB 1 _) (Nat.le_refl _)).d, (DrI.set11 (HDt2.out.set hB 1 _) (Nat.le_refl _)).gr⟩
      · go_wp2_with fail
        refine (n_any g a len cap 4 _ (HDt2.out.alloc _).d (by omega) (by omega)).mono ?_
        rintro e t3 ⟨u3, rfl, hv0, hv1, hD, hG⟩
        have HIt3 : Hid (_ = _) := heap_grown (heap_more HIt2.out _) hG (by omega)
        have HRt3 : Hid (_ = _) := heap_grown (heap_more HRt2.out _) hG (by omega)
        have HDt3 : Hid (DrI w t3 g a len cap) := (HDt2.out.alloc _).call hD hG
        obtain ⟨V, rfl⟩ := Int.eq_ofNat_of_zero_le hv0
        have hV : V < 4 := by omega
        obtain ⟨y, hy, hyc⟩ := tab_cell (t := 2) [2, 3, 16, -1] V hV t3 hG (by have := heap_lt HIt2.out; omega)
        have hi0 : (0 : Int) ≤ (V : Int) := by omega
        have hi1 : (V : Int) < 4 := by omega
        clear hv0 hv1 hD hG hy
        obtain ⟨r0, r1, r2, r3, r4, r5, r6, r7, r8, r9, r10⟩ := cells11 HRt3.out
        have y0 := frozen_of_row _ _ 0 _ _ HRt3.out
        have y1 := frozen_of_row _ _ 1 _ _ HRt3.out
        have y2 := frozen_of_row _ _ 2 _ _ HRt3.out
        have y3 := frozen_of_row _ _ 3 _ _ HRt3.out
        have y4 := frozen_of_row _ _ 4 _ _ HRt3.out
        have y5 := frozen_of_row _ _ 5 _ _ HRt3.out
        have y6 := frozen_of_row _ _ 6 _ _ HRt3.out
        have y7 := frozen_of_row _ _ 7 _ _ HRt3.out
        have y8 := frozen_of_row _ _ 8 _ _ HRt3.out
        have y9 := frozen_of_row _ _ 9 _ _ HRt3.out
        have y10 := frozen_of_row _ _ 10 _ _ HRt3.out
        obtain ⟨c0, c1, c2, c3, c4, c5, c6, c7, c8, c9, c10⟩ := cells11 HIt3.out
        have f3 := frozen_of_row _ _ 3 _ _ HIt3.out
        go_wp2
        exact bodyPost_ret (results_cell_row Tryz.results20 _ _ w.heap.size 26 _ (0, 0) _ rfl (set_eleven (set_far hne HRt3.out)) Tryz.underlying26 rfl (by kernel_rfl)) rfl ⟨_, _, _, _, _, _, _, _, _, _, _, rfl, (DrI.set11 (HDt3.out.set hB 3 _) (Nat.le_refl _)).d, (DrI.set11 (HDt3.out.set hB 3 _) (Nat.le_refl _)).gr⟩
      · go_wp2_with fail
        refine (n_any g a len cap 3 _ (HDt2.out.alloc _).d (by omega) (by omega)).mono ?_
        rintro e t3 ⟨u3, rfl, hv0, hv1, hD, hG⟩
        have HIt3 : Hid (_ = _) := heap_grown (heap_more HIt2.out _) hG (by omega)
        have HRt3 : Hid (_ = _) := heap_grown (heap_more HRt2.out _) hG (by omega)
        have HDt3 : Hid (DrI w t3 g a len cap) := (HDt2.out.alloc _).call hD hG
        obtain ⟨V, rfl⟩ := Int.eq_ofNat_of_zero_le hv0
        have hV : V < 3 := by omega
        obtain ⟨y, hy, hyc⟩ := tab_cell (t := 2) [-1, 65536, 1] V hV t3 hG (by have := heap_lt HIt2.out; omega)
        have hi0 : (0 : Int) ≤ (V : Int) := by omega
        have hi1 : (V : Int) < 3 := by omega
        clear hv0 hv1 hD hG hy
        obtain ⟨r0, r1, r2, r3, r4, r5, r6, r7, r8, r9, r10⟩ := cells11 HRt3.out
        have y0 := frozen_of_row _ _ 0 _ _ HRt3.out
        have y1 := frozen_of_row _ _ 1 _ _ HRt3.out
        have y2 := frozen_of_row _ _ 2 _ _ HRt3.out
        have y3 := frozen_of_row _ _ 3 _ _ HRt3.out
        have y4 := frozen_of_row _ _ 4 _ _ HRt3.out
        have y5 := frozen_of_row _ _ 5 _ _ HRt3.out
        have y6 := frozen_of_row _ _ 6 _ _ HRt3.out
        have y7 := frozen_of_row _ _ 7 _ _ HRt3.out
        have y8 := frozen_of_row _ _ 8 _ _ HRt3.out
        have y9 := frozen_of_row _ _ 9 _ _ HRt3.out
        have y10 := frozen_of_row _ _ 10 _ _ HRt3.out
        obtain ⟨c0, c1, c2, c3, c4, c5, c6, c7, c8, c9, c10⟩ := cells11 HIt3.out
        have f8 := frozen_of_row _ _ 8 _ _ HIt3.out
        go_wp2
        exact bodyPost_ret (results_cell_row Tryz.results20 _ _ w.heap.size 26 _ (0, 0) _ rfl (set_eleven (set_far hne HRt3.out)) Tryz.underlying26 rfl (by kernel_rfl)) rfl ⟨_, _, _, _, _, _, _, _, _, _, _, rfl, (DrI.set11 (HDt3.out.set hB 8 _) (Nat.le_refl _)).d, (DrI.set11 (HDt3.out.set hB 8 _) (Nat.le_refl _)).gr⟩
      · obtain ⟨r0, r1, r2, r3, r4, r5, r6, r7, r8, r9, r10⟩ := cells11 HRt2.out
        have y0 := frozen_of_row _ _ 0 _ _ HRt2.out
        have y1 := frozen_of_row _ _ 1 _ _ HRt2.out
        have y2 := frozen_of_row _ _ 2 _ _ HRt2.out
        have y3 := frozen_of_row _ _ 3 _ _ HRt2.out
        have y4 := frozen_of_row _ _ 4 _ _ HRt2.out
        have y5 := frozen_of_row _ _ 5 _ _ HRt2.out
        have y6 := frozen_of_row _ _ 6 _ _ HRt2.out
        have y7 := frozen_of_row _ _ 7 _ _ HRt2.out
        have y8 := frozen_of_row _ _ 8 _ _ HRt2.out
        have y9 := frozen_of_row _ _ 9 _ _ HRt2.out
        have y10 := frozen_of_row _ _ 10 _ _ HRt2.out
        obtain ⟨c0, c1, c2, c3, c4, c5, c6, c7, c8, c9, c10⟩ := cells11 HIt2.out
        have f0 := frozen_of_row _ _ 0 _ _ HIt2.out
        go_wp2
        exact bodyPost_ret (results_cell_row Tryz.results20 _ _ w.heap.size 26 _ (0, 0) _ rfl (set_eleven (set_far hne HRt2.out)) Tryz.underlying26 rfl (by kernel_rfl)) rfl ⟨_, _, _, _, _, _, _, _, _, _, _, rfl, (DrI.set11 (HDt2.out.set hB 0 _) (Nat.le_refl _)).d, (DrI.set11 (HDt2.out.set hB 0 _) (Nat.le_refl _)).gr⟩
      · obtain ⟨r0, r1, r2, r3, r4, r5, r6, r7, r8, r9, r10⟩ := cells11 HRt2.out
        have y0 := frozen_of_row _ _ 0 _ _ HRt2.out
        have y1 := frozen_of_row _ _ 1 _ _ HRt2.out
        have y2 := frozen_of_row _ _ 2 _ _ HRt2.out
        have y3 := frozen_of_row _ _ 3 _ _ HRt2.out
        have y4 := frozen_of_row _ _ 4 _ _ HRt2.out
        have y5 := frozen_of_row _ _ 5 _ _ HRt2.out
        have y6 := frozen_of_row _ _ 6 _ _ HRt2.out
        have y7 := frozen_of_row _ _ 7 _ _ HRt2.out
        have y8 := frozen_of_row _ _ 8 _ _ HRt2.out
        have y9 := frozen_of_row _ _ 9 _ _ HRt2.out
        have y10 := frozen_of_row _ _ 10 _ _ HRt2.out
        obtain ⟨c0, c1, c2, c3, c4, c5, c6, c7, c8, c9, c10⟩ := cells11 HIt2.out
        have f5 := frozen_of_row _ _ 5 _ _ HIt2.out
        go_wp2
        exact bodyPost_ret (results_cell_row Tryz.results20 _ _ w.heap.size 26 _ (0, 0) _ rfl (set_eleven (set_far hne HRt2.out)) Tryz.underlying26 rfl (by kernel_rfl)) rfl ⟨_, _, _, _, _, _, _, _, _, _, _, rfl, (DrI.set11 (HDt2.out.set hB 5 _) (Nat.le_refl _)).d, (DrI.set11 (HDt2.out.set hB 5 _) (Nat.le_refl _)).gr⟩
  have k4 : k = 18 := by omega
  subst k4
  clear k1 k2 k3
  go_wp2_with fail
  refine (one_any g a len cap 20 _ HDa.out.d (by omega) (by omega)).mono ?_
  rintro e t1 ⟨bb, rfl, hD, hG⟩
  have HIt1 : Hid (_ = _) := heap_grown HIa.out hG (by omega)
  have HRt1 : Hid (_ = _) := heap_grown HRa.out hG (by omega)
  have HDt1 : Hid (DrI w t1 g a len cap) := HDa.out.call hD hG
  clear hD hG
  cases bb
  · obtain ⟨r0, r1, r2, r3, r4, r5, r6, r7, r8, r9, r10⟩ := cells11 HRt1.out
    have y0 := frozen_of_row _ _ 0 _ _ HRt1.out
    have y1 := frozen_of_row _ _ 1 _ _ HRt1.out
    have y2 := frozen_of_row _ _ 2 _ _ HRt1.out
    have y3 := frozen_of_row _ _ 3 _ _ HRt1.out
    have y4 := frozen_of_row _ _ 4 _ _ HRt1.out
    have y5 := frozen_of_row _ _ 5 _ _ HRt1.out
    have y6 := frozen_of_row _ _ 6 _ _ HRt1.out
    have y7 := frozen_of_row _ _ 7 _ _ HRt1.out
    have y8 := frozen_of_row _ _ 8 _ _ HRt1.out
    have y9 := frozen_of_row _ _ 9 _ _ HRt1.out
    have y10 := frozen_of_row _ _ 10 _ _ HRt1.out
    obtain ⟨c0, c1, c2, c3, c4, c5, c6, c7, c8, c9, c10⟩ := cells11 HIt1.out
    go_wp2
    exact bodyPost_ret (results_cell_row Tryz.results20 _ _ w.heap.size 26 _ (0, 0) _ rfl (set_eleven HRt1.out) Tryz.underlying26 rfl (by kernel_rfl)) rfl ⟨_, _, _, _, _, _, _, _, _, _, _, rfl, (DrI.set11 HDt1.out (Nat.le_refl _)).d, (DrI.set11 HDt1.out (Nat.le_refl _)).gr⟩
  · go_wp2_with fail
    refine (n_any g a len cap 6 _ HDt1.out.d (by omega) (by omega)).mono ?_
    rintro e t2 ⟨v6, rfl, hv0, hv1, hD, hG⟩
    have HIt2 : Hid (_ = _) := heap_grown HIt1.out hG (by omega)
    have HRt2 : Hid (_ = _) := heap_grown HRt1.out hG (by omega)
    have HDt2 : Hid (DrI w t2 g a len cap) := HDt1.out.call hD hG
    have hv : v6 = 0 ∨ v6 = 1 ∨ v6 = 2 ∨ v6 = 3 ∨ v6 = 4 ∨ v6 = 5 := by omega
    clear hv0 hv1 hD hG
    rcases hv with rfl | rfl | rfl | rfl | rfl | rfl
    · go_wp2_with fail
      refine (n_any g a len cap 3 _ (HDt2.out.alloc _).d (by omega) (by omega)).mono ?_
      rintro e t3 ⟨u3, rfl, hv0, hv1, hD, hG⟩
      have HIt3 : Hid (_ = _) := heap_grown (heap_more HIt2.out _) hG (by omega)
      have HRt3 : Hid (_ = _) := heap_grown (heap_more HRt2.out _) hG (by omega)
      have HDt3 : Hid (DrI w t3 g a len cap) := (HDt2.out.alloc _).call hD hG
      obtain ⟨V, rfl⟩ := Int.eq_ofNat_of_zero_le hv0
      have hV : V < 3 := by omega
      obtain ⟨y, hy, hyc⟩ := tab_cell (t := 2) [-513, 512, 1] V hV t3 hG (by have := heap_lt HIt2.out; omega)
      have hi0 : (0 : Int) ≤ (V : Int) := by omega
      have hi1 : (V : Int) < 3 := by omega
      clear hv0 hv1 hD hG hy
      obtain ⟨r0, r1, r2, r3, r4, r5, r6, r7, r8, r9, r10⟩ := cells11 HRt3.out
      have y0 := frozen_of_row _ _ 0 _ _ HRt3.out
      have y1 := frozen_of_row _ _ 1 _ _ HRt3.out
      have y2 := frozen_of_row _ _ 2 _ _ HRt3.out
      have y3 := frozen_of_row _ _ 3 _ _ HRt3.out
      have y4 := frozen_of_row _ _ 4 _ _ HRt3.out
      have y5 := frozen_of_row _ _ 5 _ _ HRt3.out
      have y6 := frozen_of_row _ _ 6 _ _ HRt3.out
      have y7 := frozen_of_row _ _ 7 _ _ HRt3.out
      have y8 := frozen_of_row _ _ 8 _ _ HRt3.out
      have y9 := frozen_of_row _ _ 9 _ _ HRt3.out
      have y10 := frozen_of_row _ _ 10 _ _ HRt3.out
      obtain ⟨c0, c1, c2, c3, c4, c5, c6, c7, c8, c9, c10⟩ := cells11 HIt3.out
      have f10 := frozen_of_row _ _ 10 _ _ HIt3.out
      go_wp2
      exact bodyPost_ret (results_cell_row Tryz.results20 _ _ w.heap.size 26 _ (0, 0) _ rfl (set_eleven (set_far hne HRt3.out)) Tryz.underlying26 rfl (by kernel_rfl)) rfl ⟨_, _, _, _, _, _, _, _, _, _, _, rfl, (DrI.set11 (HDt3.out.set hB 10 _) (Nat.le_refl _)).d, (DrI.set11 (HDt3.out.set hB 10 _) (Nat.le_refl _)).gr⟩
    · obtain ⟨r0, r1, r2, r3, r4, r5, r6, r7, r8, r9, r10⟩ := cells11 HRt2.out
      have y0 := frozen_of_row _ _ 0 _ _ HRt2.out
      have y1 := frozen_of_row _ _ 1 _ _ HRt2.out
      have y2 := frozen_of_row _ _ 2 _ _ HRt2.out
      have y3 := frozen_of_row _ _ 3 _ _ HRt2.out
      have y4 := frozen_of_row _ _ 4 _ _ HRt2.out
      have y5 := frozen_of_row _ _ 5 _ _ HRt2.out
      have y6 := frozen_of_row _ _ 6 _ _ HRt2.out
      have y7 := frozen_of_row _ _ 7 _ _ HRt2.out
      have y8 := frozen_of_row _ _ 8 _ _ HRt2.out
      have y9 := frozen_of_row _ _ 9 _ _ HRt2.out
      have y10 := frozen_of_row _ _ 10 _ _ HRt2.out
      obtain ⟨c0, c1, c2, c3, c4, c5, c6, c7, c8, c9, c10⟩ := cells11 HIt2.out
      have f1 := frozen_of_row _ _ 1 _ _ HIt2.out
      go_wp2
      exact bodyPost_ret (results_cell_row Tryz.results20 _ _ w.heap.size 26 _ (0, 0) _ rfl (set_eleven (set_far hne HRt2.out)) Tryz.underlying26 rfl (by kernel_rfl)) rfl ⟨_, _, _, _, _, _, _, _, _, _, _, rfl, (DrI.set11 (HDt2.out.set hB 1 _) (Nat.le_refl _)).d, (DrI.set11 (HDt2.out.set hB 1 _) (Nat.le_refl _)).gr⟩
    · go_wp2_with fail
      refine (n_any g a len cap 4 _ (HDt2.out.alloc _).d (by omega) (by omega)).mono ?_
      rintro e t3 ⟨u3, rfl, hv0, hv1, hD, hG⟩
      have HIt3 : Hid (_ = _) := heap_grown (heap_more HIt2.out _) hG (by omega)
      have HRt3 : Hid (_ = _) := heap_grown (heap_more HRt2.out _) hG (by omega)
      have HDt3 : Hid (DrI w t3 g a len cap) := (HDt2.out.alloc _).call hD hG
      obtain ⟨V, rfl⟩ := Int.eq_ofNat_of_zero_le hv0
      have hV : V < 4 := by omega
      obtain ⟨y, hy, hyc⟩ := tab_cell (t := 2) [2, 3, 16, -1] V hV t3 hG (by have := heap_lt HIt2.out; omega)
      have hi0 : (0 : Int) ≤ (V : Int) := by omega
      have hi1 : (V : Int) < 4 := by omega
      clear hv0 hv1 hD hG hy
      obtain ⟨r0, r1, r2, r3, r4, r5, r6, r7, r8, r9, r10⟩ := cells11 HRt3.out
      have y0 := frozen_of_row _ _ 0 _ _ HRt3.out
      have y1 := frozen_of_row _ _ 1 _ _ HRt3.out
      have y2 := frozen_of_row _ _ 2 _ _ HRt3.out
      have y3 := frozen_of_row _ _ 3 _ _ HRt3.out
      have y4 := frozen_of_row _ _ 4 _ _ HRt3.out
      have y5 := frozen_of_row _ _ 5 _ _ HRt3.out
      have y6 := frozen_of_row _ _ 6 _ _ HRt3.out
      have y7 := frozen_of_row _ _ 7 _ _ HRt3.out
      have y8 := frozen_of_row _ _ 8 _ _ HRt3.out
      have y9 := frozen_of_row _ _ 9 _ _ HRt3.out
      have y10 := frozen_of_row _ _ 10 _ _ HRt3.out
      obtain ⟨c0, c1, c2, c3, c4, c5, c6, c7, c8, c9, c10⟩ := cells11 HIt3.out
      have f3 := frozen_of_row _ _ 3 _ _ HIt3.out
      go_wp2
      exact bodyPost_ret (results_cell_row Tryz.results20 _ _ w.heap.size 26 _ (0, 0) _ rfl (set_eleven (set_far hne HRt3.out)) Tryz.underlying26 rfl (by kernel_rfl)) rfl ⟨_, _, _, _, _, _, _, _, _, _, _, rfl, (DrI.set11 (HDt3.out.set hB 3 _) (Nat.le_refl _)).d, (DrI.set11 (HDt3.out.set hB 3 _) (Nat.le_refl _)).gr⟩
    · go_wp2_with fail
      refine (n_any g a len cap 3 _ (HDt2.out.alloc _).d (by omega) (by omega)).mono ?_
      rintro e t3 ⟨u3, rfl, hv0, hv1, hD, hG⟩
      have HIt3 : Hid (_ = _) := heap_grown (heap_more HIt2.out _) hG (by omega)
      have HRt3 : Hid (_ = _) := heap_grown (heap_more HRt2.out _) hG (by omega)
      have HDt3 : Hid (DrI w t3 g a len cap) := (HDt2.out.alloc _).call hD hG
      obtain ⟨V, rfl⟩ := Int.eq_ofNat_of_zero_le hv0
      have hV : V < 3 := by omega
      obtain ⟨y, hy, hyc⟩ := tab_cell (t := 2) [-1, 65536, 1] V hV t3 hG (by have := heap_lt HIt2.out; omega)
      have hi0 : (0 : Int) ≤ (V : Int) := by omega
      have hi1 : (V : Int) < 3 := by omega
      clear hv0 hv1 hD hG hy
      obtain ⟨r0, r1, r2, r3, r4, r5, r6, r7, r8, r9, r10⟩ := cells11 HRt3.out
      have y0 := frozen_of_row _ _ 0 _ _ HRt3.out
      have y1 := frozen_of_row _ _ 1 _ _ HRt3.out
      have y2 := frozen_of_row _ _ 2 _ _ HRt3.out
      have y3 := frozen_of_row _ _ 3 _ _ HRt3.out
      have y4 := frozen_of_row _ _ 4 _ _ HRt3.out
      have y5 := frozen_of_row _ _ 5 _ _ HRt3.out
      have y6 := frozen_of_row _ _ 6 _ _ HRt3.out
      have y7 := frozen_of_row _ _ 7 _ _ HRt3.out
      have y8 := frozen_of_row _ _ 8 _ _ HRt3.out
      have y9 := frozen_of_row _ _ 9 _ _ HRt3.out
      have y10 := frozen_of_row _ _ 10 _ _ HRt3.out
      obtain ⟨c0, c1, c2, c3, c4, c5, c6, c7, c8, c9, c10⟩ := cells11 HIt3.out
      have f8 := frozen_of_row _ _ 8 _ _ HIt3.out
      go_wp2
      exact bodyPost_ret (results_cell_row Tryz.results20 _ _ w.heap.size 26 _ (0, 0) _ rfl (set_eleven (set_far hne HRt3.out)) Tryz.underlying26 rfl (by kernel_rfl)) rfl ⟨_, _, _, _, _, _, _, _, _, _, _, rfl, (DrI.set11 (HDt3.out.set hB 8 _) (Nat.le_refl _)).d, (DrI.set11 (HDt3.out.set hB 8 _) (Nat.le_refl _)).gr⟩
    · obtain ⟨r0, r1, r2, r3, r4, r5, r6, r7, r8, r9, r10⟩ := cells11 HRt2.out
      have y0 := frozen_of_row _ _ 0 _ _ HRt2.out
      have y1 := frozen_of_row _ _ 1 _ _ HRt2.out
      have y2 := frozen_of_row _ _ 2 _ _ HRt2.out
      have y3 := frozen_of_row _ _ 3 _ _ HRt2.out
      have y4 := frozen_of_row _ _ 4 _ _ HRt2.out
      have y5 := frozen_of_row _ _ 5 _ _ HRt2.out
      have y6 := frozen_of_row _ _ 6 _ _ HRt2.out
      have y7 := frozen_of_row _ _ 7 _ _ HRt2.out
      have y8 := frozen_of_row _ _ 8 _ _ HRt2.out
      have y9 := frozen_of_row _ _ 9 _ _ HRt2.out
      have y10 := frozen_of_row _ _ 10 _ _ HRt2.out
      obtain ⟨c0, c1, c2, c3, c4, c5, c6, c7, c8, c9, c10⟩ := cells11 HIt2.out
      have f0 := frozen_of_row _ _ 0 _ _ HIt2.out
      go_wp2
      exact bodyPost_ret (results_cell_row Tryz.results20 _ _ w.heap.size 26 _ (0, 0) _ rfl (set_eleven (set_far hne HRt2.out)) Tryz.underlying26 rfl (by kernel_rfl)) rfl ⟨_, _, _, _, _, _, _, _, _, _, _, rfl, (DrI.set11 (HDt2.out.set hB 0 _) (Nat.le_refl _)).d, (DrI.set11 (HDt2.out.set hB 0 _) (Nat.le_refl _)).gr⟩
    · obtain ⟨r0, r1, r2, r3, r4, r5, r6, r7, r8, r9, r10⟩ := cells11 HRt2.out
      have y0 := frozen_of_row _ _ 0 _ _ HRt2.out
      have y1 := frozen_of_row _ _ 1 _ _ HRt2.out
      have y2 := frozen_of_row _ _ 2 _ _ HRt2.out
      have y3 := frozen_of_row _ _ 3 _ _ HRt2.out
      have y4 := frozen_of_row _ _ 4 _ _ HRt2.out
      have y5 := frozen_of_row _ _ 5 _ _ HRt2.out
      have y6 := frozen_of_row _ _ 6 _ _ HRt2.out
      have y7 := frozen_of_row _ _ 7 _ _ HRt2.out
      have y8 := frozen_of_row _ _ 8 _ _ HRt2.out
      have y9 := frozen_of_row _ _ 9 _ _ HRt2.out
      have y10 := frozen_of_row _ _ 10 _ _ HRt2.out
      obtain ⟨c0, c1, c2, c3, c4, c5, c6, c7, c8, c9, c10⟩ := cells11 HIt2.out
      have f5 := frozen_of_row _ _ 5 _ _ HIt2.out
      go_wp2
      exact bodyPost_ret (results_cell_row Tryz.results20 _ _ w.heap.size 26 _ (0, 0) _ rfl (set_eleven (set_far hne HRt2.out)) Tryz.underlying26 rfl (by kernel_rfl)) rfl ⟨_, _, _, _, _, _, _, _, _, _, _, rfl, (DrI.set11 (HDt2.out.set hB 5 _) (Nat.le_refl _)).d, (DrI.set11 (HDt2.out.set hB 5 _) (Nat.le_refl _)).gr⟩
end Go.Proofs.YtodjccipfonaiaaGreatDoor
