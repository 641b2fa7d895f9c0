/- A reader takes what is written as an operand: its parts. -/
import Derived.Test.YtodjccipfonaiaaGreatDoorRows
import Derived.WalkKit
import Derived.WalkSpells
import Derived.WalkLawsBesides
import Derived.Outline
import Derived.RegionTactic
import Derived.BigRegion
import Derived.Deep.QuietTactic
import Derived.BigQuiet
import Derived.Deep.RegionHeld3
import Derived.Test.YtodjccipfonaiaaGreatDoorBun0
import Derived.Test.YtodjccipfonaiaaGreatDoorBun3
import Derived.Test.YtodjccipfonaiaaGreatDoorBun34
namespace Go.Proofs.YtodjccipfonaiaaGreatDoor
open Go.RowKit
set_option linter.unusedVariables false

theorem cells6 {W : World} {B : Nat} {v0 v1 v2 v3 v4 v5 : Value} {t : TypeId} {fr : Nat × Nat} (h : W.heap[B]? = some (.cells #[v0, v1, v2, v3, v4, v5] t fr)) :
    W.cell? ⟨B, 0, none⟩ = some v0 ∧ W.cell? ⟨B, 1, none⟩ = some v1 ∧ W.cell? ⟨B, 2, none⟩ = some v2 ∧ W.cell? ⟨B, 3, none⟩ = some v3 ∧ W.cell? ⟨B, 4, none⟩ = some v4 ∧ W.cell? ⟨B, 5, none⟩ = some v5 := by
  refine ⟨?_, ?_, ?_, ?_, ?_, ?_⟩ <;> simp [World.cell?, h]
theorem frz6 {W : World} {B : Nat} {v0 v1 v2 v3 v4 v5 : Value} {t : TypeId} (h : W.heap[B]? = some (.cells #[v0, v1, v2, v3, v4, v5] t (0, 0))) :
    W.frozen? ⟨B, 0, none⟩ = false ∧ W.frozen? ⟨B, 1, none⟩ = false ∧ W.frozen? ⟨B, 2, none⟩ = false ∧ W.frozen? ⟨B, 3, none⟩ = false ∧ W.frozen? ⟨B, 4, none⟩ = false ∧ W.frozen? ⟨B, 5, none⟩ = false := by
  refine ⟨?_, ?_, ?_, ?_, ?_, ?_⟩ <;> simp [World.frozen?, h]
theorem set_six {W : World} {g : Nat} {z0 z1 z2 z3 z4 z5 : Value} {t : TypeId} (a b c d e f : Value) (h : W.heap[g]? = some (.cells #[z0, z1, z2, z3, z4, z5] t (0, 0))) :
    ((((((W.setCell ⟨g, 0, none⟩ a).setCell ⟨g, 1, none⟩ b).setCell ⟨g, 2, none⟩ c).setCell ⟨g, 3, none⟩ d).setCell ⟨g, 4, none⟩ e).setCell ⟨g, 5, none⟩ f).heap[g]? = some (.cells #[a, b, c, d, e, f] t (0, 0)) :=
  heap_set (heap_set (heap_set (heap_set (heap_set (heap_set h 0 a) 1 b) 2 c) 3 d) 4 e) 5 f
def six (W : World) (g : Nat) (a b c d e f : Value) : World := (((((W.setCell ⟨g, 0, none⟩ a).setCell ⟨g, 1, none⟩ b).setCell ⟨g, 2, none⟩ c).setCell ⟨g, 3, none⟩ d).setCell ⟨g, 4, none⟩ e).setCell ⟨g, 5, none⟩ f
theorem But.six {b : Nat} {x y : World} (h : But b x y) {g : Nat} (hg : x.heap.size ≤ g) (a b' c d e f : Value) : But b x ((((((y.setCell ⟨g, 0, none⟩ a).setCell ⟨g, 1, none⟩ b').setCell ⟨g, 2, none⟩ c).setCell ⟨g, 3, none⟩ d).setCell ⟨g, 4, none⟩ e).setCell ⟨g, 5, none⟩ f) :=
  (((((h.setN (p := ⟨g, 0, none⟩) hg _).setN (p := ⟨g, 1, none⟩) hg _).setN (p := ⟨g, 2, none⟩) hg _).setN (p := ⟨g, 3, none⟩) hg _).setN (p := ⟨g, 4, none⟩) hg _).setN (p := ⟨g, 5, none⟩) hg _
theorem Rd.six {w : World} {b g : Nat} {a : Option Addr} {cap : Nat} {L : List ByteArray} (h : Rd w b g a cap L) {o : Nat} (ho : o ≠ b) (hg : g ≠ o) (a0 b0 c d e f : Value) : Rd ((((((w.setCell ⟨o, 0, none⟩ a0).setCell ⟨o, 1, none⟩ b0).setCell ⟨o, 2, none⟩ c).setCell ⟨o, 3, none⟩ d).setCell ⟨o, 4, none⟩ e).setCell ⟨o, 5, none⟩ f) b g a cap L :=
  Rd.setN (p := ⟨o, 5, none⟩) ho hg (Rd.setN (p := ⟨o, 4, none⟩) ho hg (Rd.setN (p := ⟨o, 3, none⟩) ho hg (Rd.setN (p := ⟨o, 2, none⟩) ho hg (Rd.setN (p := ⟨o, 1, none⟩) ho hg (Rd.setN (p := ⟨o, 0, none⟩) ho hg h)))))
def withW (m n : Int) (l : Bool) (nm : ByteArray) (k : Int) : Int × Bool := if nm = ⟨#[]⟩ then (k, l) else (n, (m == 5))
def WithOut (m r n : Int) (l : Bool) (nm : ByteArray) (k : Int) (w : World) (e : Ending) (w' : World) : Prop := ∃ n' l', e = .returned (.agg #[.int .i64 m, .int .i64 r, .int .i64 n', .bool l', .string nm, .int .i64 k]) ∧ withW m n l nm k = (n', l') ∧ Below w.heap.size w w'
set_option maxRecDepth 100000 in
set_option maxHeartbeats 1600000 in
theorem withN_any (m r n : Int) (l : Bool) (nm : ByteArray) (k : Int) (w : World) : Calls Tryz.prog 123 #[.agg #[.int .i64 m, .int .i64 r, .int .i64 n, .bool l], .agg #[.string nm, .int .i64 k]] w (WithOut m r n l nm k w) := by
  by_cases hnm : nm = ⟨#[]⟩
  · have HW : Hid (withW m n l nm k = (k, l)) := by show _ = _; unfold withW; rw [if_pos hnm]
    have h1 : (nm.toList == []) = true := by rw [hnm, ByteArray.toList_eq]; rfl
    clear hnm
    go_enter Tryz.func123, Tryz.ntmps123
    go_wp2
    exact bodyPost_ret (results_cell_row Tryz.results123 _ _ (w.heap.size + 1 + 1) 130 _ (0, 0) _ rfl (alloc_at (by simp) _) Tryz.underlying130 rfl (by kernel_rfl)) rfl ⟨k, l, rfl, HW.out, below_more (below_more (below_new _ _) _) _⟩
  · have HW : Hid (withW m n l nm k = (n, (m == 5))) := by show _ = _; unfold withW; rw [if_neg hnm]
    have h1 := text_no [] hnm
    clear hnm
    go_enter Tryz.func123, Tryz.ntmps123
    go_wp2
    exact bodyPost_ret (results_cell_row Tryz.results123 _ _ (w.heap.size + 1 + 1) 130 _ (0, 0) _ rfl (alloc_at (by simp) _) Tryz.underlying130 rfl (by kernel_rfl)) rfl ⟨n, (m == 5), rfl, HW.out, below_more (below_more (below_new _ _) _) _⟩
abbrev OpdW := (Int × Int × Int × Bool) × ByteArray × Int
def withO (m r n : Int) (l : Bool) (x : ByteArray × Int) : OpdW := ((m, r, (withW m n l x.1 x.2).1, (withW m n l x.1 x.2).2), x)
theorem withO_eq {m r n : Int} {l : Bool} {nm : ByteArray} {k n' : Int} {l' : Bool} (h : withW m n l nm k = (n', l')) : withO m r n l (nm, k) = ((m, r, n', l'), nm, k) := by unfold withO; rw [h]
def OpOut (F : List ByteArray → Option (OpdW × List ByteArray)) (b g : Nat) (w : World) (L : List ByteArray) (e : Ending) (w' : World) : Prop := ∃ m r n l nm k ok a' cap' L', e = .returned (.tuple #[.agg #[.int .i64 m, .int .i64 r, .int .i64 n, .bool l, .string nm, .int .i64 k], .bool ok]) ∧ F L = (if ok then some (((m, r, n, l), nm, k), L') else none) ∧ Rd w' b g a' cap' L' ∧ But b w w'
theorem opOut_mk {F : List ByteArray → Option (OpdW × List ByteArray)} {b g : Nat} {w w' : World} {L : List ByteArray} (m r n : Int) (l : Bool) (nm : ByteArray) (k : Int) (ok : Bool) (a' : Option Addr) (cap' : Nat) (L' : List ByteArray) (h : F L = (if ok then some (((m, r, n, l), nm, k), L') else none)) (hR : Rd w' b g a' cap' L') (hB : But b w w') :
    OpOut F b g w L (.returned (.tuple #[.agg #[.int .i64 m, .int .i64 r, .int .i64 n, .bool l, .string nm, .int .i64 k], .bool ok])) w' := ⟨m, r, n, l, nm, k, ok, a', cap', L', rfl, h, hR, hB⟩
def mapO {α β : Type} (o : Option (α × List ByteArray)) (f : α → β) : Option (β × List ByteArray) := match o with | some (x, L) => some (f x, L) | none => none
def immT (L : List ByteArray) : Option (OpdW × List ByteArray) := if (takeT ⟨#[35]⟩ L).1 = true then mapO (numT 65535 (takeT ⟨#[35]⟩ L).2) (fun n => withO 5 0 0 true (⟨#[]⟩, n)) else mapO (wordT (takeT ⟨#[35]⟩ L).2) (fun x => withO 5 0 0 false x)
set_option maxRecDepth 100000 in
set_option maxHeartbeats 3200000 in
theorem immediate_any (b g cap : Nat) (a : Option Addr) (L : List ByteArray) (w : World) (hR : Rd w b g a cap L) : Calls Tryz.prog 124 #[.pointer (some ⟨b, 0, none⟩)] w (OpOut immT b g w L) := by
  have HR : Hid (Rd w b g a cap L) := hR
  have hbw := heap_lt hR.row
  have hgw : g ≠ w.heap.size := by have := hR.at'; omega
  clear hR
  go_enter Tryz.func124, Tryz.ntmps124
  go_wp2_with fail
  refine (mark_any ⟨#[35]⟩ b g cap a L _ (HR.out.alloc _)).mono ?_
  rintro e x1 ⟨a1, cap1, rfl, hR1, hB1⟩
  have HV1 : Hid (x1.heap[w.heap.size]? = _) := But.keep (heap_alloc_new w _) hB1 (by omega)
  have HB1 : Hid (But b w x1) := (But.of (below_new w _)).trans hB1
  have HR1 : Hid (_) := hR1
  clear hR1 hB1
  have hs1 := heap_lt HV1.out
  have HI : Hid (immT L = if (takeT ⟨#[35]⟩ L).1 = true then mapO (numT 65535 (takeT ⟨#[35]⟩ L).2) (fun n => withO 5 0 0 true (⟨#[]⟩, n)) else mapO (wordT (takeT ⟨#[35]⟩ L).2) (fun x => withO 5 0 0 false x)) := rfl
  generalize (takeT ⟨#[35]⟩ L).1 = t1 at *
  generalize (takeT ⟨#[35]⟩ L).2 = L1 at *
  cases t1
  · go_wp2_with fail
    refine (word_any b g cap1 a1 L1 x1 HR1.out).mono ?_
    rintro e x2 ⟨nm, k, ok, a2, cap2, L2, rfl, hN, hR2, hB2⟩
    have HV2 : Hid (x2.heap[w.heap.size]? = _) := But.keep HV1.out hB2 (by omega)
    have HB2 : Hid (But b w x2) := HB1.out.trans hB2
    have HR2 : Hid (_) := hR2
    have HN : Hid (_ = _) := hN
    clear hN hR2 hB2 HV1 HB1 HR1
    have hs2 := heap_lt HV2.out
    have HU : Hid (_ = _) := heap_alloc_new x2 (.cells #[.string nm, .int .i64 k] 30)
    go_wp2_with fail
    refine (withN_any 5 0 0 false nm k _).mono ?_
    rintro e x3 ⟨n', l', rfl, hW, hb⟩
    have HV3 : Hid (x3.heap[w.heap.size]? = _) := heap_keep (heap_more HV2.out _) hb
    have HB3 : Hid (But b w x3) := (HB2.out.alloc _).call hb
    have HR3 : Hid (_) := (HR2.out.alloc _).call hb
    have HW : Hid (_ = _) := hW
    clear hW hb HV2 HB2 HR2 HU
    obtain ⟨c0, c1, c2, c3, c4, c5⟩ := cells6 HV3.out
    obtain ⟨z0, z1, z2, z3, z4, z5⟩ := frz6 HV3.out
    have hs3 := heap_lt HV3.out
    go_wp2
    exact bodyPost_ret (results_row1 Tryz.results124 _ _ w.heap.size 130 _ (0, 0) _ rfl (set_six _ _ _ _ _ _ HV3.out) Tryz.underlying130 rfl (by kernel_rfl)) rfl (opOut_mk 5 0 n' l' nm k ok _ _ L2 (by rw [HI.out, if_neg (by decide), HN.out]; cases ok; rfl; exact congrArg (fun y => some (y, L2)) (withO_eq HW.out)) (HR3.out.six (by omega) hgw _ _ _ _ _ _) (HB3.out.six (Nat.le_refl _) _ _ _ _ _ _))
  · go_wp2_with fail
    refine (number_any 65535 b g cap1 a1 L1 x1 HR1.out).mono ?_
    rintro e x2 ⟨n, ok, a2, cap2, L2, rfl, hN, hL2, hn0, hn1, hR2, hB2⟩
    have HV2 : Hid (x2.heap[w.heap.size]? = _) := But.keep HV1.out hB2 (by omega)
    have HB2 : Hid (But b w x2) := HB1.out.trans hB2
    have HR2 : Hid (_) := hR2
    have HN : Hid (_ = _) := hN
    clear hN hR2 hB2 HV1 HB1 HR1 hL2
    have hs2 := heap_lt HV2.out
    go_wp2_with fail
    refine (withN_any 5 0 0 true ⟨#[]⟩ n _).mono ?_
    rintro e x3 ⟨n', l', rfl, hW, hb⟩
    have HV3 : Hid (x3.heap[w.heap.size]? = _) := heap_keep HV2.out hb
    have HB3 : Hid (But b w x3) := HB2.out.call hb
    have HR3 : Hid (_) := HR2.out.call hb
    have HW : Hid (_ = _) := hW
    clear hW hb HV2 HB2 HR2
    obtain ⟨c0, c1, c2, c3, c4, c5⟩ := cells6 HV3.out
    obtain ⟨z0, z1, z2, z3, z4, z5⟩ := frz6 HV3.out
    have hs3 := heap_lt HV3.out
    go_wp2
    exact bodyPost_ret (results_row1 Tryz.results124 _ _ w.heap.size 130 _ (0, 0) _ rfl (set_six _ _ _ _ _ _ HV3.out) Tryz.underlying130 rfl (by kernel_rfl)) rfl (opOut_mk 5 0 n' l' ⟨#[]⟩ n ok _ _ L2 (by rw [HI.out, if_pos trivial, HN.out]; cases ok; rfl; exact congrArg (fun y => some (y, L2)) (withO_eq HW.out)) (HR3.out.six (by omega) hgw _ _ _ _ _ _) (HB3.out.six (Nat.le_refl _) _ _ _ _ _ _))
end Go.Proofs.YtodjccipfonaiaaGreatDoor
namespace Go.Proofs.YtodjccipfonaiaaGreatDoor
open Go.RowKit
set_option linter.unusedVariables false

/- The blocks that were there before the reader are as they were. -/
structure Far (w0 w : World) (b : Nat) : Prop where
  below : Below w0.heap.size w0 w
  at' : w0.heap.size ≤ b
theorem Far.but {w0 w x : World} {b : Nat} (h : Far w0 w b) (hb : But b w x) : Far w0 x b := ⟨But.below h.below hb h.at' h.below.size, h.at'⟩
theorem Far.pow {w0 w : World} {b : Nat} (h : Far w0 w b) (hP : Pow w0) : Pow w := hP.below h.below
def idxT (L : List ByteArray) : Option (OpdW × List ByteArray) := match wordT L with
  | none => none
  | some (x, L1) => if (takeT ⟨#[40]⟩ L1).1 = true then (match regT (takeT ⟨#[40]⟩ L1).2 with
    | none => none
    | some (r, L2) => if (takeT ⟨#[41]⟩ L2).1 = true then some (withO 1 r 0 false x, (takeT ⟨#[41]⟩ L2).2) else none) else none
set_option maxRecDepth 100000 in
set_option maxHeartbeats 3200000 in
theorem indexed_any (w0 : World) (b g cap : Nat) (a : Option Addr) (L : List ByteArray) (w : World) (hR : Rd w b g a cap L) (hP : Pow w0) (hF : Far w0 w b) : Calls Tryz.prog 126 #[.pointer (some ⟨b, 0, none⟩)] w (OpOut idxT b g w L) := by
  have HR : Hid (Rd w b g a cap L) := hR
  have HP : Hid (Pow w0) := hP
  have HF : Hid (Far w0 w b) := hF
  have hbw := heap_lt hR.row
  have hgw : g ≠ w.heap.size := by have := hR.at'; omega
  clear hR hP hF
  go_enter Tryz.func126, Tryz.ntmps126
  go_wp2_with fail
  refine (word_any b g cap a L _ (HR.out.alloc _)).mono ?_
  rintro e x1 ⟨nm, k, ok, a1, cap1, L1, rfl, hN, hR1, hB1⟩
  have HV1 : Hid (x1.heap[w.heap.size]? = _) := But.keep (heap_alloc_new w _) hB1 (by omega)
  have HB1 : Hid (But b w x1) := (But.of (below_new w _)).trans hB1
  have HR1 : Hid (_) := hR1
  have HN : Hid (_ = _) := hN
  clear hR1 hB1 hN
  have hs1 := heap_lt HV1.out
  have HV1a : Hid (_ = _) := heap_more HV1.out (.cells #[.string nm, .int .i64 k] 30)
  have HR1a : Hid (Rd (x1.alloc (.cells #[.string nm, .int .i64 k] 30)) b g a1 cap1 L1) := HR1.out.alloc _
  have HB1a : Hid (But b w (x1.alloc (.cells #[.string nm, .int .i64 k] 30))) := HB1.out.alloc _
  cases ok
  · obtain ⟨c0, c1, c2, c3, c4, c5⟩ := cells6 HV1.out
    obtain ⟨z0, z1, z2, z3, z4, z5⟩ := frz6 HV1.out
    go_wp2
    exact bodyPost_ret (results_row1 Tryz.results126 _ _ w.heap.size 130 _ (0, 0) _ rfl (heap_more (set_six _ _ _ _ _ _ HV1.out) _) Tryz.underlying130 rfl (by kernel_rfl)) rfl (opOut_mk 0 0 0 false ⟨#[]⟩ 0 false _ _ L1 (by unfold idxT; rw [HN.out]; rfl) ((HR1.out.six (by omega) hgw _ _ _ _ _ _).alloc _) ((HB1.out.six (Nat.le_refl _) _ _ _ _ _ _).alloc _))
  have HU1 : Hid (_ = _) := heap_alloc_new x1 (.cells #[.string nm, .int .i64 k] 30)
  clear HV1 HB1 HR1
  go_wp2_with fail
  refine (mark_any ⟨#[40]⟩ b g cap1 a1 L1 _ HR1a.out).mono ?_
  rintro e x2 ⟨a2, cap2, rfl, hR2, hB2⟩
  have HV2 : Hid (x2.heap[w.heap.size]? = _) := But.keep HV1a.out hB2 (by omega)
  have HU2 : Hid (x2.heap[x1.heap.size]? = _) := But.keep HU1.out hB2 (by omega)
  have HB2 : Hid (But b w x2) := HB1a.out.trans hB2
  have HR2 : Hid (_) := hR2
  have HI : Hid (idxT L = if (takeT ⟨#[40]⟩ L1).1 = true then (match regT (takeT ⟨#[40]⟩ L1).2 with | none => none | some (r, L2) => if (takeT ⟨#[41]⟩ L2).1 = true then some (withO 1 r 0 false (nm, k), (takeT ⟨#[41]⟩ L2).2) else none) else none) := by show _ = _; unfold idxT; rw [HN.out]; rfl
  clear hR2 hB2 HV1a HB1a HR1a HU1 HN
  have hs2 := heap_lt HU2.out
  generalize (takeT ⟨#[40]⟩ L1).1 = t1 at *
  generalize (takeT ⟨#[40]⟩ L1).2 = L2 at *
  cases t1
  · obtain ⟨c0, c1, c2, c3, c4, c5⟩ := cells6 HV2.out
    obtain ⟨z0, z1, z2, z3, z4, z5⟩ := frz6 HV2.out
    go_wp2
    exact bodyPost_ret (results_row1 Tryz.results126 _ _ w.heap.size 130 _ (0, 0) _ rfl (set_six _ _ _ _ _ _ HV2.out) Tryz.underlying130 rfl (by kernel_rfl)) rfl (opOut_mk 0 0 0 false ⟨#[]⟩ 0 false _ _ L2 (by rw [HI.out, if_neg (by decide)]; rfl) (HR2.out.six (by omega) hgw _ _ _ _ _ _) (HB2.out.six (Nat.le_refl _) _ _ _ _ _ _))
  go_wp2_with fail
  refine (reg_any b g cap2 a2 L2 x2 HR2.out ((HF.out.but HB2.out).pow HP.out)).mono ?_
  rintro e x3 ⟨r, ok, a3, cap3, L3, rfl, hN, hL3, hn0, hn1, hR3, hB3⟩
  have HV3 : Hid (x3.heap[w.heap.size]? = _) := But.keep HV2.out hB3 (by omega)
  have HU3 : Hid (x3.heap[x1.heap.size]? = _) := But.keep HU2.out hB3 (by omega)
  have HB3 : Hid (But b w x3) := HB2.out.trans hB3
  have HR3 : Hid (_) := hR3
  have HN : Hid (_ = _) := hN
  clear hR3 hB3 hN hL3 HV2 HU2 HB2 HR2
  have hs3 := heap_lt HU3.out
  cases ok
  · obtain ⟨c0, c1, c2, c3, c4, c5⟩ := cells6 HV3.out
    obtain ⟨z0, z1, z2, z3, z4, z5⟩ := frz6 HV3.out
    go_wp2
    exact bodyPost_ret (results_row1 Tryz.results126 _ _ w.heap.size 130 _ (0, 0) _ rfl (set_six _ _ _ _ _ _ HV3.out) Tryz.underlying130 rfl (by kernel_rfl)) rfl (opOut_mk 0 0 0 false ⟨#[]⟩ 0 false _ _ L3 (by rw [HI.out, if_pos trivial, HN.out]; rfl) (HR3.out.six (by omega) hgw _ _ _ _ _ _) (HB3.out.six (Nat.le_refl _) _ _ _ _ _ _))
  go_wp2_with fail
  refine (mark_any ⟨#[41]⟩ b g cap3 a3 L3 _ HR3.out).mono ?_
  rintro e x4 ⟨a4, cap4, rfl, hR4, hB4⟩
  have HV4 : Hid (x4.heap[w.heap.size]? = _) := But.keep HV3.out hB4 (by omega)
  have HU4 : Hid (x4.heap[x1.heap.size]? = _) := But.keep HU3.out hB4 (by omega)
  have HB4 : Hid (But b w x4) := HB3.out.trans hB4
  have HR4 : Hid (_) := hR4
  have HJ : Hid (idxT L = if (takeT ⟨#[41]⟩ L3).1 = true then some (withO 1 r 0 false (nm, k), (takeT ⟨#[41]⟩ L3).2) else none) := by show _ = _; rw [HI.out, if_pos trivial, HN.out]; rfl
  clear hR4 hB4 HV3 HU3 HB3 HR3 HI HN
  have hs4 := heap_lt HU4.out
  generalize (takeT ⟨#[41]⟩ L3).1 = t1 at *
  generalize (takeT ⟨#[41]⟩ L3).2 = L4 at *
  cases t1
  · obtain ⟨c0, c1, c2, c3, c4, c5⟩ := cells6 HV4.out
    obtain ⟨z0, z1, z2, z3, z4, z5⟩ := frz6 HV4.out
    go_wp2
    exact bodyPost_ret (results_row1 Tryz.results126 _ _ w.heap.size 130 _ (0, 0) _ rfl (set_six _ _ _ _ _ _ HV4.out) Tryz.underlying130 rfl (by kernel_rfl)) rfl (opOut_mk 0 0 0 false ⟨#[]⟩ 0 false _ _ L4 (by rw [HJ.out, if_neg (by decide)]; rfl) (HR4.out.six (by omega) hgw _ _ _ _ _ _) (HB4.out.six (Nat.le_refl _) _ _ _ _ _ _))
  obtain ⟨u0, u1, v0, v1⟩ := two_cells HU4.out
  go_wp2_with fail
  refine (withN_any 1 r 0 false nm k _).mono ?_
  rintro e x5 ⟨n', l', rfl, hW, hb⟩
  have HV5 : Hid (x5.heap[w.heap.size]? = _) := heap_keep HV4.out hb
  have HB5 : Hid (But b w x5) := HB4.out.call hb
  have HR5 : Hid (_) := HR4.out.call hb
  have HW : Hid (_ = _) := hW
  clear hW hb HV4 HB4 HR4 HU4 u0 u1 v0 v1
  obtain ⟨c0, c1, c2, c3, c4, c5⟩ := cells6 HV5.out
  obtain ⟨z0, z1, z2, z3, z4, z5⟩ := frz6 HV5.out
  have hs5 := heap_lt HV5.out
  go_wp2
  exact bodyPost_ret (results_row1 Tryz.results126 _ _ w.heap.size 130 _ (0, 0) _ rfl (set_six _ _ _ _ _ _ HV5.out) Tryz.underlying130 rfl (by kernel_rfl)) rfl (opOut_mk 1 r n' l' nm k true _ _ L4 (by rw [HJ.out, if_pos trivial]; exact congrArg (fun y => some (y, L4)) (withO_eq HW.out)) (HR5.out.six (by omega) hgw _ _ _ _ _ _) (HB5.out.six (Nat.le_refl _) _ _ _ _ _ _))
end Go.Proofs.YtodjccipfonaiaaGreatDoor
namespace Go.Proofs.YtodjccipfonaiaaGreatDoor
open Go.RowKit
set_option linter.unusedVariables false

theorem Rd.back {w x : World} {b g : Nat} {a a2 : Option Addr} {cap cap2 : Nat} {L L2 : List ByteArray} (h : Rd w b g a cap L) (hB : But b w x) (h2 : Rd x b g a2 cap2 L2) : Rd (x.setCell ⟨b, 0, none⟩ (.slice a L.length cap)) b g a cap L :=
  ⟨heap_set h2.row 0 _, (h.read.but hB h.at' (fun e => absurd rfl e)).but (But.setB (p := ⟨b, 0, none⟩) (But.refl b x) rfl _) h2.at' (fun e => absurd rfl e), by simpa [World.setCell] using h2.at', h.len, h.cap, h.less, h.text⟩
def atT (L : List ByteArray) : Option (OpdW × List ByteArray) := match regT L with
  | none => none
  | some (r, L1) => if (takeT ⟨#[43]⟩ L1).1 = true then some (((4, r, 0, false), ⟨#[]⟩, 0), (takeT ⟨#[43]⟩ L1).2) else some (((3, r, 0, false), ⟨#[]⟩, 0), L1)
def bareT (L : List ByteArray) : Option (OpdW × List ByteArray) := match idxT L with
  | some y => some y
  | none => mapO (regT L) (fun r => ((0, r, 0, false), ⟨#[]⟩, 0))
def operT (L : List ByteArray) : Option (OpdW × List ByteArray) :=
  if (takeT ⟨#[38]⟩ L).1 = true then mapO (wordT (takeT ⟨#[38]⟩ L).2) (withO 2 0 0 false)
  else if (takeT ⟨#[35]⟩ L).1 = true then immT (takeT ⟨#[35]⟩ L).2
  else if (takeT ⟨#[64]⟩ L).1 = true then atT (takeT ⟨#[64]⟩ L).2
  else bareT L
set_option maxRecDepth 100000 in
set_option maxHeartbeats 3200000 in
theorem operand_any (w0 : World) (b g cap : Nat) (a : Option Addr) (L : List ByteArray) (w : World) (hR : Rd w b g a cap L) (hP : Pow w0) (hF : Far w0 w b) : Calls Tryz.prog 114 #[.pointer (some ⟨b, 0, none⟩)] w (OpOut operT b g w L) := by
  have HR : Hid (Rd w b g a cap L) := hR
  have HP : Hid (Pow w0) := hP
  have HF : Hid (Far w0 w b) := hF
  have hbw := heap_lt hR.row
  have hgw : g ≠ w.heap.size := by have := hR.at'; omega
  clear hR hP hF
  go_enter Tryz.func114, Tryz.ntmps114
  go_wp2_with fail
  refine (mark_any ⟨#[38]⟩ b g cap a L _ (HR.out.alloc _)).mono ?_
  rintro e x1 ⟨a1, cap1, rfl, hR1, hB1⟩
  have HV1 : Hid (x1.heap[w.heap.size]? = _) := But.keep (heap_alloc_new w _) hB1 (by omega)
  have HB1 : Hid (But b w x1) := (But.of (below_new w _)).trans hB1
  have HR1 : Hid (_) := hR1
  clear hR1 hB1 HR
  have hs1 := heap_lt HV1.out
  cases hm : (takeT ⟨#[38]⟩ L).1
  case' true =>
    have HM : Hid ((takeT ⟨#[38]⟩ L).1 = true) := hm
    clear hm
    go_wp2_with fail
    refine (word_any b g cap1 a1 _ x1 HR1.out).mono ?_
    rintro e x2 ⟨nm, k, ok, a2, cap2, L2, rfl, hN, hR2, hB2⟩
    have HN : Hid (_ = _) := hN
    clear hN
    have HV2 : Hid (x2.heap[w.heap.size]? = _) := But.keep HV1.out hB2 (by omega)
    have HB2 : Hid (But b w x2) := HB1.out.trans hB2
    have HR2 : Hid (_) := hR2
    clear hR2 hB2 HV1 HB1 HR1
    have hs2 := heap_lt HV2.out
    have HU : Hid (_ = _) := heap_alloc_new x2 (.cells #[.string nm, .int .i64 k] 30)
    go_wp2_with fail
    refine (withN_any 2 0 0 false nm k _).mono ?_
    rintro e x3 ⟨n', l', rfl, hW, hb⟩
    have HV3 : Hid (x3.heap[w.heap.size]? = _) := heap_keep (heap_more HV2.out _) hb
    have HB3 : Hid (But b w x3) := (HB2.out.alloc _).call hb
    have HR3 : Hid (_) := (HR2.out.alloc _).call hb
    have HW : Hid (_ = _) := hW
    clear hW hb HV2 HB2 HR2 HU
    obtain ⟨c0, c1, c2, c3, c4, c5⟩ := cells6 HV3.out
    obtain ⟨z0, z1, z2, z3, z4, z5⟩ := frz6 HV3.out
    have hs3 := heap_lt HV3.out
    go_wp2
    exact bodyPost_ret (results_row1 Tryz.results114 _ _ w.heap.size 130 _ (0, 0) _ rfl (set_six _ _ _ _ _ _ HV3.out) Tryz.underlying130 rfl (by kernel_rfl)) rfl (opOut_mk 2 0 n' l' nm k ok _ _ L2 (by unfold operT; rw [if_pos HM.out, HN.out]; cases ok; rfl; exact congrArg (fun y => some (y, L2)) (withO_eq HW.out)) (HR3.out.six (by omega) hgw _ _ _ _ _ _) (HB3.out.six (Nat.le_refl _) _ _ _ _ _ _))
  have HM1 : Hid ((takeT ⟨#[38]⟩ L).1 = false) := hm
  have HL1 : Hid (Rd x1 b g a1 cap1 L) := by have h := HR1.out; rw [mark_left hm] at h; exact h
  clear hm HR1
  go_wp2_with fail
  refine (mark_any ⟨#[35]⟩ b g cap1 a1 L _ HL1.out).mono ?_
  rintro e x2 ⟨a2, cap2, rfl, hR2, hB2⟩
  have HR1 : Hid True := trivial
  have HV2 : Hid (x2.heap[w.heap.size]? = _) := But.keep HV1.out hB2 (by omega)
  have HB2 : Hid (But b w x2) := HB1.out.trans hB2
  have HR2 : Hid (_) := hR2
  clear hR2 hB2 HV1 HB1 HR1
  have hs2 := heap_lt HV2.out
  cases hm : (takeT ⟨#[35]⟩ L).1
  case' true =>
    have HM : Hid ((takeT ⟨#[35]⟩ L).1 = true) := hm
    clear hm
    go_wp2_with fail
    refine (immediate_any b g cap2 a2 _ x2 HR2.out).mono ?_
    rintro e x3 ⟨m, r, n, l, nm, k, ok, a3, cap3, L3, rfl, hN, hR3, hB3⟩
    have HN : Hid (_ = _) := hN
    clear hN
    have HV3 : Hid (x3.heap[w.heap.size]? = _) := But.keep HV2.out hB3 (by omega)
    have HB3 : Hid (But b w x3) := HB2.out.trans hB3
    have HR3 : Hid (_) := hR3
    clear hR3 hB3 HV2 HB2 HR2
    have hs3 := heap_lt HV3.out
    obtain ⟨c0, c1, c2, c3, c4, c5⟩ := cells6 HV3.out
    obtain ⟨z0, z1, z2, z3, z4, z5⟩ := frz6 HV3.out
    go_wp2
    exact bodyPost_ret (results_row1 Tryz.results114 _ _ w.heap.size 130 _ (0, 0) _ rfl (set_six _ _ _ _ _ _ HV3.out) Tryz.underlying130 rfl (by kernel_rfl)) rfl (opOut_mk m r n l nm k ok _ _ L3 (by unfold operT; rw [HM1.out, if_neg (by decide), if_pos HM.out, HN.out]) (HR3.out.six (by omega) hgw _ _ _ _ _ _) (HB3.out.six (Nat.le_refl _) _ _ _ _ _ _))
  have HM2 : Hid ((takeT ⟨#[35]⟩ L).1 = false) := hm
  have HL2 : Hid (Rd x2 b g a2 cap2 L) := by have h := HR2.out; rw [mark_left hm] at h; exact h
  clear hm HR2 HL1
  go_wp2_with fail
  refine (mark_any ⟨#[64]⟩ b g cap2 a2 L _ HL2.out).mono ?_
  rintro e x3 ⟨a3, cap3, rfl, hR3, hB3⟩
  have HR2 : Hid True := trivial
  have HV3 : Hid (x3.heap[w.heap.size]? = _) := But.keep HV2.out hB3 (by omega)
  have HB3 : Hid (But b w x3) := HB2.out.trans hB3
  have HR3 : Hid (_) := hR3
  clear hR3 hB3 HV2 HB2 HR2
  have hs3 := heap_lt HV3.out
  cases hm : (takeT ⟨#[64]⟩ L).1
  case' true =>
    have HM : Hid (operT L = atT (takeT ⟨#[64]⟩ L).2) := by show _ = _; unfold operT; rw [HM1.out, HM2.out, if_neg (by decide), if_neg (by decide), if_pos hm]
    clear hm
    go_wp2_with fail
    refine (reg_any b g cap3 a3 _ x3 HR3.out ((HF.out.but HB3.out).pow HP.out)).mono ?_
    rintro e x4 ⟨r, ok, a4, cap4, L4, rfl, hN, hL4, hn0, hn1, hR4, hB4⟩
    have HN : Hid (_ = _) := hN
    clear hN hL4
    have HV4 : Hid (x4.heap[w.heap.size]? = _) := But.keep HV3.out hB4 (by omega)
    have HB4 : Hid (But b w x4) := HB3.out.trans hB4
    have HR4 : Hid (_) := hR4
    clear hR4 hB4 HV3 HB3 HR3
    have hs4 := heap_lt HV4.out
    go_wp2_with fail
    refine (mark_any ⟨#[43]⟩ b g cap4 a4 L4 _ HR4.out).mono ?_
    rintro e x5 ⟨a5, cap5, rfl, hR5, hB5⟩
    have HV5 : Hid (x5.heap[w.heap.size]? = _) := But.keep HV4.out hB5 (by omega)
    have HB5 : Hid (But b w x5) := HB4.out.trans hB5
    have HR5 : Hid (_) := hR5
    clear hR5 hB5 HV4 HB4 HR4
    have hs5 := heap_lt HV5.out
    obtain ⟨c0, c1, c2, c3, c4, c5⟩ := cells6 HV5.out
    obtain ⟨z0, z1, z2, z3, z4, z5⟩ := frz6 HV5.out
    cases hm : (takeT ⟨#[43]⟩ L4).1
    · have HM4 : Hid ((takeT ⟨#[43]⟩ L4).1 = false) := hm
      have HL5 : Hid (Rd x5 b g a5 cap5 L4) := by have h := HR5.out; rw [mark_left hm] at h; exact h
      clear hm
      go_wp2
      exact bodyPost_ret (results_row1 Tryz.results114 _ _ w.heap.size 130 _ (0, 0) _ rfl (set_six _ _ _ _ _ _ HV5.out) Tryz.underlying130 rfl (by kernel_rfl)) rfl (opOut_mk 3 r 0 false ⟨#[]⟩ 0 ok _ _ L4 (by rw [HM.out]; unfold atT; rw [HN.out]; cases ok; rfl; show (if (takeT ⟨#[43]⟩ L4).1 = true then _ else _) = _; rw [HM4.out]; rfl) (HL5.out.six (by omega) hgw _ _ _ _ _ _) (HB5.out.six (Nat.le_refl _) _ _ _ _ _ _))
    · have HM4 : Hid ((takeT ⟨#[43]⟩ L4).1 = true) := hm
      clear hm
      go_wp2
      exact bodyPost_ret (results_row1 Tryz.results114 _ _ w.heap.size 130 _ (0, 0) _ rfl (set_six _ _ _ _ _ _ HV5.out) Tryz.underlying130 rfl (by kernel_rfl)) rfl (opOut_mk 4 r 0 false ⟨#[]⟩ 0 ok _ _ (takeT ⟨#[43]⟩ L4).2 (by rw [HM.out]; unfold atT; rw [HN.out]; cases ok; rfl; show (if (takeT ⟨#[43]⟩ L4).1 = true then _ else _) = _; rw [HM4.out]; rfl) (HR5.out.six (by omega) hgw _ _ _ _ _ _) (HB5.out.six (Nat.le_refl _) _ _ _ _ _ _))
  have HM3 : Hid (operT L = bareT L) := by show _ = _; unfold operT; rw [HM1.out, HM2.out, hm, if_neg (by decide), if_neg (by decide), if_neg (by decide)]
  have HL3 : Hid (Rd x3 b g a3 cap3 L) := by have h := HR3.out; rw [mark_left hm] at h; exact h
  clear hm HR3 HL2 HM1 HM2
  have cb := cell_of_one HL3.out.row
  have hb3 := heap_lt HL3.out.row
  go_wp2_with fail
  refine (indexed_any w0 b g cap3 a3 L x3 HL3.out HP.out (HF.out.but HB3.out)).mono ?_
  rintro e x4 ⟨m, r, n, l, nm, k, ok, a4, cap4, L4, rfl, hN, hR4, hB4⟩
  have HN : Hid (_ = _) := hN
  have HB34 : Hid (But b x3 x4) := hB4
  have HR3 : Hid True := trivial
  clear hN cb
  have HV4 : Hid (x4.heap[w.heap.size]? = _) := But.keep HV3.out hB4 (by omega)
  have HB4 : Hid (But b w x4) := HB3.out.trans hB4
  have HR4 : Hid (_) := hR4
  clear hR4 hB4 HV3 HB3 HR3
  have hs4 := heap_lt HV4.out
  cases ok
  case' true =>
    obtain ⟨c0, c1, c2, c3, c4, c5⟩ := cells6 HV4.out
    obtain ⟨z0, z1, z2, z3, z4, z5⟩ := frz6 HV4.out
    go_wp2
    exact bodyPost_ret (results_row1 Tryz.results114 _ _ w.heap.size 130 _ (0, 0) _ rfl (heap_more (set_six _ _ _ _ _ _ HV4.out) _) Tryz.underlying130 rfl (by kernel_rfl)) rfl (opOut_mk m r n l nm k true _ _ L4 (by rw [HM3.out]; unfold bareT; rw [HN.out]; rfl) ((HR4.out.six (by omega) hgw _ _ _ _ _ _).alloc _) ((HB4.out.six (Nat.le_refl _) _ _ _ _ _ _).alloc _))
  have HRb : Hid (Rd (x4.setCell ⟨b, 0, none⟩ (.slice a3 L.length cap3)) b g a3 cap3 L) := HL3.out.back HB34.out HR4.out
  have HBb : Hid (But b w (x4.setCell ⟨b, 0, none⟩ (.slice a3 L.length cap3))) := HB4.out.setB rfl _
  have HVb : Hid ((x4.setCell ⟨b, 0, none⟩ (.slice a3 L.length cap3)).heap[w.heap.size]? = _) := set_far (by show w.heap.size ≠ b; omega) HV4.out
  have zb := free_of_one HR4.out.row
  have cb := cell_of_one HR4.out.row
  have hb4 := heap_lt HR4.out.row
  go_wp2_with fail
  refine (reg_any b g cap3 a3 L _ (HRb.out.alloc _) ((HF.out.but (HBb.out.alloc _)).pow HP.out)).mono ?_
  rintro e x5 ⟨r5, ok, a5, cap5, L5, rfl, hN5, hL5, hn0, hn1, hR5, hB5⟩
  have HN5 : Hid (_ = _) := hN5
  have HV5 : Hid (x5.heap[w.heap.size]? = _) := But.keep (heap_more HVb.out _) hB5 (by omega)
  have HB5 : Hid (But b w x5) := (HBb.out.alloc _).trans hB5
  have HR5 : Hid (_) := hR5
  clear hN5 hR5 hB5 hL5 zb cb HR4 HVb HBb HRb
  have hs5 := heap_lt HV5.out
  obtain ⟨c0, c1, c2, c3, c4, c5⟩ := cells6 HV5.out
  obtain ⟨z0, z1, z2, z3, z4, z5⟩ := frz6 HV5.out
  go_wp2
  exact bodyPost_ret (results_row1 Tryz.results114 _ _ w.heap.size 130 _ (0, 0) _ rfl (set_six _ _ _ _ _ _ HV5.out) Tryz.underlying130 rfl (by kernel_rfl)) rfl (opOut_mk 0 r5 0 false ⟨#[]⟩ 0 ok _ _ L5 (by rw [HM3.out]; unfold bareT; rw [HN.out, HN5.out]; cases ok <;> rfl) (HR5.out.six (by omega) hgw _ _ _ _ _ _) (HB5.out.six (Nat.le_refl _) _ _ _ _ _ _))
end Go.Proofs.YtodjccipfonaiaaGreatDoor
