/- InsnRead of the specification. -/
import Derived.Test.YtodjccipfonaiaaGreatDoorRows
import Derived.WalkKit
import Derived.WalkSpells
import Derived.WalkLawsBesides
import Derived.Outline
import Derived.RegionTactic
import Derived.BigRegion
import Derived.Deep.QuietTactic
import Derived.BigQuiet
import Derived.Deep.RegionHeld3
import Derived.Test.YtodjccipfonaiaaGreatDoorBun0
import Derived.Test.YtodjccipfonaiaaGreatDoorBun1
import Derived.Test.YtodjccipfonaiaaGreatDoorBun5
import Derived.Test.YtodjccipfonaiaaGreatDoorBun13
import Derived.Test.YtodjccipfonaiaaGreatDoorBun3
import Derived.Test.YtodjccipfonaiaaGreatDoorBun14
import Derived.Test.YtodjccipfonaiaaGreatDoorInsS6X
import Derived.Test.YtodjccipfonaiaaGreatDoorInsS7X
namespace Go.Proofs.YtodjccipfonaiaaGreatDoor
open Go.RowKit
set_option linter.unusedVariables false

theorem l03Read_any (t : ByteArray) (w : World) (ht : t.size ≤ maxLen) : Calls Tryz.prog 46 #[.string t] w (ReadOut t w) := by
  by_cases h : idxI 32 t < t.size
  · exact l03Read_rest t w ht h
  · exact l03Read_bare t w ht h
theorem far13 {W : World} {G g : Nat} {o : Obj} {a0 a1 a2 a3 a4 a5 a6 a7 a8 a9 a10 a11 a12 : Value} (hne : G ≠ g) (h : W.heap[G]? = some o) : (World.setCell (World.setCell (World.setCell (World.setCell (World.setCell (World.setCell (World.setCell (World.setCell (World.setCell (World.setCell (World.setCell (World.setCell (World.setCell W ⟨g, 0, none⟩ a0) ⟨g, 1, none⟩ a1) ⟨g, 2, none⟩ a2) ⟨g, 3, none⟩ a3) ⟨g, 4, none⟩ a4) ⟨g, 5, none⟩ a5) ⟨g, 6, none⟩ a6) ⟨g, 7, none⟩ a7) ⟨g, 8, none⟩ a8) ⟨g, 9, none⟩ a9) ⟨g, 10, none⟩ a10) ⟨g, 11, none⟩ a11) ⟨g, 12, none⟩ a12).heap[G]? = some o := (set_far (a := ⟨g, 12, none⟩) hne (set_far (a := ⟨g, 11, none⟩) hne (set_far (a := ⟨g, 10, none⟩) hne (set_far (a := ⟨g, 9, none⟩) hne (set_far (a := ⟨g, 8, none⟩) hne (set_far (a := ⟨g, 7, none⟩) hne (set_far (a := ⟨g, 6, none⟩) hne (set_far (a := ⟨g, 5, none⟩) hne (set_far (a := ⟨g, 4, none⟩) hne (set_far (a := ⟨g, 3, none⟩) hne (set_far (a := ⟨g, 2, none⟩) hne (set_far (a := ⟨g, 1, none⟩) hne (set_far (a := ⟨g, 0, none⟩) hne h)))))))))))))
theorem own_slice {w : World} {B : Nat} {v : Value} {L : List Int} (h : OwnI w B v L) : ∃ ga gc, v = .slice ga L.length gc := by
  rcases h.form with ⟨rfl, rfl⟩ | ⟨g, cap, cur, rfl, _⟩
  · exact ⟨_, _, rfl⟩
  · exact ⟨_, _, rfl⟩
def zeroI : Ins := ⟨⟨#[]⟩, false, 0, 0, 0, false, 0, 0, 0, false, 0⟩
def okI (i : Ins) : Bool := insnB i.op i.b i.m i.r i.n i.l i.m2 i.r2 i.n2 i.l2 i.j
def lenI (i : Ins) : Int := (encI i.op i.b i.m i.r i.n i.l i.m2 i.r2 i.n2 i.l2 i.j).length
def outM : Option InsO → Ins × Int × Int
  | some x => if okI x.1 = true ∧ namedR x.2.1 = false ∧ namedR x.2.2 = false then (x.1, lenI x.1, 0) else (zeroI, 0, 3)
  | none => (zeroI, 0, 3)
def outR (t : ByteArray) : Ins × Int × Int := if 8000 < t.size then (zeroI, 0, 2) else outM (readR t)
def InsROut (t : ByteArray) (w : World) (e : Ending) (w' : World) : Prop := ∃ (i : Ins) (k c : Int), e = .returned (.agg #[.string i.op, .bool i.b, .int .i64 i.m, .int .i64 i.r, .int .i64 i.n, .bool i.l, .int .i64 i.m2, .int .i64 i.r2, .int .i64 i.n2, .bool i.l2, .int .i64 i.j, .int .i64 k, .int .i64 c]) ∧ outR t = (i, k, c) ∧ Below w.heap.size w w'
set_option maxRecDepth 100000 in
set_option maxHeartbeats 6400000 in
theorem specInsnRead_any (t : ByteArray) (w : World) (ht : t.size ≤ maxLen) : Calls Tryz.prog 16 #[.string t] w (InsROut t w) := by
  have HM : Hid (t.size ≤ maxLen) := ht
  unfold maxLen at ht
  by_cases h8 : 8000 < t.size
  · have h8' : (8000 : Int) < (t.size : Int) := by omega
    have HO : Hid (outR t = (zeroI, 0, 2)) := by show _ = _; unfold outR; rw [if_pos h8]
    go_enter Tryz.func16, Tryz.ntmps16
    go_wp2
    exact bodyPost_ret (results_cell_row Tryz.results16 _ _ w.heap.size 34 _ (0, 0) _ rfl (heap_alloc_new _ _) Tryz.underlying34 rfl (by kernel_rfl)) rfl ⟨zeroI, 0, 2, rfl, HO.out, below_new _ _⟩
  have h8' : ¬ (8000 : Int) < (t.size : Int) := by omega
  have HO : Hid (outR t = outM (readR t)) := by show _ = _; unfold outR; rw [if_neg h8]
  go_enter Tryz.func16, Tryz.ntmps16
  go_wp2_with fail
  refine (l03Read_any t _ HM.out).mono ?_
  rintro e x1 ⟨⟨op, b, m, r, n, l, m2, r2, n2, l2, j⟩, s, d, ok, rfl, hR, hs, hd, hb⟩
  have HR0 : Hid (x1.heap[w.heap.size]? = _) := heap_keep (heap_alloc_new w _) hb
  have HB0 : Hid (Below w.heap.size w x1) := below_call (below_new _ _) hb
  have HRR : Hid (_ = _) := hR
  have HSS : Hid (s.size ≤ maxLen ∧ d.size ≤ maxLen) := ⟨hs, hd⟩
  have hz := heap_lt HR0.out
  have hne : w.heap.size ≠ x1.heap.size := by omega
  clear hR hs hd hb
  unfold Ins.vals
  cases ok
  · have HQ : Hid (outR t = (zeroI, 0, 3)) := by show _ = _; rw [HO.out, HRR.out]; rfl
    have c0 := cell_of_row _ _ 0 _ _ _ HR0.out
    have c1 := cell_of_row _ _ 1 _ _ _ HR0.out
    have c2 := cell_of_row _ _ 2 _ _ _ HR0.out
    have c3 := cell_of_row _ _ 3 _ _ _ HR0.out
    have c4 := cell_of_row _ _ 4 _ _ _ HR0.out
    have c5 := cell_of_row _ _ 5 _ _ _ HR0.out
    have c6 := cell_of_row _ _ 6 _ _ _ HR0.out
    have c7 := cell_of_row _ _ 7 _ _ _ HR0.out
    have c8 := cell_of_row _ _ 8 _ _ _ HR0.out
    have c9 := cell_of_row _ _ 9 _ _ _ HR0.out
    have c10 := cell_of_row _ _ 10 _ _ _ HR0.out
    have c11 := cell_of_row _ _ 11 _ _ _ HR0.out
    have c12 := cell_of_row _ _ 12 _ _ _ HR0.out
    have z0 := frozen_of_row _ _ 0 _ _ HR0.out
    have z1 := frozen_of_row _ _ 1 _ _ HR0.out
    have z2 := frozen_of_row _ _ 2 _ _ HR0.out
    have z3 := frozen_of_row _ _ 3 _ _ HR0.out
    have z4 := frozen_of_row _ _ 4 _ _ HR0.out
    have z5 := frozen_of_row _ _ 5 _ _ HR0.out
    have z6 := frozen_of_row _ _ 6 _ _ HR0.out
    have z7 := frozen_of_row _ _ 7 _ _ HR0.out
    have z8 := frozen_of_row _ _ 8 _ _ HR0.out
    have z9 := frozen_of_row _ _ 9 _ _ HR0.out
    have z10 := frozen_of_row _ _ 10 _ _ HR0.out
    have z11 := frozen_of_row _ _ 11 _ _ HR0.out
    have z12 := frozen_of_row _ _ 12 _ _ HR0.out
    go_wp2
    exact bodyPost_ret (results_cell_row Tryz.results16 _ _ w.heap.size 34 _ (0, 0) _ rfl (heap_more (set_thirteen HR0.out) _) Tryz.underlying34 rfl (by kernel_rfl)) rfl ⟨zeroI, 0, 3, rfl, HQ.out, (below_more (below_thirteen (Nat.le_refl _) HB0.out) _)⟩
  have HQ0 : Hid (outR t = if okI ⟨op, b, m, r, n, l, m2, r2, n2, l2, j⟩ = true ∧ namedR s = false ∧ namedR d = false then (⟨op, b, m, r, n, l, m2, r2, n2, l2, j⟩, lenI ⟨op, b, m, r, n, l, m2, r2, n2, l2, j⟩, 0) else (zeroI, 0, 3)) := by show _ = _; rw [HO.out, HRR.out]; rfl
  have HR1 : Hid (_ = _) := heap_more HR0.out (.cells #[.string op, .bool b, .int .i64 m, .int .i64 r, .int .i64 n, .bool l, .int .i64 m2, .int .i64 r2, .int .i64 n2, .bool l2, .int .i64 j] 26)
  have HI1 : Hid (_ = _) := heap_alloc_new x1 (.cells #[.string op, .bool b, .int .i64 m, .int .i64 r, .int .i64 n, .bool l, .int .i64 m2, .int .i64 r2, .int .i64 n2, .bool l2, .int .i64 j] 26)
  have HB1 : Hid (Below w.heap.size w _) := below_more HB0.out (.cells #[.string op, .bool b, .int .i64 m, .int .i64 r, .int .i64 n, .bool l, .int .i64 m2, .int .i64 r2, .int .i64 n2, .bool l2, .int .i64 j] 26)
  clear HR0 HB0 HRR HO
  go_wp2_with fail
  generalize x1.alloc (.cells #[.string op, .bool b, .int .i64 m, .int .i64 r, .int .i64 n, .bool l, .int .i64 m2, .int .i64 r2, .int .i64 n2, .bool l2, .int .i64 j] 26) = y1 at *
  generalize x1.heap.size = G at *
  refine (specRight_any op b m r n l m2 r2 n2 l2 j y1).mono ?_
  rintro e x2 ⟨rfl, hb⟩
  have HR2 : Hid (x2.heap[w.heap.size]? = _) := heap_keep HR1.out hb
  have HI2 : Hid (x2.heap[G]? = _) := heap_keep HI1.out hb
  have HB2 : Hid (Below w.heap.size w x2) := below_call HB1.out hb
  clear hb HR1 HI1 HB1
  cases hn1 : insnB op b m r n l m2 r2 n2 l2 j
  · have HQ : Hid (outR t = (zeroI, 0, 3)) := by show _ = _; rw [HQ0.out, if_neg (fun h => by have h1 : insnB op b m r n l m2 r2 n2 l2 j = true := h.1; rw [hn1] at h1; cases h1)]
    clear hn1
    have c0 := cell_of_row _ _ 0 _ _ _ HR2.out
    have c1 := cell_of_row _ _ 1 _ _ _ HR2.out
    have c2 := cell_of_row _ _ 2 _ _ _ HR2.out
    have c3 := cell_of_row _ _ 3 _ _ _ HR2.out
    have c4 := cell_of_row _ _ 4 _ _ _ HR2.out
    have c5 := cell_of_row _ _ 5 _ _ _ HR2.out
    have c6 := cell_of_row _ _ 6 _ _ _ HR2.out
    have c7 := cell_of_row _ _ 7 _ _ _ HR2.out
    have c8 := cell_of_row _ _ 8 _ _ _ HR2.out
    have c9 := cell_of_row _ _ 9 _ _ _ HR2.out
    have c10 := cell_of_row _ _ 10 _ _ _ HR2.out
    have c11 := cell_of_row _ _ 11 _ _ _ HR2.out
    have c12 := cell_of_row _ _ 12 _ _ _ HR2.out
    have z0 := frozen_of_row _ _ 0 _ _ HR2.out
    have z1 := frozen_of_row _ _ 1 _ _ HR2.out
    have z2 := frozen_of_row _ _ 2 _ _ HR2.out
    have z3 := frozen_of_row _ _ 3 _ _ HR2.out
    have z4 := frozen_of_row _ _ 4 _ _ HR2.out
    have z5 := frozen_of_row _ _ 5 _ _ HR2.out
    have z6 := frozen_of_row _ _ 6 _ _ HR2.out
    have z7 := frozen_of_row _ _ 7 _ _ HR2.out
    have z8 := frozen_of_row _ _ 8 _ _ HR2.out
    have z9 := frozen_of_row _ _ 9 _ _ HR2.out
    have z10 := frozen_of_row _ _ 10 _ _ HR2.out
    have z11 := frozen_of_row _ _ 11 _ _ HR2.out
    have z12 := frozen_of_row _ _ 12 _ _ HR2.out
    go_wp2
    exact bodyPost_ret (results_cell_row Tryz.results16 _ _ w.heap.size 34 _ (0, 0) _ rfl (set_thirteen HR2.out) Tryz.underlying34 rfl (by kernel_rfl)) rfl ⟨zeroI, 0, 3, rfl, HQ.out, (below_thirteen (Nat.le_refl _) HB2.out)⟩
  have HOK : Hid (insnB op b m r n l m2 r2 n2 l2 j = true) := hn1
  clear hn1
  go_wp2_with fail
  refine (l03Named_any s x2 HSS.out.1).mono ?_
  rintro e x3 ⟨rfl, hb⟩
  have HR3 : Hid (x3.heap[w.heap.size]? = _) := heap_keep HR2.out hb
  have HI3 : Hid (x3.heap[G]? = _) := heap_keep HI2.out hb
  have HB3 : Hid (Below w.heap.size w x3) := below_call HB2.out hb
  clear hb HR2 HI2 HB2
  cases hn2 : namedR s
  rotate_left
  · have HQ : Hid (outR t = (zeroI, 0, 3)) := by show _ = _; rw [HQ0.out, if_neg (fun h => by have h1 := h.2.1; rw [hn2] at h1; cases h1)]
    clear hn2
    have c0 := cell_of_row _ _ 0 _ _ _ HR3.out
    have c1 := cell_of_row _ _ 1 _ _ _ HR3.out
    have c2 := cell_of_row _ _ 2 _ _ _ HR3.out
    have c3 := cell_of_row _ _ 3 _ _ _ HR3.out
    have c4 := cell_of_row _ _ 4 _ _ _ HR3.out
    have c5 := cell_of_row _ _ 5 _ _ _ HR3.out
    have c6 := cell_of_row _ _ 6 _ _ _ HR3.out
    have c7 := cell_of_row _ _ 7 _ _ _ HR3.out
    have c8 := cell_of_row _ _ 8 _ _ _ HR3.out
    have c9 := cell_of_row _ _ 9 _ _ _ HR3.out
    have c10 := cell_of_row _ _ 10 _ _ _ HR3.out
    have c11 := cell_of_row _ _ 11 _ _ _ HR3.out
    have c12 := cell_of_row _ _ 12 _ _ _ HR3.out
    have z0 := frozen_of_row _ _ 0 _ _ HR3.out
    have z1 := frozen_of_row _ _ 1 _ _ HR3.out
    have z2 := frozen_of_row _ _ 2 _ _ HR3.out
    have z3 := frozen_of_row _ _ 3 _ _ HR3.out
    have z4 := frozen_of_row _ _ 4 _ _ HR3.out
    have z5 := frozen_of_row _ _ 5 _ _ HR3.out
    have z6 := frozen_of_row _ _ 6 _ _ HR3.out
    have z7 := frozen_of_row _ _ 7 _ _ HR3.out
    have z8 := frozen_of_row _ _ 8 _ _ HR3.out
    have z9 := frozen_of_row _ _ 9 _ _ HR3.out
    have z10 := frozen_of_row _ _ 10 _ _ HR3.out
    have z11 := frozen_of_row _ _ 11 _ _ HR3.out
    have z12 := frozen_of_row _ _ 12 _ _ HR3.out
    go_wp2
    exact bodyPost_ret (results_cell_row Tryz.results16 _ _ w.heap.size 34 _ (0, 0) _ rfl (set_thirteen HR3.out) Tryz.underlying34 rfl (by kernel_rfl)) rfl ⟨zeroI, 0, 3, rfl, HQ.out, (below_thirteen (Nat.le_refl _) HB3.out)⟩
  have HN2 : Hid (namedR s = false) := hn2
  clear hn2
  go_wp2_with fail
  refine (l03Named_any d x3 HSS.out.2).mono ?_
  rintro e x4 ⟨rfl, hb⟩
  have HR4 : Hid (x4.heap[w.heap.size]? = _) := heap_keep HR3.out hb
  have HI4 : Hid (x4.heap[G]? = _) := heap_keep HI3.out hb
  have HB4 : Hid (Below w.heap.size w x4) := below_call HB3.out hb
  clear hb HR3 HI3 HB3
  cases hn3 : namedR d
  rotate_left
  · have HQ : Hid (outR t = (zeroI, 0, 3)) := by show _ = _; rw [HQ0.out, if_neg (fun h => by have h1 := h.2.2; rw [hn3] at h1; cases h1)]
    clear hn3
    have c0 := cell_of_row _ _ 0 _ _ _ HR4.out
    have c1 := cell_of_row _ _ 1 _ _ _ HR4.out
    have c2 := cell_of_row _ _ 2 _ _ _ HR4.out
    have c3 := cell_of_row _ _ 3 _ _ _ HR4.out
    have c4 := cell_of_row _ _ 4 _ _ _ HR4.out
    have c5 := cell_of_row _ _ 5 _ _ _ HR4.out
    have c6 := cell_of_row _ _ 6 _ _ _ HR4.out
    have c7 := cell_of_row _ _ 7 _ _ _ HR4.out
    have c8 := cell_of_row _ _ 8 _ _ _ HR4.out
    have c9 := cell_of_row _ _ 9 _ _ _ HR4.out
    have c10 := cell_of_row _ _ 10 _ _ _ HR4.out
    have c11 := cell_of_row _ _ 11 _ _ _ HR4.out
    have c12 := cell_of_row _ _ 12 _ _ _ HR4.out
    have z0 := frozen_of_row _ _ 0 _ _ HR4.out
    have z1 := frozen_of_row _ _ 1 _ _ HR4.out
    have z2 := frozen_of_row _ _ 2 _ _ HR4.out
    have z3 := frozen_of_row _ _ 3 _ _ HR4.out
    have z4 := frozen_of_row _ _ 4 _ _ HR4.out
    have z5 := frozen_of_row _ _ 5 _ _ HR4.out
    have z6 := frozen_of_row _ _ 6 _ _ HR4.out
    have z7 := frozen_of_row _ _ 7 _ _ HR4.out
    have z8 := frozen_of_row _ _ 8 _ _ HR4.out
    have z9 := frozen_of_row _ _ 9 _ _ HR4.out
    have z10 := frozen_of_row _ _ 10 _ _ HR4.out
    have z11 := frozen_of_row _ _ 11 _ _ HR4.out
    have z12 := frozen_of_row _ _ 12 _ _ HR4.out
    go_wp2
    exact bodyPost_ret (results_cell_row Tryz.results16 _ _ w.heap.size 34 _ (0, 0) _ rfl (set_thirteen HR4.out) Tryz.underlying34 rfl (by kernel_rfl)) rfl ⟨zeroI, 0, 3, rfl, HQ.out, (below_thirteen (Nat.le_refl _) HB4.out)⟩
  have HQ : Hid (outR t = (⟨op, b, m, r, n, l, m2, r2, n2, l2, j⟩, lenI ⟨op, b, m, r, n, l, m2, r2, n2, l2, j⟩, 0)) := by show _ = _; rw [HQ0.out, if_pos ⟨HOK.out, HN2.out, hn3⟩]
  have HL : Hid (lenI ⟨op, b, m, r, n, l, m2, r2, n2, l2, j⟩ = ((encI op b m r n l m2 r2 n2 l2 j).length : Int)) := rfl
  clear hn3 HQ0
  have c0 := cell_of_row _ _ 0 _ _ _ HR4.out
  have c1 := cell_of_row _ _ 1 _ _ _ HR4.out
  have c2 := cell_of_row _ _ 2 _ _ _ HR4.out
  have c3 := cell_of_row _ _ 3 _ _ _ HR4.out
  have c4 := cell_of_row _ _ 4 _ _ _ HR4.out
  have c5 := cell_of_row _ _ 5 _ _ _ HR4.out
  have c6 := cell_of_row _ _ 6 _ _ _ HR4.out
  have c7 := cell_of_row _ _ 7 _ _ _ HR4.out
  have c8 := cell_of_row _ _ 8 _ _ _ HR4.out
  have c9 := cell_of_row _ _ 9 _ _ _ HR4.out
  have c10 := cell_of_row _ _ 10 _ _ _ HR4.out
  have c11 := cell_of_row _ _ 11 _ _ _ HR4.out
  have c12 := cell_of_row _ _ 12 _ _ _ HR4.out
  have z0 := frozen_of_row _ _ 0 _ _ HR4.out
  have z1 := frozen_of_row _ _ 1 _ _ HR4.out
  have z2 := frozen_of_row _ _ 2 _ _ HR4.out
  have z3 := frozen_of_row _ _ 3 _ _ HR4.out
  have z4 := frozen_of_row _ _ 4 _ _ HR4.out
  have z5 := frozen_of_row _ _ 5 _ _ HR4.out
  have z6 := frozen_of_row _ _ 6 _ _ HR4.out
  have z7 := frozen_of_row _ _ 7 _ _ HR4.out
  have z8 := frozen_of_row _ _ 8 _ _ HR4.out
  have z9 := frozen_of_row _ _ 9 _ _ HR4.out
  have z10 := frozen_of_row _ _ 10 _ _ HR4.out
  have z11 := frozen_of_row _ _ 11 _ _ HR4.out
  have z12 := frozen_of_row _ _ 12 _ _ HR4.out
  obtain ⟨d0, d1, d2, d3, d4, d5, d6, d7, d8, d9, d10⟩ := cells11 HI4.out
  have HRc : Hid (x4.heap[w.heap.size]? = _) := HR4.out
  have HIc : Hid (x4.heap[G]? = _) := HI4.out
  have HBc : Hid (Below w.heap.size w x4) := HB4.out
  go_wp2_with fail
  go_region_held3 (fun w' => w'.cell? ⟨G, 0, none⟩ = some (.string op) ∧ w'.cell? ⟨G, 1, none⟩ = some (.bool b) ∧ w'.cell? ⟨G, 2, none⟩ = some (.int .i64 m) ∧ w'.cell? ⟨G, 3, none⟩ = some (.int .i64 r) ∧ w'.cell? ⟨G, 4, none⟩ = some (.int .i64 n) ∧ w'.cell? ⟨G, 5, none⟩ = some (.bool l) ∧ w'.cell? ⟨G, 6, none⟩ = some (.int .i64 m2) ∧ w'.cell? ⟨G, 7, none⟩ = some (.int .i64 r2) ∧ w'.cell? ⟨G, 8, none⟩ = some (.int .i64 n2) ∧ w'.cell? ⟨G, 9, none⟩ = some (.bool l2) ∧ w'.cell? ⟨G, 10, none⟩ = some (.int .i64 j)) (first | exact cells11 (by repeat (first | with_reducible exact HIc.out | with_reducible apply heap_drewn)) | exact cells11 (far13 (fun h => hne h.symm) HIc.out) | exact cells11 (heap_drewn (far13 (fun h => hne h.symm) HIc.out)) | exact cells11 (far13 (fun h => hne h.symm) (heap_drewn HIc.out))) (first
    | (go_at_call 48; refine (l02Encode_any op b m r n l m2 r2 n2 l2 j _ HOK.out).mono ?_; rintro e x5 ⟨v, rfl, hO, hb⟩; have HRc : Hid (_ = _) := heap_keep (by repeat (first | with_reducible exact HRc.out | with_reducible apply heap_drewn)) hb; have HIc : Hid (_ = _) := heap_keep (by repeat (first | with_reducible exact HIc.out | with_reducible apply heap_drewn)) hb; have HBc : Hid (Below w.heap.size w x5) := below_call (by repeat (first | with_reducible exact HBc.out | with_reducible refine Below.drew ?_)) hb; have HOW : Hid (∃ ga gc, v = .slice ga (encI op b m r n l m2 r2 n2 l2 j).length gc) := own_slice hO; clear hb hO; obtain ⟨ga, gc, rfl⟩ := HOW.out; have p0 := cell_of_row _ _ 0 _ _ _ HRc.out; have p1 := cell_of_row _ _ 1 _ _ _ HRc.out; have p2 := cell_of_row _ _ 2 _ _ _ HRc.out; have p3 := cell_of_row _ _ 3 _ _ _ HRc.out; have p4 := cell_of_row _ _ 4 _ _ _ HRc.out; have p5 := cell_of_row _ _ 5 _ _ _ HRc.out; have p6 := cell_of_row _ _ 6 _ _ _ HRc.out; have p7 := cell_of_row _ _ 7 _ _ _ HRc.out; have p8 := cell_of_row _ _ 8 _ _ _ HRc.out; have p9 := cell_of_row _ _ 9 _ _ _ HRc.out; have p10 := cell_of_row _ _ 10 _ _ _ HRc.out; have p11 := cell_of_row _ _ 11 _ _ _ HRc.out; have p12 := cell_of_row _ _ 12 _ _ _ HRc.out; have q0 := frozen_of_row _ _ 0 _ _ HRc.out; have q1 := frozen_of_row _ _ 1 _ _ HRc.out; have q2 := frozen_of_row _ _ 2 _ _ HRc.out; have q3 := frozen_of_row _ _ 3 _ _ HRc.out; have q4 := frozen_of_row _ _ 4 _ _ HRc.out; have q5 := frozen_of_row _ _ 5 _ _ HRc.out; have q6 := frozen_of_row _ _ 6 _ _ HRc.out; have q7 := frozen_of_row _ _ 7 _ _ HRc.out; have q8 := frozen_of_row _ _ 8 _ _ HRc.out; have q9 := frozen_of_row _ _ 9 _ _ HRc.out; have q10 := frozen_of_row _ _ 10 _ _ HRc.out; have q11 := frozen_of_row _ _ 11 _ _ HRc.out; have q12 := frozen_of_row _ _ 12 _ _ HRc.out))
  all_goals
    go_wp2
    exact bodyPost_ret (results_cell_row Tryz.results16 _ _ w.heap.size 34 _ (0, 0) _ rfl (set_thirteen HRc.out) Tryz.underlying34 rfl (by kernel_rfl)) rfl ⟨⟨op, b, m, r, n, l, m2, r2, n2, l2, j⟩, _, 0, rfl, HQ.out, below_thirteen (Nat.le_refl _) HBc.out⟩
end Go.Proofs.YtodjccipfonaiaaGreatDoor
