/- HexRead of the specification. -/
import Derived.Test.YtnhehdobpibgkaaGreatDoorRows
import Derived.WalkKit
import Derived.WalkSpells
import Derived.WalkLawsBesides
import Derived.Outline
import Derived.RegionTactic
import Derived.BigRegion
import Derived.Deep.RegionHeld3
import Derived.Deep.RegionLaw
import Derived.Deep.AppendLies
import Derived.Test.YtnhehdobpibgkaaGreatDoorBun0
import Derived.Test.YtnhehdobpibgkaaGreatDoorBun2
import Derived.Test.YtnhehdobpibgkaaGreatDoorBun11
import Derived.Test.YtnhehdobpibgkaaGreatDoorBun1
import Derived.Test.YtnhehdobpibgkaaGreatDoorBun13
import Derived.Test.YtnhehdobpibgkaaGreatDoorHexRPZq
import Derived.Test.YtnhehdobpibgkaaGreatDoorBun19
namespace Go.Proofs.YtnhehdobpibgkaaGreatDoor
open Go.RowKit
set_option linter.unusedVariables false

def wB (b : List Int) : List Int := (List.range ((b.length - 5) / 2)).map fun q => b.getD (4 + 2 * q) 0 + 256 * b.getD (4 + 2 * q + 1) 0
def spW : List (List UInt8) → Option (List Int)
  | [] => some []
  | l :: r => match lineB (textL l) with
    | none => none
    | some b => (spW r).map fun W => wB b ++ W
def spB : List (List UInt8) → Int
  | [] => 0
  | l :: _ => match lineB (textL l) with
    | none => 0
    | some b => 256 * b.getD 1 0 + b.getD 2 0
theorem spW_snoc : ∀ (A : List (List UInt8)) (l : List UInt8) (R b : List Int), spW A = some R → lineB (textL l) = some b → spW (A ++ [l]) = some (R ++ wB b)
  | [], l, R, b, h, hb => by cases h; simp [spW, hb]
  | a :: A, l, R, b, h, hb => by
    rw [List.cons_append]
    unfold spW at *
    cases ha : lineB (textL a) with
    | none => rw [ha] at h; cases h
    | some c =>
      rw [ha] at h
      cases hA : spW A with
      | none => rw [hA] at h; cases h
      | some Q =>
        rw [hA] at h
        cases h
        simp only
        rw [spW_snoc A l Q b hA hb]
        simp
theorem spW_no : ∀ (A : List (List UInt8)) (l : List UInt8), l ∈ A → lineB (textL l) = none → spW A = none
  | a :: A, l, h, hn => by
    unfold spW
    rcases List.mem_cons.1 h with rfl | h
    · rw [hn]
    · rw [spW_no A l h hn]
      cases lineB (textL a) <;> rfl
theorem spB_more (A : List (List UInt8)) (l : List UInt8) (h : A ≠ []) : spB (A ++ [l]) = spB A := by
  match A, h with
  | a :: r, _ => rfl
theorem spB_cons (l : List UInt8) (r : List (List UInt8)) (b : List Int) (h : lineB (textL l) = some b) : spB (l :: r) = 256 * b.getD 1 0 + b.getD 2 0 := by
  show (match lineB (textL l) with | none => 0 | some b => 256 * b.getD 1 0 + b.getD 2 0) = _
  rw [h]
/- The lines that are read: all but the last two. -/
def bodyL (s : ByteArray) : List (List UInt8) := (splitL s.data.toList).take ((splitL s.data.toList).length - 2)
def spRes (s : ByteArray) : Int × List Int × Int := if 8000 < s.size then (0, [], 2) else match spW (bodyL s) with
  | none => (0, [], 3)
  | some W => if hexT (spB (bodyL s)) W = s then (spB (bodyL s), W, 0) else (0, [], 3)
theorem lineB_len {s : ByteArray} {b : List Int} (h : lineB s = some b) : 5 ≤ b.length ∧ 2 * b.length + 1 = s.size ∧ ∀ x ∈ b, 0 ≤ x ∧ x ≤ 255 := by
  unfold lineB at h
  split at h
  · cases h
  · rename_i hc
    obtain ⟨h1, h2⟩ := pairsD_bytes _ _ h
    have h3 : s.data.toList.length = s.size := (Lib.size_eq s).symm
    simp at h2
    refine ⟨by omega, by omega, h1⟩
theorem cell_setF {w : World} {b i g j : Nat} {z u : Value} (hne : g ≠ b) (h : w.cell? ⟨g, j, none⟩ = some u) : (w.setCell ⟨b, i, none⟩ z).drew.cell? ⟨g, j, none⟩ = some u := by
  show (w.setCell ⟨b, i, none⟩ z).cell? ⟨g, j, none⟩ = some u
  have e := Go.heap_setCell_other w ⟨b, i, none⟩ g z hne
  simp only [World.cell?] at *
  rw [e]; exact h
theorem cell_setF2 {w : World} {b i g j : Nat} {z u : Value} (hne : g ≠ b) (h : w.cell? ⟨g, j, none⟩ = some u) : (w.setCell ⟨b, i, none⟩ z).cell? ⟨g, j, none⟩ = some u := cell_setF hne h
theorem cell_setF3 {w : World} {b i g j : Nat} {z u : Value} (hne : g ≠ b) (h : w.cell? ⟨g, j, none⟩ = some u) : (w.drew.setCell ⟨b, i, none⟩ z).cell? ⟨g, j, none⟩ = some u := cell_setF2 (w := w.drew) hne h
theorem wrI (x : Int) (h : -1000000 ≤ x ∧ x ≤ 1000000) : IntKind.i64.wrap x = x := by rw [IntWalk.i64_left]; exact IntWalk.wrap64_in _ (by omega)
theorem below_moreB {B : Nat} {a w : World} (h : Below B a w) (o : Obj) (hB : B ≤ w.heap.size := by omega) : Below B a (w.alloc o) := h.alloc hB o
theorem cell_new {w : World} {o : Obj} {b i : Nat} (h : b < w.heap.size) : ((w.alloc o).drew).cell? ⟨b, i, none⟩ = w.cell? ⟨b, i, none⟩ := by
  show (w.alloc o).cell? ⟨b, i, none⟩ = _
  simp only [World.cell?]
  rw [Go.heap_alloc_old w o h]
theorem frozen_new {w : World} {o : Obj} {b i : Nat} (h : b < w.heap.size) : ((w.alloc o).drew).frozen? ⟨b, i, none⟩ = w.frozen? ⟨b, i, none⟩ := by
  show (w.alloc o).frozen? ⟨b, i, none⟩ = _
  simp only [World.frozen?]
  rw [Go.heap_alloc_old w o h]
theorem row_grown {w w' : World} {v u : Value} {b g j : Nat} {o : Obj} (h : ((w.alloc o).drew).grownBy w' v.ownBlock) (hne : v.ownBlock ≠ some g) (hg : g < w.heap.size) (hc : w.cell? ⟨g, j, none⟩ = some u) : w'.cell? ⟨g, j, none⟩ = some u := by
  have e : w'.heap[g]? = w.heap[g]? := (h.block g (by show g < (w.alloc o).heap.size; simp; omega) (fun e => hne e.symm)).trans (Go.heap_alloc_old w o hg)
  simp only [World.cell?] at *
  rw [e]; exact hc
theorem getD_at (b : List Int) (k : Nat) (h : k < b.length) : b.getD k 0 = b[k] := by simp [List.getD, h]
theorem wB_len (b : List Int) : (wB b).length = (b.length - 5) / 2 := by simp [wB]
set_option maxRecDepth 100000 in
set_option maxHeartbeats 4000000 in
theorem specHexRead_main (s : ByteArray) (w : World) (hs : s.size ≤ 8000) : Calls Tryz.prog 64 #[.string s] w fun e w' => (∃ v, e = .returned (.agg #[.int .i64 (spRes s).1, v, .int .i64 (spRes s).2.2]) ∧ OwnI w' w.heap.size v (spRes s).2.1) ∧ Below w.heap.size w w' := by
  have HRES : Hid (spRes s = match spW (bodyL s) with
    | none => (0, [], 3)
    | some W => if hexT (spB (bodyL s)) W = s then (spB (bodyL s), W, 0) else (0, [], 3)) := if_neg (by omega)
  obtain ⟨i0, hi, hz0, hz1, hz2⟩ := info_parts infoI
  go_enter Tryz.func64, Tryz.ntmps64
  go_wp2_with fail
  refine (split_spec s _ (by omega)).mono ?_
  rintro e x1 ⟨⟨v, rfl, ho⟩, hb⟩
  have HR1 : Hid (x1.heap[w.heap.size]? = _) := heap_keep (heap_more (heap_alloc_new w _) _) hb
  have HBD1 : Hid (x1.heap[w.heap.size + 1]? = _) := heap_keep (heap_new2 w _ _) hb
  have HB1 : Hid (Below w.heap.size w x1) := below_call (below_more (below_new _ _) _) hb
  have hx1 : w.heap.size + 2 ≤ x1.heap.size := by have := hb.size; simp at this; omega
  have hTl : (splitL s.data.toList).length ≤ 8001 := by
    have := splitL_len s.data.toList
    have h2 : s.data.toList.length = s.size := (Lib.size_eq s).symm
    omega
  have HTE : Hid (∀ x ∈ splitL s.data.toList, x.length ≤ 8000) := fun x hx => by
    have := splitL_each _ x hx
    have h2 : s.data.toList.length = s.size := (Lib.size_eq s).symm
    omega
  have HTP : Hid (0 < (splitL s.data.toList).length) := splitL_pos _
  have HBL : Hid (bodyL s = (splitL s.data.toList).take ((splitL s.data.toList).length - 2)) := rfl
  obtain ⟨a, cap, rfl, HTC⟩ : ∃ a cap, v = .slice a (splitL s.data.toList).length cap ∧ Hid (∀ k (h : k < (splitL s.data.toList).length), ∃ g, a = some ⟨g, 0, none⟩ ∧ x1.cell? ⟨g, k, none⟩ = some (.string (textL (splitL s.data.toList)[k]))) := by
    rcases ho.form with ⟨rfl, e⟩ | ⟨g, cap, cur, rfl, hB, hg, h4, h5, h6, h7⟩
    · have e' : splitL s.data.toList = [] := by simpa using e
      exact ⟨none, 0, by rw [e']; rfl, fun k h => by rw [e'] at h; simp at h⟩
    · refine ⟨_, cap, by rw [List.length_map], fun k h => ⟨g, rfl, ?_⟩⟩
      have := h7 k (by rw [List.length_map]; exact h)
      simp [World.cell?, hg, this]
  clear hb ho
  generalize splitL s.data.toList = T at *
  go_wp2
  go_loopw [6] (fun iv wr => ∃ (k : Nat) (b : Int) (v : Value) (R : List Int), k ≤ T.length - 2 ∧ iv = .int .i64 k ∧ R.length ≤ 4000 * k ∧ Hid (wr.heap[x1.heap.size]? = some (.cells #[.int .i64 b, v, .int .i64 0] 90 (0, 0))) ∧ Hid (OwnI wr (x1.heap.size + 1) v R) ∧ Hid (spW (T.take k) = some R) ∧ Hid (b = spB (T.take k)) ∧ Hid (Below x1.heap.size x1 wr)) (fun iv _ => T.length - (intOf iv).toNat)
  case atStart => exact ⟨0, 0, _, [], by omega, rfl, by simp, heap_alloc_new _ _, OwnI.nil _ _, rfl, rfl, below_new _ _⟩
  case round =>
    obtain ⟨k, b0, v, R, hk, rfl, hR, HG, HO, HW, HBB, HB⟩ := hrel
    have hsz := HB.out.size
    have hgl := heap_lt HG.out
    by_cases hlt : k < T.length - 2
    · have hlt2 : (k : Int) < (T.length : Int) - 2 := by omega
      have hltT : k < T.length := by omega
      obtain ⟨g, rfl, hc⟩ := HTC.out k hltT
      have hck : wr.cell? ⟨g, k, none⟩ = some (.string (textL T[k])) := (HB.out.cell (p := ⟨g, k, none⟩) (World.block_lt_of_cell? _ _ hc)).trans hc
      clear hc
      have hts : (textL T[k]).size ≤ 8000 := by have := HTE.out _ (List.getElem_mem hltT); show T[k].toArray.size ≤ _; simpa using this
      have HMEM : Hid (T[k] ∈ bodyL s) := by
        show _ ∈ _
        rw [HBL.out]
        exact List.mem_take_iff_getElem.2 ⟨k, by omega, rfl⟩
      have HTK : Hid (T.take (k + 1) = T.take k ++ [T[k]]) := by show _ = _; rw [List.take_succ_eq_append_getElem hltT]
      generalize T[k] = tk at *
      have hi0 : (0 : Int) ≤ (k : Int) := by omega
      have hi1 : (k : Int) < (T.length : Int) := by omega
      go_wp2_with fail
      refine (lineB_spec (textL tk) _ (by omega)).mono ?_
      rintro e y ⟨hby, hb⟩
      have HBy : Hid (Below x1.heap.size x1 y) := HB.out.trans (hb.mono (by omega))
      have HGy : Hid (y.heap[x1.heap.size]? = some (.cells #[.int .i64 b0, v, .int .i64 0] 90 (0, 0))) := heap_keep HG.out hb
      have HOy : Hid (OwnI y (x1.heap.size + 1) v R) := HO.out.stays hb
      have hvl : ∀ q, v.ownBlock = some q → q < wr.heap.size := fun q hq => (HO.out.lt q hq).2
      have HVL : Hid (∀ q, v.ownBlock = some q → q < wr.heap.size) := hvl
      have hszy := hb.size
      clear hb hvl
      rcases hby with ⟨hn, rfl⟩ | ⟨br, v2, hs2, rfl, ho2⟩
      · have HNO : Hid (spRes s = (0, [], 3)) := by show _ = _; rw [HRES.out, spW_no _ _ HMEM.out hn]
        have HRy : Hid (y.heap[w.heap.size]? = _) := (HBy.out.block _ (by omega)).trans HR1.out
        have HDy : Hid (y.heap[w.heap.size + 1]? = _) := (HBy.out.block _ (by omega)).trans HBD1.out
        obtain ⟨c0, c1, c2, f0, f1, f2⟩ := three_cf HRy.out
        obtain ⟨d0, d1, d2, _, _, _⟩ := three_cf HDy.out
        have hzy := heap_lt HRy.out
        clear hn
        go_wp2
        exact bodyPost_ret (results_cell_row Tryz.results64 _ _ w.heap.size 90 _ (0, 0) _ rfl (set_three0 HRy.out) Tryz.underlying90 rfl (by kernel_rfl)) rfl ⟨⟨_, by rw [HNO.out], by rw [HNO.out]; exact OwnI.nil _ _⟩, (((HB1.out.trans (HBy.out.mono HB1.out.size)).setCell (Nat.le_refl _) _).setCell (Nat.le_refl _) _).setCell (Nat.le_refl _) _⟩
      · obtain ⟨hb5, hbl, hbb⟩ := lineB_len hs2
        have HS2 : Hid (_ = _) := hs2
        obtain ⟨g2, cap2, rfl, hg2, hc2a, hc2b, hcell⟩ := ho2.some (by omega)
        have HC2 : Hid (∀ i (h : i < br.length), y.cell? ⟨g2, i, none⟩ = some (.int .i64 br[i])) := hcell
        unfold maxLen at hc2b
        have HBY : Hid (∀ x ∈ br, 0 ≤ x ∧ x ≤ 255) := hbb
        have hg2y : g2 < y.heap.size := World.block_lt_of_cell? _ _ (hcell 0 (by omega))
        clear ho2 hcell hs2 hbb
        by_cases hk0 : k = 0
        · subst hk0
          have e1 := HC2.out 1 (by omega)
          have e2 := HC2.out 2 (by omega)
          have HE1 : Hid (_ = _) := getD_at br 1 (by omega)
          have HE2 : Hid (_ = _) := getD_at br 2 (by omega)
          have hq1 := HBY.out _ (List.getElem_mem (show 1 < br.length by omega))
          have hq2 := HBY.out _ (List.getElem_mem (show 2 < br.length by omega))
          generalize br[1] = y1 at *
          generalize br[2] = y2 at *
          obtain ⟨c0, c1, c2, f0, f1, f2⟩ := three_cf HGy.out
          have hzy := heap_lt HGy.out
          have hq3 : (1 : Int) < (br.length : Int) := by omega
          have hq4 : (2 : Int) < (br.length : Int) := by omega
          go_wp2_with fail
          have hw1 := wrI (256 * y1) (by omega)
          have hw2 := wrI (256 * y1 + y2) (by omega)
          have HNE : Hid (g2 ≠ x1.heap.size) := by show _ ≠ _; omega
          have hne1 : g2 ≠ x1.heap.size := HNE.out
          have hne2 : x1.heap.size ≠ g2 := HNE.out.symm
          have E1 : Hid (_ = _) := e1
          have E2 : Hid (_ = _) := e2
          go_region_held3 (fun z => z.cell? ⟨g2, 1, none⟩ = some (.int .i64 y1) ∧ z.cell? ⟨g2, 2, none⟩ = some (.int .i64 y2)) (first | go_keep | exact ⟨cell_setF HNE.out E1.out, cell_setF HNE.out E2.out⟩ | exact ⟨cell_setF2 HNE.out E1.out, cell_setF2 HNE.out E2.out⟩ | exact ⟨cell_setF3 HNE.out E1.out, cell_setF3 HNE.out E2.out⟩ | (trace_state; fail)) (fail)
          have HBASE : Hid (256 * y1 + y2 = spB (T.take (0 + 1))) := by
            show _ = _
            rw [HTK.out]
            show _ = spB ([] ++ [tk])
            rw [List.nil_append, spB_cons _ _ _ HS2.out, HE1.out, HE2.out]
          go_wp2
          go_loopw [9] (fun pv z => ∃ (q p : Nat) (Q : List Int) (v' : Value), pv = .int .i64 p ∧ p ≤ br.length + 1 ∧ Hid (p = 4 + 2 * q) ∧ q ≤ (br.length - 5) / 2 ∧ Q.length ≤ R.length + q ∧ Hid (Q = R ++ (List.range q).map fun q => br.getD (4 + 2 * q) 0 + 256 * br.getD (4 + 2 * q + 1) 0) ∧ Hid (z.heap[x1.heap.size]? = some (.cells #[.int .i64 (256 * y1 + y2), v', .int .i64 0] 90 (0, 0))) ∧ Hid (OwnI z (x1.heap.size + 1) v' Q) ∧ Hid (v'.ownBlock ≠ some g2) ∧ Hid (∀ i (h : i < br.length), z.cell? ⟨g2, i, none⟩ = some (.int .i64 br[i])) ∧ g2 < z.heap.size ∧ Hid (Below x1.heap.size x1 z)) (fun pv _ => br.length + 4 - (intOf pv).toNat)
          case atStart => exact ⟨0, 4, R, v, rfl, by omega, rfl, by omega, by omega, by show _ = _; simp, heap_drewn (heap_set HGy.out 0 _), own_setC HOy.out (by omega), fun h => by have := HVL.out g2 h; omega, fun i h => cell_setF HNE.out (HC2.out i h), by simp; omega, (HBy.out.setCell (Nat.le_refl _) _).drew⟩
          case round =>
            obtain ⟨q, p, Q, v', rfl, hp, HP, hq, hQ, HQ, HGz, HOz, HNz, HCz, hg2z, HBz⟩ := hrel
            have hszz := HBz.out.size
            have hgz := heap_lt HGz.out
            by_cases hpl : p + 2 < br.length
            · have hpl' : (p : Int) + 2 < (br.length : Int) := by omega
              have e1 := HCz.out p (by omega)
              have e2 := HCz.out (p + 1) (by omega)
              have HE1 : Hid (_ = _) := getD_at br p (by omega)
              have HE2 : Hid (_ = _) := getD_at br (p + 1) (by omega)
              obtain ⟨u0, u1⟩ := HBY.out _ (List.getElem_mem (show p < br.length by omega))
              obtain ⟨u2, u3⟩ := HBY.out _ (List.getElem_mem (show p + 1 < br.length by omega))
              generalize br[p] = y3 at *
              generalize br[p + 1] = y4 at *
              obtain ⟨c0, c1, c2, f0, f1, f2⟩ := three_cf HGz.out
              have hp0 : (0 : Int) ≤ (p : Int) := by omega
              have hp1 : (p : Int) < (br.length : Int) := by omega
              have hw1 := wrI (256 * y4) (by omega)
              have hw2 := wrI (y3 + 256 * y4) (by omega)
              have hne1 : g2 ≠ x1.heap.size := by omega
              have hne2 : x1.heap.size ≠ g2 := by omega
              go_wp2_with fail
              obtain ⟨p1, hp1e⟩ : ∃ p1 : Nat, p + 1 = p1 := ⟨_, rfl⟩
              rw [hp1e] at e2
              have hP1 : (p : Int) + 1 = (p1 : Int) := by omega
              have hp2 : (p1 : Int) < (br.length : Int) := by omega
              have hp3 : (0 : Int) ≤ (p1 : Int) := by omega
              have HQ1 : Hid (Q.length + 1 ≤ maxLen) := by show _ ≤ _; unfold maxLen; omega
              have HQ2 : Hid ((Q.length + 1) * 8 ≤ 140737488355328) := by show _ ≤ _; omega
              have HQ3 : Hid (x1.heap.size + 1 ≤ wr.heap.size) := by show _ ≤ _; omega
              have HG2 : Hid (g2 < wr.heap.size) := hg2z
              have HGZ : Hid (x1.heap.size < wr.heap.size) := hgz
              have C1 : Hid (_ = _) := c1
              have F1 : Hid (_ = _) := f1
              have HNX : Hid (v'.ownBlock ≠ some x1.heap.size) := fun h => by have := (HOz.out.lt _ h).1; omega
              have E1 : Hid (_ = _) := e1
              have E2 : Hid (_ = _) := e2
              have HP1E : Hid (_ = _) := hp1e
              have hw3 : IntKind.i64.wrap (p1 : Int) = (p1 : Int) := by rw [IntWalk.i64_left]; exact IntWalk.wrap64_in _ (by omega)
              have hw4 : wrap64 (p1 : Int) = (p1 : Int) := by rw [← IntWalk.i64_left]; exact hw3
              go_region_law (first
                | (refine step_append_lies _ (by rfl) _ _ _ (by rfl) (x1.heap.size + 1) 2 i0 (.int .i64 0) 1 8 Tryz.underlying88 hi hz0 hz1 hz2 rfl (by omega) _ Q.length (cellsI Q) (by rfl) (OwnI.drew (HOz.out.alloc _)) ⟨_, 0, none⟩ 1 1 [.int .i64 (y3 + 256 * y4)] (by rfl) (by rfl) (World.news_of_block (cs := #[.int .i64 (y3 + 256 * y4)]) (t := 2) (fr := (0, 0)) (heap_alloc_new _ _)) (by simp [Value.oneCell']) (by decide) HQ1.out HQ2.out (Nat.le_trans HQ3.out (by simp)) _ rfl ?_; intro gg capz z3 hown1 hgrow hat hltz; have c1' := C1.out; have f1' := F1.out; have k1 : z3.cell? ⟨x1.heap.size, 1, none⟩ = some v' := (hgrow.cell_far ⟨x1.heap.size, 1, none⟩ (Nat.lt_of_lt_of_le HGZ.out (by simp)) (Ne.symm HNX.out)).trans ((cell_new HGZ.out).trans c1'); have k2 : z3.frozen? ⟨x1.heap.size, 1, none⟩ = false := (hgrow.frozen_far ⟨x1.heap.size, 1, none⟩ (Nat.lt_of_lt_of_le HGZ.out (by simp)) (Ne.symm HNX.out)).trans ((frozen_new HGZ.out).trans f1'); clear c1' f1'))
              all_goals
                have HQZ : Hid (OwnI z3 (x1.heap.size + 1) (.slice (some ⟨gg, 0, none⟩) (Q.length + 1) capz) (Q ++ [y3 + 256 * y4])) := OwnI.moreL (M := [y3 + 256 * y4]) hown1
                have HGZ3 : Hid (z3.heap[x1.heap.size]? = some (.cells #[.int .i64 (256 * y1 + y2), v', .int .i64 0] 90 (0, 0))) := (hgrow.block x1.heap.size (Nat.lt_of_lt_of_le HGZ.out (by simp)) (Ne.symm HNX.out)).trans ((Go.heap_alloc_old wr _ HGZ.out).trans HGz.out)
                have HNN : Hid ((Value.slice (some ⟨gg, 0, none⟩) (Q.length + 1) capz).ownBlock ≠ some g2) := fun h => by
                  rcases hat with h' | h'
                  · have e : some gg = some g2 := h
                    rw [e] at h'
                    exact HNz.out h'
                  · have e : gg = g2 := Option.some.inj h
                    have h2 := HG2.out
                    simp at h'
                    omega
                have HROWZ : Hid (∀ i (h : i < br.length), z3.cell? ⟨g2, i, none⟩ = some (.int .i64 br[i])) := fun i h => (hgrow.cell_far ⟨g2, i, none⟩ (Nat.lt_of_lt_of_le HG2.out (by simp)) (Ne.symm HNz.out)).trans ((cell_new HG2.out).trans (HCz.out i h))
                have HBZ3 : Hid (Below x1.heap.size x1 z3) := ((below_moreB HBz.out _ (Nat.le_of_lt HGZ.out)).drew).grown hgrow (Nat.le_trans (Nat.le_of_lt HGZ.out) (by simp)) (fun q hq => Nat.le_of_succ_le (HOz.out.lt q hq).1)
                have HSZ : Hid (g2 < z3.heap.size) := Nat.lt_of_lt_of_le HG2.out (Nat.le_trans (by simp) hgrow.size)
                clear hw3 hw4 hP1 hown1 hgrow hat
                go_wp2
                go_roundw
                case rel => exact ⟨q + 1, p + 2, Q ++ [y3 + 256 * y4], _, by go_num, by omega, by have := HP.out; show _ = _; omega, by have := HP.out; omega, by simp; omega, by show _ = _; rw [HQ.out, List.range_succ, List.map_append, List.map_cons, List.map_nil, ← HP.out, HE1.out, HE2.out]; simp, heap_drewn (heap_set HGZ3.out 1 _), own_setC HQZ.out (by omega), HNN.out, fun i h => cell_setF HNE.out (HROWZ.out i h), by have := HSZ.out; simpa using this, (HBZ3.out.setCell (Nat.le_refl _) _)⟩
                case measure => simp [intOf]; omega
            · have HQW : Hid (Q = R ++ wB br) := by
                show _ = _
                have h1 := HP.out
                rw [HQ.out]
                unfold wB
                rw [show q = (br.length - 5) / 2 by omega]
              have hpl' : ¬ (p : Int) + 2 < (br.length : Int) := by omega
              have hwl := wB_len br
              go_wp2
              go_roundw
              case rel => exact ⟨0 + 1, 256 * y1 + y2, v', Q, by omega, by go_num, by omega, HGz.out, HOz.out, by show _ = _; rw [HTK.out, HQW.out]; exact spW_snoc _ _ _ _ HW.out HS2.out, HBASE.out, HBz.out⟩
              case measure => simp [intOf]; omega
        · have hk0' : ((k : Int) == 0) = false := by rw [beq_eq_false_iff_ne]; omega
          have HNE : Hid (g2 ≠ x1.heap.size) := by show _ ≠ _; omega
          have HBASE : Hid (b0 = spB (T.take (k + 1))) := by
            show _ = _
            rw [HTK.out, spB_more _ _ (by intro h; have := congrArg List.length h; rw [List.length_take, List.length_nil] at this; omega)]
            exact HBB.out
          go_wp2
          go_loopw [9] (fun pv z => ∃ (q p : Nat) (Q : List Int) (v' : Value), pv = .int .i64 p ∧ p ≤ br.length + 1 ∧ Hid (p = 4 + 2 * q) ∧ q ≤ (br.length - 5) / 2 ∧ Q.length ≤ R.length + q ∧ Hid (Q = R ++ (List.range q).map fun q => br.getD (4 + 2 * q) 0 + 256 * br.getD (4 + 2 * q + 1) 0) ∧ Hid (z.heap[x1.heap.size]? = some (.cells #[.int .i64 (b0), v', .int .i64 0] 90 (0, 0))) ∧ Hid (OwnI z (x1.heap.size + 1) v' Q) ∧ Hid (v'.ownBlock ≠ some g2) ∧ Hid (∀ i (h : i < br.length), z.cell? ⟨g2, i, none⟩ = some (.int .i64 br[i])) ∧ g2 < z.heap.size ∧ Hid (Below x1.heap.size x1 z)) (fun pv _ => br.length + 4 - (intOf pv).toNat)
          case atStart => exact ⟨0, 4, R, v, rfl, by omega, rfl, by omega, by omega, by show _ = _; simp, HGy.out, HOy.out, fun h => by have := HVL.out g2 h; omega, HC2.out, hg2y, HBy.out⟩
          case round =>
            obtain ⟨q, p, Q, v', rfl, hp, HP, hq, hQ, HQ, HGz, HOz, HNz, HCz, hg2z, HBz⟩ := hrel
            have hszz := HBz.out.size
            have hgz := heap_lt HGz.out
            by_cases hpl : p + 2 < br.length
            · have hpl' : (p : Int) + 2 < (br.length : Int) := by omega
              have e1 := HCz.out p (by omega)
              have e2 := HCz.out (p + 1) (by omega)
              have HE1 : Hid (_ = _) := getD_at br p (by omega)
              have HE2 : Hid (_ = _) := getD_at br (p + 1) (by omega)
              obtain ⟨u0, u1⟩ := HBY.out _ (List.getElem_mem (show p < br.length by omega))
              obtain ⟨u2, u3⟩ := HBY.out _ (List.getElem_mem (show p + 1 < br.length by omega))
              generalize br[p] = y3 at *
              generalize br[p + 1] = y4 at *
              obtain ⟨c0, c1, c2, f0, f1, f2⟩ := three_cf HGz.out
              have hp0 : (0 : Int) ≤ (p : Int) := by omega
              have hp1 : (p : Int) < (br.length : Int) := by omega
              have hw1 := wrI (256 * y4) (by omega)
              have hw2 := wrI (y3 + 256 * y4) (by omega)
              have hne1 : g2 ≠ x1.heap.size := by omega
              have hne2 : x1.heap.size ≠ g2 := by omega
              go_wp2_with fail
              obtain ⟨p1, hp1e⟩ : ∃ p1 : Nat, p + 1 = p1 := ⟨_, rfl⟩
              rw [hp1e] at e2
              have hP1 : (p : Int) + 1 = (p1 : Int) := by omega
              have hp2 : (p1 : Int) < (br.length : Int) := by omega
              have hp3 : (0 : Int) ≤ (p1 : Int) := by omega
              have HQ1 : Hid (Q.length + 1 ≤ maxLen) := by show _ ≤ _; unfold maxLen; omega
              have HQ2 : Hid ((Q.length + 1) * 8 ≤ 140737488355328) := by show _ ≤ _; omega
              have HQ3 : Hid (x1.heap.size + 1 ≤ wr.heap.size) := by show _ ≤ _; omega
              have HG2 : Hid (g2 < wr.heap.size) := hg2z
              have HGZ : Hid (x1.heap.size < wr.heap.size) := hgz
              have C1 : Hid (_ = _) := c1
              have F1 : Hid (_ = _) := f1
              have HNX : Hid (v'.ownBlock ≠ some x1.heap.size) := fun h => by have := (HOz.out.lt _ h).1; omega
              have E1 : Hid (_ = _) := e1
              have E2 : Hid (_ = _) := e2
              have HP1E : Hid (_ = _) := hp1e
              have hw3 : IntKind.i64.wrap (p1 : Int) = (p1 : Int) := by rw [IntWalk.i64_left]; exact IntWalk.wrap64_in _ (by omega)
              have hw4 : wrap64 (p1 : Int) = (p1 : Int) := by rw [← IntWalk.i64_left]; exact hw3
              go_region_law (first
                | (refine step_append_lies _ (by rfl) _ _ _ (by rfl) (x1.heap.size + 1) 2 i0 (.int .i64 0) 1 8 Tryz.underlying88 hi hz0 hz1 hz2 rfl (by omega) _ Q.length (cellsI Q) (by rfl) (OwnI.drew (HOz.out.alloc _)) ⟨_, 0, none⟩ 1 1 [.int .i64 (y3 + 256 * y4)] (by rfl) (by rfl) (World.news_of_block (cs := #[.int .i64 (y3 + 256 * y4)]) (t := 2) (fr := (0, 0)) (heap_alloc_new _ _)) (by simp [Value.oneCell']) (by decide) HQ1.out HQ2.out (Nat.le_trans HQ3.out (by simp)) _ rfl ?_; intro gg capz z3 hown1 hgrow hat hltz; have c1' := C1.out; have f1' := F1.out; have k1 : z3.cell? ⟨x1.heap.size, 1, none⟩ = some v' := (hgrow.cell_far ⟨x1.heap.size, 1, none⟩ (Nat.lt_of_lt_of_le HGZ.out (by simp)) (Ne.symm HNX.out)).trans ((cell_new HGZ.out).trans c1'); have k2 : z3.frozen? ⟨x1.heap.size, 1, none⟩ = false := (hgrow.frozen_far ⟨x1.heap.size, 1, none⟩ (Nat.lt_of_lt_of_le HGZ.out (by simp)) (Ne.symm HNX.out)).trans ((frozen_new HGZ.out).trans f1'); clear c1' f1'))
              all_goals
                have HQZ : Hid (OwnI z3 (x1.heap.size + 1) (.slice (some ⟨gg, 0, none⟩) (Q.length + 1) capz) (Q ++ [y3 + 256 * y4])) := OwnI.moreL (M := [y3 + 256 * y4]) hown1
                have HGZ3 : Hid (z3.heap[x1.heap.size]? = some (.cells #[.int .i64 (b0), v', .int .i64 0] 90 (0, 0))) := (hgrow.block x1.heap.size (Nat.lt_of_lt_of_le HGZ.out (by simp)) (Ne.symm HNX.out)).trans ((Go.heap_alloc_old wr _ HGZ.out).trans HGz.out)
                have HNN : Hid ((Value.slice (some ⟨gg, 0, none⟩) (Q.length + 1) capz).ownBlock ≠ some g2) := fun h => by
                  rcases hat with h' | h'
                  · have e : some gg = some g2 := h
                    rw [e] at h'
                    exact HNz.out h'
                  · have e : gg = g2 := Option.some.inj h
                    have h2 := HG2.out
                    simp at h'
                    omega
                have HROWZ : Hid (∀ i (h : i < br.length), z3.cell? ⟨g2, i, none⟩ = some (.int .i64 br[i])) := fun i h => (hgrow.cell_far ⟨g2, i, none⟩ (Nat.lt_of_lt_of_le HG2.out (by simp)) (Ne.symm HNz.out)).trans ((cell_new HG2.out).trans (HCz.out i h))
                have HBZ3 : Hid (Below x1.heap.size x1 z3) := ((below_moreB HBz.out _ (Nat.le_of_lt HGZ.out)).drew).grown hgrow (Nat.le_trans (Nat.le_of_lt HGZ.out) (by simp)) (fun q hq => Nat.le_of_succ_le (HOz.out.lt q hq).1)
                have HSZ : Hid (g2 < z3.heap.size) := Nat.lt_of_lt_of_le HG2.out (Nat.le_trans (by simp) hgrow.size)
                clear hw3 hw4 hP1 hown1 hgrow hat
                go_wp2
                go_roundw
                case rel => exact ⟨q + 1, p + 2, Q ++ [y3 + 256 * y4], _, by go_num, by omega, by have := HP.out; show _ = _; omega, by have := HP.out; omega, by simp; omega, by show _ = _; rw [HQ.out, List.range_succ, List.map_append, List.map_cons, List.map_nil, ← HP.out, HE1.out, HE2.out]; simp, heap_drewn (heap_set HGZ3.out 1 _), own_setC HQZ.out (by omega), HNN.out, fun i h => cell_setF HNE.out (HROWZ.out i h), by have := HSZ.out; simpa using this, (HBZ3.out.setCell (Nat.le_refl _) _)⟩
                case measure => simp [intOf]; omega
            · have HQW : Hid (Q = R ++ wB br) := by
                show _ = _
                have h1 := HP.out
                rw [HQ.out]
                unfold wB
                rw [show q = (br.length - 5) / 2 by omega]
              have hpl' : ¬ (p : Int) + 2 < (br.length : Int) := by omega
              have hwl := wB_len br
              go_wp2
              go_roundw
              case rel => exact ⟨k + 1, b0, v', Q, by omega, by go_num, by omega, HGz.out, HOz.out, by show _ = _; rw [HTK.out, HQW.out]; exact spW_snoc _ _ _ _ HW.out HS2.out, HBASE.out, HBz.out⟩
              case measure => simp [intOf]; omega
    · have HTT : Hid (T.take k = bodyL s) := by
        show _ = _
        rw [HBL.out]
        have := HTP.out
        rw [show k = T.length - 2 by omega]
      have hnl : ¬ (k : Int) < (T.length : Int) - 2 := by omega
      obtain ⟨a2, cap2, rfl, hread, hc1, hc2⟩ := own_readI HO.out
      have HRR : Hid (ReadI wr a2 R) := hread
      have HRw : Hid (wr.heap[w.heap.size]? = _) := (HB.out.block _ (by omega)).trans HR1.out
      have HDw : Hid (wr.heap[w.heap.size + 1]? = _) := (HB.out.block _ (by omega)).trans HBD1.out
      have HBw : Hid (Below w.heap.size w wr) := HB1.out.trans (HB.out.mono HB1.out.size)
      have HRS2 : Hid (spRes s = if hexT b0 R = s then (b0, R, 0) else (0, [], 3)) := by
        show _ = _
        have h1 := HW.out
        rw [HTT.out] at h1
        have h2 := HBB.out
        rw [HTT.out] at h2
        rw [HRES.out, h1, h2]
      obtain ⟨c0, c1, c2, f0, f1, f2⟩ := three_cf HG.out
      clear hread
      go_wp2_with fail
      refine (specHex_any b0 a2 R cap2 _ HRR.out (by omega)).mono ?_
      rintro e y ⟨rfl, hb⟩
      have HOy : Hid (OwnI y (x1.heap.size + 1) _ R) := HO.out.stays hb
      have HGy : Hid (y.heap[x1.heap.size]? = _) := heap_keep HG.out hb
      have HRy : Hid (y.heap[w.heap.size]? = _) := heap_keep HRw.out hb
      have HDy : Hid (y.heap[w.heap.size + 1]? = _) := heap_keep HDw.out hb
      have HBy : Hid (Below w.heap.size w y) := below_call HBw.out hb
      clear hb c0 c1 c2 f0 f1 f2
      obtain ⟨c0, c1, c2, f0, f1, f2⟩ := three_cf HRy.out
      have hzy := heap_lt HRy.out
      by_cases hok : hexT b0 R = s
      · have HE : Hid (spRes s = (b0, R, 0)) := by show _ = _; rw [HRS2.out, if_pos hok]
        rw [hok]
        have htt : (s.toList == s.toList) = true := by simp
        obtain ⟨d0, d1, d2, _, _, _⟩ := three_cf HGy.out
        clear hok
        go_wp2
        exact bodyPost_ret (results_cell_row Tryz.results64 _ _ w.heap.size 90 _ (0, 0) _ rfl (set_three0 HRy.out) Tryz.underlying90 rfl (by kernel_rfl)) rfl ⟨⟨_, by rw [HE.out], by rw [HE.out]; exact (own_setC (own_setC (own_setC HOy.out (by omega)) (by omega)) (by omega)).low (by omega)⟩, ((HBy.out.setCell (Nat.le_refl _) _).setCell (Nat.le_refl _) _).setCell (Nat.le_refl _) _⟩
      · have HE : Hid (spRes s = (0, [], 3)) := by show _ = _; rw [HRS2.out, if_neg hok]
        have htt := text_ne' hok
        obtain ⟨d0, d1, d2, _, _, _⟩ := three_cf HDy.out
        clear hok
        go_wp2
        exact bodyPost_ret (results_cell_row Tryz.results64 _ _ w.heap.size 90 _ (0, 0) _ rfl (set_three0 HRy.out) Tryz.underlying90 rfl (by kernel_rfl)) rfl ⟨⟨_, by rw [HE.out], by rw [HE.out]; exact OwnI.nil _ _⟩, ((HBy.out.setCell (Nat.le_refl _) _).setCell (Nat.le_refl _) _).setCell (Nat.le_refl _) _⟩
set_option maxRecDepth 100000 in
set_option maxHeartbeats 1600000 in
theorem specHexRead_any (s : ByteArray) (w : World) (hs : s.size ≤ maxLen) : Calls Tryz.prog 64 #[.string s] w fun e w' => (∃ v, e = .returned (.agg #[.int .i64 (spRes s).1, v, .int .i64 (spRes s).2.2]) ∧ OwnI w' w.heap.size v (spRes s).2.1) ∧ Below w.heap.size w w' := by
  by_cases hbig : 8000 < s.size
  · have HE : Hid (spRes s = (0, [], 2)) := if_pos hbig
    unfold maxLen at hs
    go_enter Tryz.func64, Tryz.ntmps64
    go_wp2
    exact bodyPost_ret (results_cell_row Tryz.results64 _ _ w.heap.size 90 _ (0, 0) _ rfl (heap_alloc_new _ _) Tryz.underlying90 rfl (by kernel_rfl)) rfl ⟨⟨_, by rw [HE.out], by rw [HE.out]; exact OwnI.nil _ _⟩, below_new _ _⟩
  · exact specHexRead_main s w (by omega)
end Go.Proofs.YtnhehdobpibgkaaGreatDoor
