/- HexRead of the program. -/
import Derived.Test.YtnhehdobpibgkaaGreatDoorRows
import Derived.WalkKit
import Derived.WalkSpells
import Derived.WalkLawsBesides
import Derived.Test.YtnhehdobpibgkaaGreatDoorBun0
import Derived.Test.YtnhehdobpibgkaaGreatDoorBun2
import Derived.Test.YtnhehdobpibgkaaGreatDoorBun11
import Derived.Test.YtnhehdobpibgkaaGreatDoorBun1
import Derived.Test.YtnhehdobpibgkaaGreatDoorHexTZq
import Derived.Test.YtnhehdobpibgkaaGreatDoorNumHZq
import Derived.Test.YtnhehdobpibgkaaGreatDoorBun17
namespace Go.Proofs.YtnhehdobpibgkaaGreatDoor
open Go.RowKit
set_option linter.unusedVariables false

theorem own_readI {w : World} {B : Nat} {v : Value} {L : List Int} (h : OwnI w B v L) : ∃ a cap, v = .slice a L.length cap ∧ ReadI w a L ∧ L.length ≤ cap ∧ cap ≤ maxLen := by
  rcases h.form with ⟨rfl, rfl⟩ | ⟨g, cap, cur, rfl, hB, hg, h4, h5, h6, h7⟩
  · exact ⟨none, 0, rfl, fun h => by simp at h, Nat.le_refl _, by unfold maxLen; omega⟩
  · refine ⟨_, cap, rfl, fun hl => ⟨_, rfl, heap_lt hg, fun i hi => ?_⟩, h4, h5⟩
    have e : (⟨g, 0, none⟩ : Addr).add i = ⟨g, i, none⟩ := by unfold Addr.add; split <;> simp_all
    rw [e]
    simp [World.cell?, hg, h7 i hi]
def rdW (l : List UInt8) : List Int := (linesL l).flatMap fun x => wordsOf (textL x)
def rdOk (s : ByteArray) : Bool := decide (hexT (baseT s) (rdW s.data.toList) = s)
def rdC (s : ByteArray) : Int := if 8000 < s.size then 2 else if rdOk s then 0 else 3
def rdL (s : ByteArray) : List Int := if 8000 < s.size then [] else if rdOk s then rdW s.data.toList else []
def rdB (s : ByteArray) : Int := if 8000 < s.size then 0 else if rdOk s then baseT s else 0
/- A row of numbers lies in a block of its own; another block may turn. -/
theorem own_keepB {w w' : World} {B : Nat} {v : Value} {L : List Int} {b : Nat} (h : OwnI w B v L) (hb : b < B) (hk : ∀ k, k ≠ b → w'.heap[k]? = w.heap[k]?) : OwnI w' B v L := by
  obtain ⟨h1, h2⟩ := h
  refine ⟨h1, ?_⟩
  rcases h2 with h2 | ⟨g, cap, cur, hv, hB, hg, rest⟩
  · exact .inl h2
  · exact .inr ⟨g, cap, cur, hv, hB, (hk g (by omega)).trans hg, rest⟩
theorem own_setC {w : World} {B : Nat} {v : Value} {L : List Int} {b i : Nat} {z : Value} (h : OwnI w B v L) (hb : b < B) : OwnI (w.setCell ⟨b, i, none⟩ z) B v L :=
  own_keepB h hb (fun k hk => Go.heap_setCell_other w ⟨b, i, none⟩ k z hk)
theorem flat_take (T : List (List UInt8)) (k : Nat) (h : k < T.length) : (T.take (k + 1)).flatMap (fun x => wordsOf (textL x)) = (T.take k).flatMap (fun x => wordsOf (textL x)) ++ wordsOf (textL T[k]) := by
  rw [List.take_succ_eq_append_getElem h, List.flatMap_append]; simp
theorem set_three0 {w : World} {g : Nat} {t : TypeId} {z0 z1 z2 a b c : Value} (h : w.heap[g]? = some (.cells #[z0, z1, z2] t (0, 0))) : (((w.setCell ⟨g, 0, none⟩ a).setCell ⟨g, 1, none⟩ b).setCell ⟨g, 2, none⟩ c).heap[g]? = some (.cells #[a, b, c] t (0, 0)) :=
  heap_set (heap_set (heap_set h 0 a) 1 b) 2 c
theorem three_cf {W : World} {B : Nat} {t : TypeId} {v0 v1 v2 : Value} (hR : W.heap[B]? = some (.cells #[v0, v1, v2] t (0, 0))) :
    W.cell? ⟨B, 0, none⟩ = some v0 ∧ W.cell? ⟨B, 1, none⟩ = some v1 ∧ W.cell? ⟨B, 2, none⟩ = some v2 ∧ W.frozen? ⟨B, 0, none⟩ = false ∧ W.frozen? ⟨B, 1, none⟩ = false ∧ W.frozen? ⟨B, 2, none⟩ = false := by
  refine ⟨?_, ?_, ?_, ?_, ?_, ?_⟩ <;> simp [World.cell?, World.frozen?, hR]
theorem text_ne' {s t : ByteArray} (h : ¬ s = t) : (s.toList == t.toList) = false := by
  rw [beq_eq_false_iff_ne]
  intro e
  apply h
  have : s.data.toList = t.data.toList := by rw [← Lib.toList_data, ← Lib.toList_data]; exact e
  exact ByteArray.ext (Array.toList_inj.1 this)
set_option maxRecDepth 100000 in
set_option maxHeartbeats 1600000 in
theorem implHexRead_any (s : ByteArray) (w : World) (hs : s.size ≤ maxLen) (hE : ErrV w) : Calls Tryz.prog 83 #[.string s] w fun e w' => (∃ v, e = .returned (.agg #[.int .i64 (rdB s), v, .int .i64 (rdC s)]) ∧ OwnI w' w.heap.size v (rdL s)) ∧ Below w.heap.size w w' := by
  unfold maxLen at hs
  by_cases hbig : 8000 < s.size
  · have HC : Hid (rdC s = 2) := if_pos hbig
    have HL : Hid (rdL s = []) := if_pos hbig
    have HBB : Hid (rdB s = 0) := if_pos hbig
    clear hE
    go_enter Tryz.func83, Tryz.ntmps83
    go_wp2
    exact bodyPost_ret (results_cell_row Tryz.results83 _ _ w.heap.size 90 _ (0, 0) _ rfl (heap_alloc_new _ _) Tryz.underlying90 rfl (by kernel_rfl)) rfl ⟨⟨_, by rw [HC.out, HBB.out], by rw [HL.out]; exact OwnI.nil _ _⟩, below_new _ _⟩
  · have HC : Hid (rdC s = if rdOk s then 0 else 3) := if_neg hbig
    have HL : Hid (rdL s = if rdOk s then rdW s.data.toList else []) := if_neg hbig
    have HBB : Hid (rdB s = if rdOk s then baseT s else 0) := if_neg hbig
    have HE : Hid (ErrV w) := hE
    clear hE
    go_enter Tryz.func83, Tryz.ntmps83
    go_wp2_with fail
    refine (baseOf_any s _ (by omega) (HE.out.alloc _)).mono ?_
    rintro e x1 ⟨rfl, hb⟩
    have HR1 : Hid (x1.heap[w.heap.size]? = _) := heap_keep (heap_alloc_new w _) hb
    have HB1 : Hid (Below w.heap.size w x1) := below_call (below_new _ _) hb
    clear hb
    go_wp2_with fail
    refine (linesOf_any s _ (by omega)).mono ?_
    rintro e x2 ⟨⟨v, rfl, ho⟩, hb⟩
    have HR2 : Hid (x2.heap[w.heap.size]? = _) := heap_keep HR1.out hb
    have HB2 : Hid (Below w.heap.size w x2) := below_call HB1.out hb
    have hTl : ((linesL s.data.toList).map textL).length ≤ 8001 := by
      rw [List.length_map]
      have := linesL_len s.data.toList
      have h2 : s.data.toList.length = s.size := (Lib.size_eq s).symm
      omega
    have HTE : Hid (∀ x ∈ linesL s.data.toList, x.length ≤ 8000) := fun x hx => by
      have := linesL_each _ x hx
      have h2 : s.data.toList.length = s.size := (Lib.size_eq s).symm
      omega
    have HRD : Hid (rdW s.data.toList = (linesL s.data.toList).flatMap fun x => wordsOf (textL x)) := rfl
    obtain ⟨a, cap, rfl, HTC⟩ : ∃ a cap, v = .slice a (linesL s.data.toList).length cap ∧ Hid (∀ k (h : k < (linesL s.data.toList).length), ∃ g, a = some ⟨g, 0, none⟩ ∧ x2.cell? ⟨g, k, none⟩ = some (.string (textL (linesL s.data.toList)[k]))) := by
      rcases ho.form with ⟨rfl, e⟩ | ⟨g, cap, cur, rfl, hB, hg, h4, h5, h6, h7⟩
      · have e' : linesL s.data.toList = [] := by simpa using e
        exact ⟨none, 0, by rw [e']; rfl, fun k h => by rw [e'] at h; simp at h⟩
      · refine ⟨_, cap, by rw [List.length_map], fun k h => ⟨g, rfl, ?_⟩⟩
        have := h7 k (by rw [List.length_map]; exact h)
        simp [World.cell?, hg, this]
    rw [List.length_map] at hTl
    clear hb ho HR1 HB1
    generalize linesL s.data.toList = T at *
    have hsz2 := HB2.out.size
    go_wp2
    go_loopw [4, 16] (fun v iv wr => ∃ (k : Nat) (R : List Int), k ≤ T.length ∧ iv = .int .i64 k ∧ R.length ≤ 3000 * k ∧ Hid (R = (T.take k).flatMap fun x => wordsOf (textL x)) ∧ Hid (OwnI wr x2.heap.size v R) ∧ Hid (Below x2.heap.size x2 wr)) (fun _ iv _ => T.length - (intOf iv).toNat)
    case atStart => exact ⟨0, [], by omega, rfl, by simp, rfl, OwnI.nil _ _, Below.refl _ _⟩
    case round =>
      obtain ⟨k, R, hk, rfl, hR, HRE, HO, HB⟩ := hrel
      have hsz := HB.out.size
      by_cases hlt : k < T.length
      · obtain ⟨g, rfl, hc⟩ := HTC.out k hlt
        have hck : wr.cell? ⟨g, k, none⟩ = some (.string (textL T[k])) := (HB.out.cell (p := ⟨g, k, none⟩) (World.block_lt_of_cell? _ _ hc)).trans hc
        clear hc
        have HF : Hid (_ = _) := flat_take T k hlt
        have hts : (textL T[k]).size ≤ 8000 := by have := HTE.out _ (List.getElem_mem hlt); show T[k].toArray.size ≤ _; simpa using this
        generalize textL T[k] = tk at *
        have hi0 : (0 : Int) ≤ (k : Int) := by omega
        have hi1 : (k : Int) < (T.length : Int) := by omega
        go_wp2_with fail
        refine (wordsOfRow_any tk _ hts (HE.out.below (below_call HB2.out HB.out))).mono ?_
        rintro e y ⟨⟨v2, rfl, ho⟩, hb⟩
        have HO1 : Hid (OwnI y x2.heap.size _ R) := HO.out.stays hb
        have HB3 : Hid (Below x2.heap.size x2 y) := below_call HB.out hb
        have hsz3 := HB3.out.size
        have hwl := wordsOf_len tk
        obtain ⟨v3, z, hap, ho3, hg3⟩ := append_rowsI HO1.out ho (by omega) (by omega) (by omega) 88
        have HO3 : Hid (OwnI z x2.heap.size v3 (R ++ wordsOf tk)) := ho3
        have HB4 : Hid (Below x2.heap.size x2 z) := HB3.out.grown hg3 (by omega) (fun q hq => (HO1.out.lt q hq).1)
        have HAP : Hid ((Builtin.append_ _ _ _).run _ _ = _) := hap
        clear ho ho3 hg3 hb hap
        go_wp2_with (at_builtin; refine wpList_append_run rfl (.tmp 20) (.tmp 22) 88 rfl _ _ _ _ rfl rfl HAP.out ?_)
        go_roundw
        case rel => exact ⟨k + 1, R ++ wordsOf tk, by omega, by go_num, by simp; omega, by show _ = _; rw [HF.out, HRE.out], HO3.out, HB4.out⟩
        case measure => simp [intOf]; omega
      · obtain rfl : k = T.length := by omega
        have HRW : Hid (R = rdW s.data.toList) := by show _ = _; rw [HRE.out, HRD.out, List.take_length]
        obtain ⟨a2, cap2, rfl, hread, hc1, hc2⟩ := own_readI HO.out
        have HRR : Hid (ReadI wr a2 R) := hread
        have HBW : Hid (Below w.heap.size w wr) := below_call HB2.out HB.out
        have HRR2 : Hid (wr.heap[w.heap.size]? = _) := heap_keep HR2.out HB.out
        clear hread
        go_wp2_with fail
        refine (implHex_any _ a2 R cap2 _ HRR.out (by omega) hc1 hc2).mono ?_
        rintro e y ⟨rfl, hb⟩
        have HOy : Hid (OwnI y (w.heap.size + 1) _ R) := (HO.out.stays hb).low (by have := HR2.out; have h3 := heap_lt this; omega)
        have HBy : Hid (Below w.heap.size w y) := below_call HBW.out hb
        have HRy : Hid (y.heap[w.heap.size]? = _) := heap_keep HRR2.out hb
        clear hb
        by_cases hok : hexT (baseT s) R = s
        · have HOK : Hid (rdOk s = true) := by show decide _ = true; rw [← HRW.out]; exact decide_eq_true hok
          rw [hok]
          have htt : (s.toList == s.toList) = true := by simp
          obtain ⟨c0, c1, c2, f0, f1, f2⟩ := three_cf HRy.out
          have hzy := heap_lt HRy.out
          go_wp2
          exact bodyPost_ret (results_cell_row Tryz.results83 _ _ w.heap.size 90 _ (0, 0) _ rfl (set_three0 HRy.out) Tryz.underlying90 rfl (by kernel_rfl)) rfl ⟨⟨_, by rw [HC.out, HBB.out, HOK.out]; rfl, by rw [HL.out, HOK.out, if_pos rfl, ← HRW.out]; exact (own_setC (own_setC (own_setC HOy.out (by omega)) (by omega)) (by omega)).low (by omega)⟩, ((HBy.out.setCell (Nat.le_refl _) _).setCell (Nat.le_refl _) _).setCell (Nat.le_refl _) _⟩
        · have HOK : Hid (rdOk s = false) := by show decide _ = false; rw [← HRW.out]; exact decide_eq_false hok
          have htt := text_ne' hok
          obtain ⟨c0, c1, c2, f0, f1, f2⟩ := three_cf HRy.out
          have hzy := heap_lt HRy.out
          go_wp2
          exact bodyPost_ret (results_cell_row Tryz.results83 _ _ w.heap.size 90 _ (0, 0) _ rfl (set_three0 HRy.out) Tryz.underlying90 rfl (by kernel_rfl)) rfl ⟨⟨_, by rw [HC.out, HBB.out, HOK.out]; rfl, by rw [HL.out, HOK.out]; exact OwnI.nil _ _⟩, ((HBy.out.setCell (Nat.le_refl _) _).setCell (Nat.le_refl _) _).setCell (Nat.le_refl _) _⟩
end Go.Proofs.YtnhehdobpibgkaaGreatDoor
