/- StateOf, by the specification. -/
import Derived.Test.YtnhehdobpibgkaaGreatDoorRows
import Derived.WalkKit
import Derived.WalkSpells
import Derived.WalkLawsBesides
import Derived.Outline
import Derived.Deep.LoopGhost
import Derived.Test.YtnhehdobpibgkaaGreatDoorBun0
import Derived.Test.YtnhehdobpibgkaaGreatDoorBun8
import Derived.Test.YtnhehdobpibgkaaGreatDoorBun42
namespace Go.Proofs.YtnhehdobpibgkaaGreatDoor
open Go.RowKit
set_option linter.unusedVariables false

theorem getT_bad {s : ByteArray} {x : Int × Int × Int} (h : ¬ (getT s x).2.2 = 0) : (getT s x).1 = ⟨#[]⟩ := by
  unfold getT at h ⊢
  split
  · rfl
  · rename_i h1
    rw [if_neg h1] at h
    split
    · rfl
    · rename_i h2
      rw [if_neg h2] at h
      split
      · rfl
      · rename_i h3
        rw [if_neg h3] at h
        exact absurd rfl h
theorem specText_none {s : ByteArray} {p : Int} {w : World} (h : pT s p = none) (hs : s.size ≤ 8000) (h0 : 0 ≤ p) (hp : p ≤ s.size) : Calls Tryz.prog 42 #[.string s, .int .i64 p] w fun e w' => (∃ q c, ¬ c = 0 ∧ e = .returned (.agg #[.string ⟨#[]⟩, .int .i64 q, .int .i64 c])) ∧ Below w.heap.size w w' := by
  refine (specGetText_any s p w (by unfold maxLen; omega) (by omega) (by omega)).mono ?_
  rintro e w' ⟨rfl, hb⟩
  obtain ⟨k, rfl⟩ : ∃ k : Nat, p = (k : Int) := ⟨p.toNat, by omega⟩
  have hn : numV s (k : Int) = getN s k := if_neg (by omega)
  rw [hn, getT_bad (pT_no h)]
  exact ⟨⟨_, _, pT_no h, rfl⟩, hb⟩
theorem specUnseal_is {s : ByteArray} {t : ByteArray} {c : Int} {w : World} (ht : unsealT s = t) (hc : unsealC s = c) (hs : s.size ≤ maxLen) : Calls Tryz.prog 43 #[.string s] w fun e w' => e = .returned (.agg #[.string t, .int .i64 0, .int .i64 c]) ∧ Below w.heap.size w w' := by
  subst ht; subst hc; exact specUnseal_any s w hs
theorem StIs.open {w : World} {b : Nat} {T : Told} {at_ : Int} (h : StIs w b T at_) : ∃ a cap, w.heap[b]? = some (.cells #[.slice a T.1.length cap, .string T.2.1, .int .i64 (T.2.2 : Int), .int .i64 at_] 24 (0, 0)) ∧ OwnR w (b + 1) (.slice a T.1.length cap) T.1 := by
  obtain ⟨v, h1, h2⟩ := h
  obtain ⟨a, cap, rfl, _⟩ := h2.rows srcC_len
  exact ⟨a, cap, h1, h2⟩
def SPost (g : ByteArray) (w : World) (e : Ending) (w' : World) : Prop := (∃ v, e = .returned (StR v (stateL g).1 (stateL g).2) ∧ OwnR w' w.heap.size v (stateL g).1.1) ∧ Below w.heap.size w w'
def setW (x : World) (B : Nat) (v : Value) (im : ByteArray) (n at_ : Int) : World := (((x.setCell ⟨B, 0, none⟩ v).setCell ⟨B, 1, none⟩ (.string im)).setCell ⟨B, 2, none⟩ (.int .i64 n)).setCell ⟨B, 3, none⟩ (.int .i64 at_)
theorem quitS {g : ByteArray} {S : List Src} {im : ByteArray} {n p : Nat} {w x : World} {a : Option Addr} {cap : Nat} (hR : stateL g = ((S, im, n), p)) (hown : OwnR x (w.heap.size + 1 + 1) (.slice a S.length cap) S) (hb : Below w.heap.size w x) :
    SPost g w (.returned (.agg #[.slice a S.length cap, .string im, .int .i64 (n : Int), .int .i64 (p : Int)])) (setW x w.heap.size (.slice a S.length cap) im n p) := by
  refine ⟨⟨_, by rw [hR]; rfl, ?_⟩, ?_⟩
  · rw [hR]
    exact (own_set (own_set (own_set (own_set hown (by omega)) (by omega)) (by omega)) (by omega)).low (by omega)
  · exact (((hb.setCell (Nat.le_refl _) _).setCell (Nat.le_refl _) _).setCell (Nat.le_refl _) _).setCell (Nat.le_refl _) _
theorem SPost.alloc {g : ByteArray} {w x : World} {e : Ending} (h : SPost g w e x) (o : Obj) : SPost g w e (x.alloc o) := by
  obtain ⟨⟨v, he, ho⟩, hb⟩ := h
  exact ⟨⟨v, he, OwnX.alloc ho o⟩, below_more hb o⟩
set_option maxRecDepth 100000 in
set_option maxHeartbeats 3200000 in
theorem l08State_any (g : ByteArray) (w : World) (hg : g.size ≤ 8000) :
    Calls Tryz.prog 25 #[.string g] w (SPost g w) := by
  go_enter Tryz.func25, Tryz.ntmps25
  go_wp2
  go_loopg [] (g.size) (fun kx wr => ∃ (T : Told) (p f : Nat), Hid (rightS g (T, p)) ∧ p ≤ g.size ∧ g.size - p ≤ kx ∧ g.size < f + p ∧ Hid (runL g f (T, p) = stateL g) ∧ Hid (StIs wr (w.heap.size + 1) T p) ∧ Hid (wr.heap[w.heap.size]? = some (.cells #[.slice none 0 0, .string ⟨#[]⟩, .int .i64 0, .int .i64 0] 24 (0, 0))) ∧ Hid (Below w.heap.size w wr))
  case atStart => exact ⟨([], ⟨#[]⟩, 0), 0, g.size + 1, start_right g, by omega, by omega, by omega, rfl, ⟨_, heap_new2 w _ _, OwnX.nil _ _⟩, heap_more (heap_alloc_new w _) _, below_more (below_new w _) _⟩
  case round =>
    obtain ⟨T, p, f, HRS, hp, hk, hf, HU, HL, HX, HB⟩ := hrel
    have hsz : w.heap.size + 1 < wr.heap.size := by obtain ⟨v, hv, _⟩ := HL.out; exact heap_lt hv
    obtain ⟨S, im, n⟩ := T
    obtain ⟨a, cap, hrow, hown⟩ := HL.out.open
    dsimp only at hrow hown
    have HRW : Hid (wr.heap[w.heap.size + 1]? = some (.cells #[.slice a S.length cap, .string im, .int .i64 (n : Int), .int .i64 (p : Int)] 24 (0, 0))) := hrow
    have HOW : Hid (OwnR wr (w.heap.size + 1 + 1) (.slice a S.length cap) S) := hown
    by_cases hend : g.size ≤ p
    · have HR : Hid (stateL g = ((S, im, n), p)) := by
        show _ = _
        rw [← HU.out]
        exact runL_end hend
      obtain ⟨⟨c0, c1, c2, c3⟩, _⟩ := four_cf hrow
      obtain ⟨⟨d0, d1, d2, d3⟩, z0, z1, z2, z3⟩ := four_cf HX.out
      have hlt : ¬ (p : Int) < (g.size : Int) := by omega
      clear hrow hown
      go_wp2
      exact bodyPost_ret (results_cell_row Tryz.results25 _ _ w.heap.size 24 _ (0, 0) _ rfl (set_four HX.out) Tryz.underlying24 rfl (by kernel_rfl)) rfl (quitS HR.out HOW.out HB.out)
    · have hlt : (p : Int) < (g.size : Int) := by omega
      have HRT : Hid (rightT (S, im, n)) := HRS.out.1
      have hn : n ≤ 1000000 := by have := HRS.out.2.2; dsimp only at this; omega
      have b3 := cellH (i := 3) hrow rfl
      have HSTOP : Hid (stepL g ((S, im, n), p) = none → stateL g = ((S, im, n), p)) := fun h => by rw [← HU.out]; exact runL_stop h
      clear hrow hown
      cases hpt : pT g p with
      | none =>
        have HPT : Hid (pT g p = none) := hpt
        have HF : Hid (stateL g = ((S, im, n), p)) := HSTOP.out (step_noT hpt)
        clear hpt HSTOP
        go_wp2_with fail
        refine (specText_none HPT.out hg (by omega) (by omega)).mono ?_
        rintro e x ⟨⟨q, c, hc, rfl⟩, hb⟩
        have HBx : Hid (Below wr.heap.size wr x) := hb
        have hc2 : (c == 0) = false := by rw [beq_eq_false_iff_ne]; exact hc
        have hc3 : (c != 0) = true := by rw [bne_iff_ne]; exact hc
        clear hb
        go_wp2_with fail
        refine (specUnseal_is (s := ⟨#[]⟩) rfl rfl (Nat.zero_le _)).mono ?_
        rintro e y ⟨rfl, hb⟩
        have HY : Hid (y.heap[x.heap.size]? = _) := heap_keep (heap_alloc_new x (.cells #[.string ⟨#[]⟩, .int .i64 q, .int .i64 c] 61)) hb
        have HBy : Hid (Below wr.heap.size wr y) := below_call (below_more HBx.out _) hb
        have HBz : Hid (Below wr.heap.size wr (y.alloc (.cells #[.string (unsealT ⟨#[]⟩), .int .i64 0, .int .i64 (unsealC ⟨#[]⟩)] 61))) := below_more HBy.out _
        obtain ⟨k0, k1, k2, _⟩ := three_cf HY.out
        have hxy := heap_lt HY.out
        have hsy : w.heap.size + 1 < y.heap.size := by have := HBy.out.size; omega
        have hsy2 : w.heap.size < y.heap.size := by omega
        have hrow2 := heap_keep HRW.out HBy.out
        have hx2 := heap_keep HX.out HBy.out
        obtain ⟨⟨c0, c1, c2, c3⟩, _⟩ := four_cf hrow2
        obtain ⟨⟨d0, d1, d2, d3⟩, z0, z1, z2, z3⟩ := four_cf hx2
        have hszy := HBy.out.size
        clear hb hrow2 hx2
        go_wp2
        exact bodyPost_ret (results_cell_row Tryz.results25 _ _ w.heap.size 24 _ (0, 0) _ rfl (heap_more (set_four (heap_keep HX.out HBy.out)) _) Tryz.underlying24 rfl (by kernel_rfl)) rfl (SPost.alloc (quitS HF.out (HOW.out.call HBy.out) (below_call HB.out HBy.out)) _)
      | some tq =>
        obtain ⟨t, q⟩ := tq
        have HPT : Hid (pT g p = some (t, q)) := hpt
        have hbd := pT_bd hp hpt
        have HTS : Hid (t.size ≤ maxLen) := by show _ ≤ _; unfold maxLen; omega
        obtain ⟨hb1, hb2, hb3⟩ := hbd
        have HUS : Hid ((unsealT t).size ≤ 8000) := unseal_le t
        obtain ⟨u, hut⟩ : ∃ u, unsealT t = u := ⟨_, rfl⟩
        have HUT : Hid (unsealT t = u) := hut
        rw [hut] at HUS
        clear hpt
        by_cases hu : unsealC t = 0
        · have HST : Hid (stepL g ((S, im, n), p) = (doB S im n u).bind fun r => some (r, q.toNat)) := by show _ = _; rw [← hut]; exact step_do HPT.out hu
          have HUC : Hid (unsealC t = 0) := hu
          have hus := HUS.out
          clear hut hu
          go_wp2_with fail
          refine (specText_yes HPT.out hg (by omega) (by omega)).mono ?_
          rintro e x ⟨rfl, hb⟩
          have HBx : Hid (Below wr.heap.size wr x) := hb
          clear hb
          go_wp2_with fail
          refine (specUnseal_is HUT.out HUC.out HTS.out).mono ?_
          rintro e y ⟨rfl, hb⟩
          have HY : Hid (y.heap[x.heap.size]? = _) := heap_keep (heap_alloc_new x (.cells #[.string t, .int .i64 q, .int .i64 0] 61)) hb
          have HBy : Hid (Below wr.heap.size wr y) := below_call (below_more HBx.out _) hb
          obtain ⟨k0, k1, k2, _⟩ := three_cf HY.out
          have hxy := heap_lt HY.out
          have hsy : w.heap.size + 1 < y.heap.size := by have := HBy.out.size; omega
          have hsy2 : w.heap.size < y.heap.size := by omega
          clear hb
          go_wp2_with fail
          refine (l08Do_any (w.heap.size + 1) S im n p u _ (StIs.call ⟨_, HRW.out, HOW.out⟩ (below_more HBy.out _)) HRT.out hus hn).mono ?_
          rintro e z ⟨hb, ⟨r, hr, rfl, hl⟩ | ⟨hr, rfl, hl⟩⟩
          · have HBz : Hid (Below w.heap.size w z) := But.below (below_call HB.out (below_more HBy.out _)) hb (by omega) (by have := HBy.out.size; simp; omega)
            have HS2 : Hid (stepL g ((S, im, n), p) = some (r, q.toNat)) := by show _ = _; rw [HST.out, hr]; rfl
            have HRS2 := stepL_right HRS.out HS2.out
            have HR3 : Hid (rightS g (r, q.toNat)) := HRS2.1
            have hlt3 : p < q.toNat := HRS2.2
            obtain ⟨f2, hf2⟩ : ∃ f2, f = f2 + 1 := ⟨f - 1, by omega⟩
            have HU2 : Hid (runL g f2 (r, q.toNat) = stateL g) := by
              show _ = _
              rw [← HU.out, hf2]
              exact (runL_next hend HS2.out).symm
            have hq3 : q = ((q.toNat : Nat) : Int) := by omega
            obtain ⟨m, hm⟩ : ∃ m, q.toNat = m := ⟨_, rfl⟩
            rw [hm] at HR3 hlt3 HU2 hq3
            subst hq3
            have hmg : m ≤ g.size := by omega
            obtain ⟨a2, cap2, hrow2, hown2⟩ := hl.open
            have HROW : Hid (_ = _) := hrow2
            have HOWN : Hid (OwnR z (w.heap.size + 1 + 1) _ r.1) := hown2
            have HXz : Hid (z.heap[w.heap.size]? = _) := hb.keep (heap_keep HX.out (below_more HBy.out _)) (by omega)
            have HYz : Hid (z.heap[x.heap.size]? = _) := hb.keep (heap_more HY.out _) (by have := HBx.out.size; omega)
            obtain ⟨j0, j1, j2, _⟩ := three_cf HYz.out
            have f3 : z.frozen? ⟨w.heap.size + 1, 3, none⟩ = false := frozen_of_row _ _ _ _ _ hrow2
            have i3 := cellH (i := 3) hrow2 rfl
            have hffm : g.size < f2 + m := by omega
            clear hb hr hl hrow2 hown2 HRS2 hm hf2 k0 k1 k2
            go_wp2
            go_roundg (g.size - m)
            case measure => omega
            case rel => exact ⟨r, m, f2, HR3.out, hmg, Nat.le_refl _, hffm, HU2.out, ⟨_, heap_set HROW.out 3 _, own_set HOWN.out (by omega)⟩, set_far (by show w.heap.size ≠ w.heap.size + 1; omega) HXz.out, HBz.out.setCell (by show w.heap.size ≤ w.heap.size + 1; omega) _⟩
          · have HF : Hid (stateL g = ((S, im, n), p)) := HSTOP.out (by rw [HST.out, hr]; rfl)
            have HBz : Hid (Below w.heap.size w z) := But.below (below_call HB.out (below_more HBy.out _)) hb (by omega) (by have := HBy.out.size; simp; omega)
            obtain ⟨a2, cap2, hrow2, hown2⟩ := hl.open
            dsimp only at hrow2 hown2
            have HXz : Hid (z.heap[w.heap.size]? = some (.cells #[.slice none 0 0, .string ⟨#[]⟩, .int .i64 0, .int .i64 0] 24 (0, 0))) := hb.keep (heap_keep HX.out (below_more HBy.out _)) (by omega)
            have HOWN : Hid (OwnR z (w.heap.size + 1 + 1) (.slice a2 S.length cap2) S) := hown2
            obtain ⟨⟨c0, c1, c2, c3⟩, _⟩ := four_cf hrow2
            obtain ⟨⟨d0, d1, d2, d3⟩, z0, z1, z2, z3⟩ := four_cf HXz.out
            clear hrow2 hown2 hb hr hl k0 k1 k2
            go_wp2
            exact bodyPost_ret (results_cell_row Tryz.results25 _ _ w.heap.size 24 _ (0, 0) _ rfl (set_four HXz.out) Tryz.underlying24 rfl (by kernel_rfl)) rfl (quitS HF.out HOWN.out HBz.out)
        · have HF : Hid (stateL g = ((S, im, n), p)) := HSTOP.out (step_noU HPT.out hu)
          obtain ⟨c, hcc⟩ : ∃ c, unsealC t = c := ⟨_, rfl⟩
          have HCC : Hid (unsealC t = c) := hcc
          have hc : ¬ c = 0 := by rw [← hcc]; exact hu
          have hc2 : (c == 0) = false := by rw [beq_eq_false_iff_ne]; exact hc
          have hc3 : (c != 0) = true := by rw [bne_iff_ne]; exact hc
          clear HSTOP hu hcc hut
          go_wp2_with fail
          refine (specText_yes HPT.out hg (by omega) (by omega)).mono ?_
          rintro e x ⟨rfl, hb⟩
          have HBx : Hid (Below wr.heap.size wr x) := hb
          clear hb
          go_wp2_with fail
          refine (specUnseal_is HUT.out HCC.out HTS.out).mono ?_
          rintro e y ⟨rfl, hb⟩
          have HY : Hid (y.heap[x.heap.size]? = _) := heap_keep (heap_alloc_new x (.cells #[.string t, .int .i64 q, .int .i64 0] 61)) hb
          have HBy : Hid (Below wr.heap.size wr y) := below_call (below_more HBx.out _) hb
          have HBz : Hid (Below wr.heap.size wr (y.alloc (.cells #[.string u, .int .i64 0, .int .i64 c] 61))) := below_more HBy.out _
          obtain ⟨k0, k1, k2, _⟩ := three_cf HY.out
          have hxy := heap_lt HY.out
          have hsy : w.heap.size + 1 < y.heap.size := by have := HBy.out.size; omega
          have hsy2 : w.heap.size < y.heap.size := by omega
          have hrow2 := heap_keep HRW.out HBy.out
          have hx2 := heap_keep HX.out HBy.out
          obtain ⟨⟨c0, c1, c2, c3⟩, _⟩ := four_cf hrow2
          obtain ⟨⟨d0, d1, d2, d3⟩, z0, z1, z2, z3⟩ := four_cf hx2
          have hszy := HBy.out.size
          clear hb hrow2 hx2
          go_wp2
          exact bodyPost_ret (results_cell_row Tryz.results25 _ _ w.heap.size 24 _ (0, 0) _ rfl (heap_more (set_four (heap_keep HX.out HBy.out)) _) Tryz.underlying24 rfl (by kernel_rfl)) rfl (SPost.alloc (quitS HF.out (HOW.out.call HBy.out) (below_call HB.out HBy.out)) _)
end Go.Proofs.YtnhehdobpibgkaaGreatDoor
