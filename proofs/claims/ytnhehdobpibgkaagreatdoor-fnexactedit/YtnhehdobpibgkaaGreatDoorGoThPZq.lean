/- A log is gone through, by the program. -/
import Derived.Test.YtnhehdobpibgkaaGreatDoorRows
import Derived.WalkKit
import Derived.WalkSpells
import Derived.WalkLawsBesides
import Derived.WalkSmall
import Derived.Outline
import Derived.Deep.LoopGhost
import Derived.Test.YtnhehdobpibgkaaGreatDoorBun0
import Derived.Test.YtnhehdobpibgkaaGreatDoorBun7
import Derived.Test.YtnhehdobpibgkaaGreatDoorBun11
import Derived.Test.YtnhehdobpibgkaaGreatDoorDoPZq
namespace Go.Proofs.YtnhehdobpibgkaaGreatDoor
open Go.RowKit
set_option linter.unusedVariables false

theorem step_noT {g : ByteArray} {T : Told} {p : Nat} (h : pT g p = none) : stepL g (T, p) = none := by
  unfold stepL
  rw [h]; rfl
theorem step_noU {g : ByteArray} {T : Told} {p : Nat} {t : ByteArray} {q : Int} (h : pT g p = some (t, q)) (hu : ¬ unsealC t = 0) : stepL g (T, p) = none := by
  unfold stepL
  rw [h]
  simp only [Option.bind_some]
  rw [if_neg hu]
theorem step_do {g : ByteArray} {T : Told} {p : Nat} {t : ByteArray} {q : Int} (h : pT g p = some (t, q)) (hu : unsealC t = 0) : stepL g (T, p) = (doB T.1 T.2.1 T.2.2 (unsealT t)).bind fun r => some (r, q.toNat) := by
  unfold stepL
  rw [h]
  simp only [Option.bind_some]
  rw [if_pos hu]
theorem unseal_le (t : ByteArray) : (unsealT t).size ≤ 8000 := by
  unfold unsealT
  split
  · exact Nat.zero_le _
  · split
    · exact Nat.zero_le _
    · split
      · rw [ByteArray.size_extract]; omega
      · exact Nat.zero_le _
theorem pT_parts {s : ByteArray} {p : Nat} {t : ByteArray} {q : Int} (h : pT s p = some (t, q)) : getT s (getN s p) = (t, q, 0) := by
  unfold pT at h
  split at h
  · rename_i h0
    cases h
    rw [← h0]
  · cases h
theorem pT_no {s : ByteArray} {p : Nat} (h : pT s p = none) : ¬ (getT s (getN s p)).2.2 = 0 := by
  unfold pT at h
  split at h
  · cases h
  · assumption
theorem readText_yes {s : ByteArray} {p : Nat} {t : ByteArray} {q : Int} {w : World} (h : pT s p = some (t, q)) (hs : s.size ≤ 8000) (hp : p ≤ s.size) : Calls Tryz.prog 45 #[.string s, .int .i64 (p : Int)] w fun e w' => e = .returned (.tuple #[.string t, .int .i64 q, .nilIface]) ∧ Below w.heap.size w w' := by
  refine (readText_any s p w hs (by omega)).mono ?_
  rintro e w' ⟨rfl, hb⟩
  rw [pT_parts h]
  exact ⟨rfl, hb⟩
theorem readText_no {s : ByteArray} {p : Nat} {w : World} (h : pT s p = none) (hs : s.size ≤ 8000) (hp : p ≤ s.size) : Calls Tryz.prog 45 #[.string s, .int .i64 (p : Int)] w fun e w' => (∃ t q c, e = .returned (.tuple #[.string t, .int .i64 q, .iface 95 (.agg #[.int .i64 c])])) ∧ Below w.heap.size w w' := by
  refine (readText_any s p w hs (by omega)).mono ?_
  rintro e w' ⟨rfl, hb⟩
  rw [errV_n (pT_no h)]
  exact ⟨⟨_, _, _, rfl⟩, hb⟩
theorem unseal_is {s : ByteArray} {t : ByteArray} {c : Int} {w : World} (ht : unsealT s = t) (hc : unsealC s = c) (hs : s.size ≤ maxLen) : Calls Tryz.prog 47 #[.string s] w fun e w' => e = .returned (.agg #[.string t, .int .i64 0, .int .i64 c]) ∧ Below w.heap.size w w' := by
  subst ht; subst hc; exact implUnseal_any s w hs
theorem ErrV.but {w w' : World} {b : Nat} (h : ErrV w) (hb : But b w w') (hne : 1 ≠ b) : ErrV w' := by
  obtain ⟨te, pe, h⟩ := h
  exact ⟨te, pe, (hb.cell (p := ⟨1, 0, none⟩) (World.block_lt_of_cell? _ _ h) hne).trans h⟩
def ThQ (te : TypeId) (pe : Value) (b : Nat) (g : ByteArray) (w : World) (e : Ending) (w' : World) : Prop := But b w w' ∧ (e = .returned (.tuple #[]) ∨ e = panE te pe) ∧ LgIs w' b (stateL g).1 (stateL g).2
theorem text_empty {t : ByteArray} (h : t.size = 0) : t = ⟨#[]⟩ := by
  have : t.data.toList = [] := List.length_eq_zero_iff.1 (by rw [Array.length_toList]; exact h)
  exact ByteArray.ext (Array.toList_inj.1 this)
set_option maxRecDepth 100000 in
set_option maxHeartbeats 3200000 in
theorem goThrough_any (te : TypeId) (pe : Value) (b : Nat) (g : ByteArray) (w : World) (h : LgIs w b ([], ⟨#[]⟩, 0) 0) (hg : g.size ≤ 8000) (hP : PanV te pe w) (hE : ErrV w) (hG : 0 ≠ b) (hG2 : 1 ≠ b) :
    Calls Tryz.prog 27 #[.pointer (some ⟨b, 0, none⟩), .string g] w (ThQ te pe b g w) := by
  have HL0 : Hid (LgIs w b ([], ⟨#[]⟩, 0) 0) := h
  have HP0 : Hid (PanV te pe w) := hP
  have HE0 : Hid (ErrV w) := hE
  have hbw : b < w.heap.size := by obtain ⟨v, hv, _⟩ := h; exact heap_lt hv
  clear h hP hE
  go_enter Tryz.func27, Tryz.ntmps27
  go_wp2
  go_loopg [] (g.size) (fun kx wr => ∃ (T : Told) (p f : Nat), Hid (rightS g (T, p)) ∧ p ≤ g.size ∧ g.size - p ≤ kx ∧ g.size < f + p ∧ Hid (runL g f (T, p) = stateL g) ∧ Hid (LgIs wr b T p) ∧ Hid (But b w wr))
  case atStart => exact ⟨([], ⟨#[]⟩, 0), 0, g.size + 1, start_right g, by omega, by omega, by omega, rfl, HL0.out, But.refl _ _⟩
  case round =>
    obtain ⟨T, p, f, HRS, hp, hk, hf, HU, HL, HB⟩ := hrel
    have HP : Hid (PanV te pe wr) := HP0.out.but HB.out hG
    have HE : Hid (ErrV wr) := HE0.out.but HB.out hG2
    by_cases hend : g.size ≤ p
    · have HR : Hid (stateL g = (T, p)) := by
        show _ = _
        rw [← HU.out]
        exact runL_end hend
      obtain ⟨v, hrow, hown⟩ := HL.out
      have HL2 : Hid (LgIs wr b T p) := HL.out
      have c3 := cellH (i := 3) hrow rfl
      have hlt : ¬ (p : Int) < (g.size : Int) := by omega
      clear hrow hown
      go_wp2
      go_end0
      exact ⟨HB.out, .inl rfl, by rw [HR.out]; exact HL2.out⟩
    · have hlt : (p : Int) < (g.size : Int) := by omega
      obtain ⟨S, im, n⟩ := T
      have HRT : Hid (rightT (S, im, n)) := HRS.out.1
      have hn : n ≤ 1000000 := by have := HRS.out.2.2; dsimp only at this; omega
      have HL2 : Hid (LgIs wr b (S, im, n) p) := HL.out
      obtain ⟨v, hrow, hown⟩ := HL.out
      have c3 := cellH (i := 3) hrow rfl
      have HSTOP : Hid (stepL g ((S, im, n), p) = none → stateL g = ((S, im, n), p)) := fun h => by rw [← HU.out]; exact runL_stop h
      clear hrow hown HL
      cases hpt : pT g p with
      | none =>
        have HPT : Hid (pT g p = none) := hpt
        have HF : Hid (stateL g = ((S, im, n), p)) := HSTOP.out (step_noT hpt)
        clear hpt HSTOP
        go_wp2_with fail
        refine (readText_no HPT.out hg hp).mono ?_
        rintro e x ⟨⟨t, q, c, rfl⟩, hb⟩
        have HBx : Hid (Below wr.heap.size wr x) := hb
        clear hb
        go_wp2_with fail
        refine (mustBe_no te pe _ (HP.out.below HBx.out)).mono ?_
        rintro e z2 ⟨rfl, hz⟩
        have hz2 := hz.symm
        clear hz
        subst hz2
        exact ⟨rfl, HB.out.call HBx.out, .inr rfl, by rw [HF.out]; exact HL2.out.call HBx.out⟩
      | some tq =>
        obtain ⟨t, q⟩ := tq
        have HPT : Hid (pT g p = some (t, q)) := hpt
        have hbd := pT_bd hp hpt
        have HTS : Hid (t.size ≤ maxLen) := by show _ ≤ _; unfold maxLen; omega
        obtain ⟨hb1, hb2, hb3⟩ := hbd
        have HUS : Hid ((unsealT t).size ≤ 8000) := unseal_le t
        clear hpt
        by_cases hu : unsealC t = 0
        · have HST : Hid (stepL g ((S, im, n), p) = (doB S im n (unsealT t)).bind fun r => some (r, q.toNat)) := step_do HPT.out hu
          obtain ⟨u, hut⟩ : ∃ u, unsealT t = u := ⟨_, rfl⟩
          rw [hut] at HST HUS
          have HUT : Hid (unsealT t = u) := hut
          have HUC : Hid (unsealC t = 0) := hu
          have hus := HUS.out
          clear hut hu
          by_cases hu0 : u.size = 0
          · obtain rfl := text_empty hu0
            have HF : Hid (stateL g = ((S, im, n), p)) := HSTOP.out (by rw [HST.out]; rfl)
            clear HSTOP
            go_wp2_with fail
            refine (readText_yes HPT.out hg hp).mono ?_
            rintro e x ⟨rfl, hb⟩
            have HBx : Hid (Below wr.heap.size wr x) := hb
            clear hb
            go_wp2_with fail
            refine (mustBe_yes _).mono ?_
            rintro e z2 ⟨rfl, hz⟩
            have hz2 := hz.symm
            clear hz
            subst hz2
            go_wp2_with fail
            refine (unseal_is HUT.out HUC.out HTS.out).mono ?_
            rintro e y ⟨rfl, hb⟩
            have HBy : Hid (Below wr.heap.size wr y) := below_call HBx.out hb
            clear hb
            go_wp2_with fail
            refine (mustBe_no te pe _ ((HP.out.below HBy.out).alloc _)).mono ?_
            rintro e z2 ⟨rfl, hz⟩
            have hz2 := hz.symm
            clear hz
            subst hz2
            exact ⟨rfl, HB.out.call (below_more HBy.out _), .inr rfl, by rw [HF.out]; exact HL2.out.call (below_more HBy.out _)⟩
          · have hne : ¬ u = (⟨#[]⟩ : ByteArray) := fun e => hu0 (by rw [e]; rfl)
            have hue : u.toList.isEmpty = false := by
              have h2 := textS_ne hne
              cases h3 : u.toList with
              | nil => rw [h3, Lib.toList_data] at h2; exact absurd h2 (by decide)
              | cons c l => rfl
            have hu1 : 0 < u.size := by omega
            clear hne hu0
            go_wp2_with fail
            refine (readText_yes HPT.out hg hp).mono ?_
            rintro e x ⟨rfl, hb⟩
            have HBx : Hid (Below wr.heap.size wr x) := hb
            clear hb
            go_wp2_with fail
            refine (mustBe_yes _).mono ?_
            rintro e z2 ⟨rfl, hz⟩
            have hz2 := hz.symm
            clear hz
            subst hz2
            go_wp2_with fail
            refine (unseal_is HUT.out HUC.out HTS.out).mono ?_
            rintro e y ⟨rfl, hb⟩
            have HBy : Hid (Below wr.heap.size wr y) := below_call HBx.out hb
            clear hb
            go_wp2_with fail
            refine (mustBe_yes _).mono ?_
            rintro e z2 ⟨rfl, hz⟩
            have hz2 := hz.symm
            clear hz
            subst hz2
            go_wp2_with fail
            refine (do_any te pe b S im n p u _ (HL2.out.call (below_more HBy.out _)) HRT.out hu1 HUS.out hn ((HP.out.below HBy.out).alloc _) ((HE.out.below HBy.out).alloc _) hG).mono ?_
            rintro e z ⟨hb, ⟨r, hr, rfl, hl⟩ | ⟨hr, rfl, hl⟩⟩
            · have HBz : Hid (But b w z) := (HB.out.call (below_more HBy.out _)).trans hb
              have HS2 : Hid (stepL g ((S, im, n), p) = some (r, q.toNat)) := by show _ = _; rw [HST.out, hr]; rfl
              have HRS2 := stepL_right HRS.out HS2.out
              have HR3 : Hid (rightS g (r, q.toNat)) := HRS2.1
              have hlt3 : p < q.toNat := HRS2.2
              have HRW : Hid (LgIs z b r p) := hl
              obtain ⟨f2, hf2⟩ : ∃ f2, f = f2 + 1 := ⟨f - 1, by omega⟩
              have HU2 : Hid (runL g f2 (r, q.toNat) = stateL g) := by
                show _ = _
                rw [← HU.out, hf2]
                exact (runL_next hend HS2.out).symm
              have hq3 : q = ((q.toNat : Nat) : Int) := by omega
              obtain ⟨m, hm⟩ : ∃ m, q.toNat = m := ⟨_, rfl⟩
              rw [hm] at HR3 hlt3 HU2 hq3
              subst hq3
              have hmg : m ≤ g.size := by omega
              obtain ⟨v2, hrow, hown⟩ := HRW.out
              have HROW : Hid (_ = _) := hrow
              have HOWN : Hid (OwnR z (b + 1) v2 r.1) := hown
              have c3 := cellH (i := 3) hrow rfl
              have f3 : z.frozen? ⟨b, 3, none⟩ = false := frozen_of_row _ _ _ _ _ hrow
              have hffm : g.size < f2 + m := by omega
              clear hb hr hl hrow hown HRS2 hm hf2
              go_wp2
              go_roundg (g.size - m)
              case measure => omega
              case rel => exact ⟨r, m, f2, HR3.out, hmg, Nat.le_refl _, hffm, HU2.out, ⟨v2, heap_set HROW.out 3 _, own_set HOWN.out (by omega)⟩, HBz.out.setB (p := ⟨b, 3, none⟩) rfl _⟩
            · have HF : Hid (stateL g = ((S, im, n), p)) := HSTOP.out (by rw [HST.out, hr]; rfl)
              exact ⟨rfl, (HB.out.call (below_more HBy.out _)).trans hb, .inr rfl, by rw [HF.out]; exact hl⟩
        · have HUC : Hid (¬ unsealC t = 0) := hu
          have HF : Hid (stateL g = ((S, im, n), p)) := HSTOP.out (step_noU HPT.out hu)
          obtain ⟨c, hcc⟩ : ∃ c, unsealC t = c := ⟨_, rfl⟩
          have HCC : Hid (unsealC t = c) := hcc
          have hc0 : (c == 0) = false := by rw [beq_eq_false_iff_ne, ← hcc]; exact hu
          clear HSTOP hu hcc
          go_wp2_with fail
          refine (readText_yes HPT.out hg hp).mono ?_
          rintro e x ⟨rfl, hb⟩
          have HBx : Hid (Below wr.heap.size wr x) := hb
          clear hb
          go_wp2_with fail
          refine (mustBe_yes _).mono ?_
          rintro e z2 ⟨rfl, hz⟩
          have hz2 := hz.symm
          clear hz
          subst hz2
          go_wp2_with fail
          refine (unseal_is rfl HCC.out HTS.out).mono ?_
          rintro e y ⟨rfl, hb⟩
          have HBy : Hid (Below wr.heap.size wr y) := below_call HBx.out hb
          clear hb
          go_wp2_with fail
          refine (mustBe_no te pe _ ((HP.out.below HBy.out).alloc _)).mono ?_
          rintro e z2 ⟨rfl, hz⟩
          have hz2 := hz.symm
          clear hz
          subst hz2
          exact ⟨rfl, HB.out.call (below_more HBy.out _), .inr rfl, by rw [HF.out]; exact HL2.out.call (below_more HBy.out _)⟩
end Go.Proofs.YtnhehdobpibgkaaGreatDoor
