/- What a record does, by the program. -/
import Derived.Test.YtnhehdobpibgkaaGreatDoorRows
import Derived.WalkKit
import Derived.WalkSpells
import Derived.WalkLawsBesides
import Derived.WalkSmall
import Derived.Outline
import Derived.RegionTactic
import Derived.BigRegion
import Derived.Test.YtnhehdobpibgkaaGreatDoorBun0
import Derived.Test.YtnhehdobpibgkaaGreatDoorPutPZq
import Derived.Test.YtnhehdobpibgkaaGreatDoorDropPZq
import Derived.Test.YtnhehdobpibgkaaGreatDoorTxtsPZq
namespace Go.Proofs.YtnhehdobpibgkaaGreatDoor
open Go.RowKit
set_option linter.unusedVariables false

theorem allT_one (s : ByteArray) : allT s 1 = (one1 s).map fun x => [x] := by
  unfold allT one1
  unfold pMany
  cases h : pT s 1 with
  | none => rfl
  | some x =>
    unfold pMany
    simp only [Option.bind_some]
    split <;> rfl
theorem allT_two (s : ByteArray) : allT s 2 = (two2 s).map fun x => [x.1, x.2] := by
  unfold allT two2
  unfold pMany
  cases h : pT s 1 with
  | none => rfl
  | some x =>
    unfold pMany
    simp only [Option.bind_some]
    cases h2 : pT s x.2 with
    | none => rfl
    | some y =>
      unfold pMany
      simp only [Option.bind_some]
      split <;> rfl
theorem allT1_some {s : ByteArray} {R : List ByteArray} (h : allT s 1 = some R) : ∃ x, one1 s = some x ∧ R = [x] := by
  rw [allT_one] at h
  obtain ⟨x, hx, rfl⟩ := Option.map_eq_some_iff.1 h
  exact ⟨x, hx, rfl⟩
theorem allT1_none {s : ByteArray} (h : allT s 1 = none) : one1 s = none := by
  rw [allT_one] at h
  exact Option.map_eq_none_iff.1 h
theorem allT2_some {s : ByteArray} {R : List ByteArray} (h : allT s 2 = some R) : ∃ x, two2 s = some x ∧ R = [x.1, x.2] := by
  rw [allT_two] at h
  obtain ⟨x, hx, rfl⟩ := Option.map_eq_some_iff.1 h
  exact ⟨x, hx, rfl⟩
theorem allT2_none {s : ByteArray} (h : allT s 2 = none) : two2 s = none := by
  rw [allT_two] at h
  exact Option.map_eq_none_iff.1 h
theorem own_one {w : World} {B : Nat} {v : Value} {x : ByteArray} (h : OwnS w B v [x]) : ∃ g cap, v = .slice (some ⟨g, 0, none⟩) 1 cap ∧ B ≤ g ∧ g < w.heap.size ∧ w.cell? ⟨g, 0, none⟩ = some (.string x) := by
  rcases h.form with ⟨_, h⟩ | ⟨g, cap, cur, rfl, hB, hg, h4, h5, h6, h7⟩
  · cases h
  · refine ⟨g, cap, rfl, hB, heap_lt hg, ?_⟩
    rw [cell_of_row _ _ _ _ _ _ hg]
    exact h7 0 (by simp)
theorem own_two {w : World} {B : Nat} {v : Value} {x y : ByteArray} (h : OwnS w B v [x, y]) : ∃ g cap, v = .slice (some ⟨g, 0, none⟩) 2 cap ∧ B ≤ g ∧ g < w.heap.size ∧ w.cell? ⟨g, 0, none⟩ = some (.string x) ∧ w.cell? ⟨g, 1, none⟩ = some (.string y) := by
  rcases h.form with ⟨_, h⟩ | ⟨g, cap, cur, rfl, hB, hg, h4, h5, h6, h7⟩
  · cases h
  · refine ⟨g, cap, rfl, hB, heap_lt hg, ?_, ?_⟩
    · rw [cell_of_row _ _ _ _ _ _ hg]
      exact h7 0 (by simp)
    · rw [cell_of_row _ _ _ _ _ _ hg]
      exact h7 1 (by simp)
theorem do_69 {S : List Src} {im : ByteArray} {n : Nat} {s : ByteArray} (h0 : 0 < s.size) (h : b0 s = 69) : doB S im n s = (two2 s).bind fun x => putO S im n x := by
  unfold doB putO
  rw [if_neg (by omega), if_pos h]
theorem do_82 {S : List Src} {im : ByteArray} {n : Nat} {s : ByteArray} (h0 : 0 < s.size) (h : b0 s = 82) : doB S im n s = (one1 s).bind fun x => dropO S im n x := by
  unfold doB dropO
  rw [if_neg (by omega), if_neg (by omega), if_pos h]
theorem do_80 {S : List Src} {im : ByteArray} {n : Nat} {s : ByteArray} (h0 : 0 < s.size) (h : b0 s = 80) : doB S im n s = (one1 s).bind fun x => pubO S im n x := by
  unfold doB pubO
  rw [if_neg (by omega), if_neg (by omega), if_neg (by omega), if_pos h]
theorem do_no {S : List Src} {im : ByteArray} {n : Nat} {s : ByteArray} (h0 : 0 < s.size) (h1 : ¬ b0 s = 69) (h2 : ¬ b0 s = 82) (h3 : ¬ b0 s = 80) : doB S im n s = none := by
  unfold doB
  rw [if_neg (by omega), if_neg h1, if_neg h2, if_neg h3]
def TwoC (g : Nat) (x y : ByteArray) (W : World) : Prop := W.cell? ⟨g, 0, none⟩ = some (.string x) ∧ W.cell? ⟨g, 1, none⟩ = some (.string y)
def AnyC (W : World) : Prop := True
set_option maxRecDepth 100000 in
set_option maxHeartbeats 3200000 in
theorem do_any (te : TypeId) (pe : Value) (b : Nat) (S : List Src) (im : ByteArray) (n : Nat) (at_ : Int) (s : ByteArray) (w : World) (h : LgIs w b (S, im, n) at_) (hr : rightT (S, im, n)) (h0 : 0 < s.size) (hs : s.size ≤ 8000) (hn : n ≤ 1000000) (hP : PanV te pe w) (hE : ErrV w) (hG : 0 ≠ b) :
    Calls Tryz.prog 48 #[.pointer (some ⟨b, 0, none⟩), .string s] w (PD te pe b (S, im, n) at_ (doB S im n s) w) := by
  have HL : Hid (LgIs w b (S, im, n) at_) := h
  have HRT : Hid (rightT (S, im, n)) := hr
  have HP : Hid (PanV te pe w) := hP
  have HE : Hid (ErrV w) := hE
  have hbw : b < w.heap.size := by obtain ⟨v, hv, _⟩ := h; exact heap_lt hv
  have HB1 : Hid (Below w.heap.size w (w.alloc (.cells #[.string s, .int .i64 1, .bool false] 98))) := below_new w _
  have HRR : Hid (RR (w.alloc (.cells #[.string s, .int .i64 1, .bool false] 98)) w.heap.size s 1 false) := ⟨heap_alloc_new w _, by omega, by omega⟩
  have HX : Hid (0 ≠ w.heap.size) := fun e => by have := hP.lt; omega
  have hx0 : (0 : Int) < (s.size : Int) := by omega
  obtain ⟨c, hc⟩ : ∃ c : Nat, s[0].toNat = c := ⟨_, rfl⟩
  have HB0 : Hid (b0 s = (c : Int)) := by show _ = _; rw [b0_at h0, hc]
  clear h hr hP hE
  by_cases e1 : c = 69
  · subst e1
    have HD : Hid (doB S im n s = (two2 s).bind fun x => putO S im n x) := do_69 h0 HB0.out
    have ht1 : ((s[0].toNat : Int) == 69) = true := by rw [hc]; rfl
    go_enter Tryz.func48, Tryz.ntmps48
    go_wp2_with fail
    refine (texts_any te pe w.heap.size 2 s _ HRR.out hs (by omega) (HP.out.alloc _) HX.out).mono ?_
    rintro e x ⟨hb, ⟨R, v, hA, rfl, ho⟩ | ⟨hA, rfl⟩⟩
    · obtain ⟨st, hst, rfl⟩ := allT2_some hA
      obtain ⟨nm, tx⟩ := st
      obtain ⟨g, cap, rfl, hg1, hg2, hg3, hg4⟩ := own_two ho
      have HBx : Hid (Below w.heap.size w x) := But.below HB1.out hb (Nat.le_refl _) (by simp)
      have HBD : Hid (nm.size ≤ 8000 ∧ tx.size ≤ 8000) := two2_bd h0 hst
      have HD2 : Hid (doB S im n s = putO S im n (nm, tx)) := by show _ = _; rw [HD.out, hst]; rfl
      have hgb : g ≠ b := by simp at hg1; omega
      have hS0 : TwoC g nm tx x.drew := ⟨hg3, hg4⟩
      clear hb hA hst ho hg1 HB1 HRR
      go_wp2_with fail
      refine wp_region_held_drew (S := TwoC g nm tx) (by kernel_rfl) hS0 (fun hS => WH.out ?_)
      refine held_op 0 10 (.pointer (some ⟨b, 0, none⟩)) rfl rfl (by kernel_rfl) (by kernel_rfl) (by kernel_rfl) (fun _ _ _ h => h) (by kernel_rfl) hS (fun Y hC => ?_) (fun K hK => ?_)
      · obtain ⟨c0, c1⟩ := hC
        go_simp
      go_simp
      refine hK _ ?_
      clear hK K
      refine held_op 1 9 (.pointer (some ⟨b, 0, none⟩)) rfl rfl (by kernel_rfl) (by kernel_rfl) (by kernel_rfl) (fun _ _ _ h => h) (by kernel_rfl) hS (fun Y hC => ?_) (fun K hK => ?_)
      · obtain ⟨c0, c1⟩ := hC
        go_simp
      go_simp
      refine hK _ ?_
      clear hK K
      refine held_op 2 8 (.pointer (some ⟨b, 0, none⟩)) rfl rfl (by kernel_rfl) (by kernel_rfl) (by kernel_rfl) (fun _ _ _ h => h) (by kernel_rfl) hS (fun Y hC => ?_) (fun K hK => ?_)
      · obtain ⟨c0, c1⟩ := hC
        go_simp
      go_simp
      refine hK _ ?_
      clear hK K
      refine held_op 3 7 (.slice (some ⟨g, 0, none⟩) 2 cap) rfl rfl (by kernel_rfl) (by kernel_rfl) (by kernel_rfl) (fun _ _ _ h => h) (by kernel_rfl) hS (fun Y hC => ?_) (fun K hK => ?_)
      · obtain ⟨c0, c1⟩ := hC
        go_simp
      go_simp
      refine hK _ ?_
      clear hK K
      refine held_op 4 6 (.pointer (some ⟨g, 0, none⟩)) rfl rfl (by kernel_rfl) (by kernel_rfl) (by kernel_rfl) (fun _ _ _ h => h) (by kernel_rfl) hS (fun Y hC => ?_) (fun K hK => ?_)
      · obtain ⟨c0, c1⟩ := hC
        go_simp
      go_simp
      refine hK _ ?_
      clear hK K
      refine held_op 5 5 (.string nm) rfl rfl (by kernel_rfl) (by kernel_rfl) (by kernel_rfl) (fun _ _ _ h => h) (by kernel_rfl) hS (fun Y hC => ?_) (fun K hK => ?_)
      · obtain ⟨c0, c1⟩ := hC
        go_simp
      go_simp
      refine hK _ ?_
      clear hK K
      refine held_op 6 4 (.slice (some ⟨g, 0, none⟩) 2 cap) rfl rfl (by kernel_rfl) (by kernel_rfl) (by kernel_rfl) (fun _ _ _ h => h) (by kernel_rfl) hS (fun Y hC => ?_) (fun K hK => ?_)
      · obtain ⟨c0, c1⟩ := hC
        go_simp
      go_simp
      refine hK _ ?_
      clear hK K
      refine held_op 7 3 (.pointer (some ⟨g, 1, none⟩)) rfl rfl (by kernel_rfl) (by kernel_rfl) (by kernel_rfl) (fun _ _ _ h => h) (by kernel_rfl) hS (fun Y hC => ?_) (fun K hK => ?_)
      · obtain ⟨c0, c1⟩ := hC
        go_simp
      go_simp
      refine hK _ ?_
      clear hK K
      refine held_op 8 2 (.string tx) rfl rfl (by kernel_rfl) (by kernel_rfl) (by kernel_rfl) (fun _ _ _ h => h) (by kernel_rfl) hS (fun Y hC => ?_) (fun K hK => ?_)
      · obtain ⟨c0, c1⟩ := hC
        go_simp
      go_simp
      refine hK _ ?_
      clear hK K
      refine held_op 9 1 (.agg #[.string nm, .string tx]) rfl rfl (by kernel_rfl) (by kernel_rfl) (by kernel_rfl) (fun _ _ _ h => h) (by kernel_rfl) hS (fun Y hC => ?_) (fun K hK => ?_)
      · obtain ⟨c0, c1⟩ := hC
        go_simp
      go_simp
      refine hK _ ?_
      clear hK K
      refine held_one 10 0 rfl (by kernel_rfl) rfl (by kernel_rfl) (fun K hK => ?_)
      go_simp
      refine (put_any te pe b S im n at_ nm tx _ ((HL.out.call HBx.out).call (Below.refl _ _).drew) HRT.out HBD.out.1 HBD.out.2 ((HP.out.below HBx.out).below (Below.refl _ _).drew) hG).mono ?_
      rintro e y ⟨hb, ⟨r, hr, rfl, hl⟩ | ⟨hr, rfl, hl⟩⟩
      · have hSy : TwoC g nm tx y := ⟨(hb.cell (p := ⟨g, 0, none⟩) hg2 hgb).trans hg3, (hb.cell (p := ⟨g, 1, none⟩) hg2 hgb).trans hg4⟩
        have HBy : Hid (But b w y) := (But.of HBx.out.drew).trans hb
        have HLy : Hid (LgIs y b r at_) := hl
        have HR2 : Hid (doB S im n s = some r) := HD2.out.trans hr
        clear hb hl hr hS
        go_wp2_with fail
        refine hK.out _ _ hSy ?_
        clear hK K
        refine held_done (by kernel_rfl) ?_
        go_wp2
        go_end0
        exact ⟨HBy.out, .inl ⟨r, HR2.out, rfl, HLy.out⟩⟩
      · exact ⟨rfl, (But.of HBx.out.drew).trans hb, .inr ⟨HD2.out.trans hr, rfl, hl⟩⟩
    · have HBx : Hid (Below w.heap.size w x) := But.below HB1.out hb (Nat.le_refl _) (by simp)
      exact ⟨rfl, But.of HBx.out, .inr ⟨by rw [HD.out, allT2_none hA]; rfl, rfl, HL.out.call HBx.out⟩⟩
  · have ht1 : ((s[0].toNat : Int) == 69) = false := by rw [hc, beq_eq_false_iff_ne]; omega
    by_cases e2 : c = 82
    · subst e2
      have HD : Hid (doB S im n s = (one1 s).bind fun x => dropO S im n x) := do_82 h0 HB0.out
      have ht2 : ((s[0].toNat : Int) == 82) = true := by rw [hc]; rfl
      have hS0 : AnyC ((w.alloc (.cells #[.string s, .int .i64 1, .bool false] 98)).drew) := trivial
      clear e1
      go_enter Tryz.func48, Tryz.ntmps48
      go_wp2_with fail
      refine wp_region_held_drew (S := AnyC) (by kernel_rfl) hS0 (fun hS => WH.out ?_)
      refine held_op 0 7 (.pointer (some ⟨b, 0, none⟩)) rfl rfl (by kernel_rfl) (by kernel_rfl) (by kernel_rfl) (fun _ _ _ h => h) (by kernel_rfl) hS (fun Y hC => ?_) (fun K hK => ?_)
      · skip
        go_simp
      go_simp
      refine hK _ ?_
      clear hK K
      refine held_op 1 6 (.pointer (some ⟨b, 0, none⟩)) rfl rfl (by kernel_rfl) (by kernel_rfl) (by kernel_rfl) (fun _ _ _ h => h) (by kernel_rfl) hS (fun Y hC => ?_) (fun K hK => ?_)
      · skip
        go_simp
      go_simp
      refine hK _ ?_
      clear hK K
      refine held_op 2 5 (.pointer (some ⟨b, 0, none⟩)) rfl rfl (by kernel_rfl) (by kernel_rfl) (by kernel_rfl) (fun _ _ _ h => h) (by kernel_rfl) hS (fun Y hC => ?_) (fun K hK => ?_)
      · skip
        go_simp
      go_simp
      refine hK _ ?_
      clear hK K
      refine held_op 3 4 (.pointer (some ⟨w.heap.size, 0, none⟩)) rfl rfl (by kernel_rfl) (by kernel_rfl) (by kernel_rfl) (fun _ _ _ h => h) (by kernel_rfl) hS (fun Y hC => ?_) (fun K hK => ?_)
      · skip
        go_simp
      go_simp
      refine hK _ ?_
      clear hK K
      refine held_one 4 3 rfl (by kernel_rfl) rfl (by kernel_rfl) (fun K hK => ?_)
      go_simp
      refine (texts_any te pe w.heap.size 1 s _ (by exact ⟨HRR.out.row, by omega, by omega⟩) hs (by omega) (by exact (HP.out.alloc _).below (Below.refl _ _).drew) HX.out).mono ?_
      rintro e x ⟨hb, ⟨R, v, hA, rfl, ho⟩ | ⟨hA, rfl⟩⟩
      · obtain ⟨nm, hst, rfl⟩ := allT1_some hA
        obtain ⟨g, cap, rfl, hg1, hg2, hg3⟩ := own_one ho
        have HBx : Hid (Below w.heap.size w x) := But.below HB1.out.drew hb (Nat.le_refl _) (by simp)
        have HD2 : Hid (doB S im n s = dropO S im n nm) := by show _ = _; rw [HD.out, hst]; rfl
        have hSx : AnyC x := trivial
        clear hb hA hst ho hg1 HB1 HRR hS
        go_wp2_with fail
        refine hK.out _ _ hSx ?_
        clear hK K
        refine held_op 5 2 (.pointer (some ⟨g, 0, none⟩)) rfl rfl (by kernel_rfl) (by kernel_rfl) (by kernel_rfl) (fun _ _ _ h => h) (by kernel_rfl) hSx (fun Y hC => ?_) (fun K hK => ?_)
        · go_simp
        go_simp
        refine hK _ ?_
        clear hK K
        refine held_one 6 1 rfl (by kernel_rfl) rfl (by kernel_rfl) (fun K hK => ?_)
        go_simp
        refine hK.out _ _ hSx ?_
        clear hK K
        refine held_one 7 0 rfl (by kernel_rfl) rfl (by kernel_rfl) (fun K hK => ?_)
        go_simp
        refine (drop_any te pe b S im n at_ nm _ (HL.out.call HBx.out) HRT.out (HP.out.below HBx.out) hG).mono ?_
        rintro e y ⟨hb, ⟨r, hr, rfl, hl⟩ | ⟨hr, rfl, hl⟩⟩
        · have hSy : AnyC y := trivial
          have HBy : Hid (But b w y) := (But.of HBx.out).trans hb
          have HLy : Hid (LgIs y b r at_) := hl
          have HR2 : Hid (doB S im n s = some r) := HD2.out.trans hr
          clear hb hl hr
          go_wp2_with fail
          refine hK.out _ _ hSy ?_
          clear hK K
          refine held_done (by kernel_rfl) ?_
          go_wp2
          go_end0
          exact ⟨HBy.out, .inl ⟨r, HR2.out, rfl, HLy.out⟩⟩
        · exact ⟨rfl, (But.of HBx.out).trans hb, .inr ⟨HD2.out.trans hr, rfl, hl⟩⟩
      · have HBx : Hid (Below w.heap.size w x) := But.below HB1.out.drew hb (Nat.le_refl _) (by simp)
        exact ⟨rfl, But.of HBx.out, .inr ⟨by rw [HD.out, allT1_none hA]; rfl, rfl, HL.out.call HBx.out⟩⟩
    · have ht2 : ((s[0].toNat : Int) == 82) = false := by rw [hc, beq_eq_false_iff_ne]; omega
      by_cases e3 : c = 80
      · subst e3
        have HD : Hid (doB S im n s = (one1 s).bind fun x => pubO S im n x) := do_80 h0 HB0.out
        have ht3 : ((s[0].toNat : Int) == 80) = true := by rw [hc]; rfl
        clear e1 e2
        go_enter Tryz.func48, Tryz.ntmps48
        go_wp2_with fail
        refine (texts_any te pe w.heap.size 1 s _ HRR.out hs (by omega) (HP.out.alloc _) HX.out).mono ?_
        rintro e x ⟨hb, ⟨R, v, hA, rfl, ho⟩ | ⟨hA, rfl⟩⟩
        · obtain ⟨im2, hst, rfl⟩ := allT1_some hA
          obtain ⟨g, cap, rfl, hg1, hg2, hg3⟩ := own_one ho
          have HBx : Hid (Below w.heap.size w x) := But.below HB1.out hb (Nat.le_refl _) (by simp)
          have HD2 : Hid (doB S im n s = pubO S im n im2) := by show _ = _; rw [HD.out, hst]; rfl
          have HBD : Hid (im2.size ≤ 8000) := one1_bd h0 hst
          clear hb hA hst ho hg1 HB1 HRR
          go_wp2_with fail
          refine (publish_any te pe b S im n at_ im2 _ (HL.out.call HBx.out) hn HBD.out (HP.out.below HBx.out) (HE.out.below HBx.out) hG).mono ?_
          rintro e y ⟨hb, ⟨r, hr, rfl, hl⟩ | ⟨hr, rfl, hl⟩⟩
          · have HBy : Hid (But b w y) := (But.of HBx.out).trans hb
            have HLy : Hid (LgIs y b r at_) := hl
            have HR2 : Hid (doB S im n s = some r) := HD2.out.trans hr
            clear hb hl hr
            go_wp2
            go_end0
            exact ⟨HBy.out, .inl ⟨r, HR2.out, rfl, HLy.out⟩⟩
          · exact ⟨rfl, (But.of HBx.out).trans hb, .inr ⟨HD2.out.trans hr, rfl, hl⟩⟩
        · have HBx : Hid (Below w.heap.size w x) := But.below HB1.out hb (Nat.le_refl _) (by simp)
          exact ⟨rfl, But.of HBx.out, .inr ⟨by rw [HD.out, allT1_none hA]; rfl, rfl, HL.out.call HBx.out⟩⟩
      · have ht3 : ((s[0].toNat : Int) == 80) = false := by rw [hc, beq_eq_false_iff_ne]; omega
        have HD : Hid (doB S im n s = none) := do_no h0 (by rw [HB0.out]; omega) (by rw [HB0.out]; omega) (by rw [HB0.out]; omega)
        have hp : (w.alloc (.cells #[.string s, .int .i64 1, .bool false] 98)).cell? ⟨0, 0, none⟩ = some (.iface te pe) := HP.out.alloc _
        clear e1 e2 e3
        go_enter Tryz.func48, Tryz.ntmps48
        go_wp2
        exact ⟨rfl, But.of HB1.out, .inr ⟨HD.out, rfl, HL.out.call HB1.out⟩⟩
end Go.Proofs.YtnhehdobpibgkaaGreatDoor
