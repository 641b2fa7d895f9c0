/- Texts that are all that is left, by the program. -/
import Derived.Test.YtnhehdobpibgkaaGreatDoorRows
import Derived.WalkKit
import Derived.WalkSpells
import Derived.WalkLawsBesides
import Derived.Outline
import Derived.RegionTactic
import Derived.BigRegion
import Derived.Deep.QuietTactic
import Derived.BigQuiet
import Derived.Test.YtnhehdobpibgkaaGreatDoorBun0
import Derived.Test.YtnhehdobpibgkaaGreatDoorBun1
import Derived.Test.YtnhehdobpibgkaaGreatDoorBun29
import Derived.Test.YtnhehdobpibgkaaGreatDoorBun36
import Derived.Test.YtnhehdobpibgkaaGreatDoorBun33
namespace Go.Proofs.YtnhehdobpibgkaaGreatDoor
open Go.RowKit
set_option linter.unusedVariables false

theorem OwnS.but {w w' : World} {B b : Nat} {v : Value} {L : List ByteArray} (h : OwnS w B v L) (hb : But b w w') (hne : b < B) : OwnS w' B v L := by
  rcases h.form with ⟨rfl, rfl⟩ | ⟨g, cap, cur, rfl, hB, hg, h4, h5, h6, h7⟩
  · exact OwnS.nil _ _
  · exact OwnS.mk hB (hb.keep hg (by omega)) h4 h5 h6 h7
theorem RR.grown {x z : World} {b : Nat} {s : ByteArray} {q : Int} {wr : Bool} {o : Obj} {row : Option Nat} (h : RR x b s q wr) (hg : (x.alloc o).grownBy z row) (hne : row ≠ some b) : RR z b s q wr :=
  ⟨(hg.block b (by have := heap_lt h.row; simp; omega) (fun e => hne e.symm)).trans (heap_more h.row o), h.lo, h.hi⟩
/- How far the texts were read: R so far, at q; wrong or not. -/
def TxM (s : ByteArray) (k : Nat) (j : Nat) (R : List ByteArray) (q : Int) (bad : Bool) : Prop :=
  (bad = true ∧ pMany (pT s) k 1 = none) ∨ (bad = false ∧ ∀ x, pMany (pT s) (k - j) q = x → pMany (pT s) k 1 = x.map fun y => (R ++ y.1, y.2))
theorem TxM.start (s : ByteArray) (k : Nat) : TxM s k 0 [] 1 false := .inr ⟨rfl, fun x hx => by
  rw [Nat.sub_zero] at hx
  rw [hx]
  cases x <;> simp⟩
theorem TxM.step {s : ByteArray} {k j : Nat} {R : List ByteArray} {q : Int} {bad : Bool} {t : ByteArray} {q2 : Int} {b2 : Bool} (h : TxM s k j R q bad) (hj : j < k) (hx : (b2 = false ∧ unlessB bad (pT s q) = some (t, q2)) ∨ (b2 = true ∧ unlessB bad (pT s q) = none)) : TxM s k (j + 1) (R ++ [t]) q2 b2 := by
  rcases h with ⟨rfl, h⟩ | ⟨rfl, h⟩
  · rcases hx with ⟨_, e⟩ | ⟨rfl, _⟩
    · simp [unlessB] at e
    · exact .inl ⟨rfl, h⟩
  · have hk : k - j = (k - (j + 1)) + 1 := by omega
    simp only [unlessB, if_neg (show ¬ (false = true) by simp)] at hx
    rcases hx with ⟨rfl, e⟩ | ⟨rfl, e⟩
    · refine .inr ⟨rfl, fun x hx => ?_⟩
      have := h _ rfl
      rw [this, hk]
      unfold pMany
      rw [e]
      simp only [Option.bind_some]
      rw [hx]
      cases x with
      | none => rfl
      | some y => simp
    · refine .inl ⟨rfl, ?_⟩
      have := h _ rfl
      rw [this, hk]
      unfold pMany
      rw [e]
      rfl
theorem TxM.done {s : ByteArray} {k : Nat} {R : List ByteArray} {q : Int} {bad : Bool} (h : TxM s k k R q bad) : pMany (pT s) k 1 = if bad then none else some (R, q) := by
  rcases h with ⟨rfl, h⟩ | ⟨rfl, h⟩
  · rw [h]; rfl
  · have := h _ rfl
    rw [this, Nat.sub_self]
    unfold pMany
    simp
/- What texts tells. -/
def allT (s : ByteArray) (k : Nat) : Option (List ByteArray) := (pMany (pT s) k 1).bind fun x => if x.2 = (s.size : Int) then some x.1 else none
def RdC (b : Nat) (s : ByteArray) (q : Int) (bad : Bool) (W : World) : Prop := W.cell? ⟨b, 0, none⟩ = some (.string s) ∧ W.cell? ⟨b, 1, none⟩ = some (.int .i64 q) ∧ W.cell? ⟨b, 2, none⟩ = some (.bool bad)
set_option maxRecDepth 100000 in
set_option maxHeartbeats 3200000 in
theorem texts_any (te : TypeId) (pe : Value) (b k : Nat) (s : ByteArray) (w : World) (h : RR w b s 1 false) (hs : s.size ≤ 8000) (hk : k ≤ 10) (hP : PanV te pe w) (hG : 0 ≠ b) :
    Calls Tryz.prog 66 #[.pointer (some ⟨b, 0, none⟩), .int .i64 (k : Int)] w fun e w' => But b w w' ∧ ((∃ R v, allT s k = some R ∧ e = .returned v ∧ OwnS w' w.heap.size v R) ∨ (allT s k = none ∧ e = panE te pe)) := by
  have HP : Hid (PanV te pe w) := hP
  have HR0 : Hid (RR w b s 1 false) := h
  have hbw := heap_lt h.row
  obtain ⟨i0, hi, hz0, hz1, hz2⟩ := info_parts infoS
  clear h hP
  go_enter Tryz.func66, Tryz.ntmps66
  go_wp2
  go_loopw [5, 7] (fun v i wr => ∃ (j : Nat) (R : List ByteArray) (q : Int) (bad : Bool), j ≤ k ∧ i = .int .i64 j ∧ R.length = j ∧ Hid (OwnS wr w.heap.size v R) ∧ Hid (RR wr b s q bad) ∧ Hid (But b w wr) ∧ Hid (TxM s k j R q bad)) (fun _ i _ => k - (intOf i).toNat)
  case atStart => exact ⟨0, [], 1, false, by omega, rfl, rfl, OwnS.nil _ _, HR0.out, But.refl _ _, TxM.start s k⟩
  case round =>
    obtain ⟨j, R, q, bad, hj, rfl, hRl, HO, HR, HB, HM⟩ := hrel
    by_cases hlt : j < k
    · have hjk : (j : Int) < (k : Int) := by omega
      go_wp2_with fail
      refine (rowText_any b s q bad _ HR.out hs).mono ?_
      rintro e x ⟨hb, t, q2, b2, rfl, hr, hx⟩
      have HO2 : Hid (OwnS x w.heap.size _ R) := HO.out.but hb hbw
      have HR2 : Hid (RR x b s q2 b2) := hr
      have HB2 : Hid (But b w x) := HB.out.trans hb
      have HM2 : Hid (TxM s k (j + 1) (R ++ [t]) q2 b2) := HM.out.step hlt hx
      have hsz := HB2.out.size
      clear hb hr hx HO HR HB HM
      go_wp2_with (at_builtin; refine wpList_append_own _ rfl (.tmp 9) (.tmp 12) 79 rfl w.heap.size 9 i0 (.string ⟨#[]⟩) 1 16 Tryz.underlying79 hi hz0 hz1 hz2 rfl (by decide) _ R.length (cellsS R) rfl (HO2.out.alloc _) ⟨x.heap.size, 0, none⟩ 1 1 [.string t] rfl rfl (cell_one_new _ _ _) (one_cellS _) (by unfold maxLen; omega) (by omega) (by simp; omega) ?_; intro v2 w2 hown2 hgrow2 _)
      have HO3 : Hid (OwnS w2 w.heap.size v2 (R ++ [t])) := by
        show World.ownsRow _ _ _ _ _ _ _
        have e : cellsS (R ++ [t]) = cellsS R ++ [.string t] := by simp [cellsS]
        rw [List.length_append, e]
        exact hown2
      have HR3 : Hid (RR w2 b s q2 b2) := RR.grown HR2.out hgrow2 (fun e => by have := (HO2.out.lt _ e).1; omega)
      have HB3 : Hid (But b w w2) := HB2.out.grown hgrow2 (fun q hq => (HO2.out.lt q hq).1)
      clear hown2 hgrow2
      go_wp2
      go_roundw
      case rel => exact ⟨j + 1, R ++ [t], q2, b2, by omega, by go_num, by simp [hRl], HO3.out, HR3.out, HB3.out, HM2.out⟩
      case measure => simp [intOf]; omega
    · obtain rfl : j = k := by omega
      have hjk : ¬ (j : Int) < (j : Int) := by omega
      have HA : Hid (allT s j = (if bad then none else if q = (s.size : Int) then some R else none)) := by
        show _ = _
        unfold allT
        rw [HM.out.done]
        cases bad <;> rfl
      obtain ⟨c0, c1, c2⟩ := HR.out.cells
      clear HM
      cases bad
      · by_cases hq : q = (s.size : Int)
        · have HQ : Hid (q = (s.size : Int)) := hq
          have hqq : (q == (s.size : Int)) = true := by rw [beq_iff_eq]; exact hq
          have hqt : decide (q = (s.size : Int)) = true := decide_eq_true hq
          clear hq
          go_wp2_with fail
          go_quiet (first | (go_at_call 46; exact Calls.quiet_of_same (mustBe_yes _)))
          go_wp2
          go_ret
          exact ⟨HB.out.call (below_drewS (Below.refl _ _) _), .inl ⟨R, _, by rw [HA.out, if_neg (by simp), if_pos HQ.out], rfl, HO.out.stays (below_drewS (Below.refl _ _) _)⟩⟩
        · have HQ : Hid (¬ q = (s.size : Int)) := hq
          have hqq : (q == (s.size : Int)) = false := by rw [beq_eq_false_iff_ne]; exact hq
          have hS0 : RdC b s q false wr.drew := ⟨c0, c1, c2⟩
          clear hq
          go_wp2_with fail
          refine wp_region_held_drew (S := RdC b s q false) (by kernel_rfl) hS0 (fun hS => WH.out ?_)
          refine held_op 0 17 (.pointer (some ⟨b, 0, none⟩)) rfl rfl (by kernel_rfl) (by kernel_rfl) (by kernel_rfl) (fun _ _ _ h => h) (by kernel_rfl) hS (fun Y hC => ?_) (fun K hK => ?_)
          · obtain ⟨c0, c1, c2⟩ := hC
            go_simp
          go_simp
          refine hK _ ?_
          clear hK K
          refine held_op 1 16 (.pointer (some ⟨b, 0, none⟩)) rfl rfl (by kernel_rfl) (by kernel_rfl) (by kernel_rfl) (fun _ _ _ h => h) (by kernel_rfl) hS (fun Y hC => ?_) (fun K hK => ?_)
          · obtain ⟨c0, c1, c2⟩ := hC
            go_simp
          go_simp
          refine hK _ ?_
          clear hK K
          refine held_op 2 15 (.pointer (some ⟨b, 2, none⟩)) rfl rfl (by kernel_rfl) (by kernel_rfl) (by kernel_rfl) (fun _ _ _ h => h) (by kernel_rfl) hS (fun Y hC => ?_) (fun K hK => ?_)
          · obtain ⟨c0, c1, c2⟩ := hC
            go_simp
          go_simp
          refine hK _ ?_
          clear hK K
          refine held_op 3 14 (.bool false) rfl rfl (by kernel_rfl) (by kernel_rfl) (by kernel_rfl) (fun _ _ _ h => h) (by kernel_rfl) hS (fun Y hC => ?_) (fun K hK => ?_)
          · obtain ⟨c0, c1, c2⟩ := hC
            go_simp
          go_simp
          refine hK _ ?_
          clear hK K
          refine held_op 4 13 (.bool true) rfl rfl (by kernel_rfl) (by kernel_rfl) (by kernel_rfl) (fun _ _ _ h => h) (by kernel_rfl) hS (fun Y hC => ?_) (fun K hK => ?_)
          · obtain ⟨c0, c1, c2⟩ := hC
            go_simp
          go_simp
          refine hK _ ?_
          clear hK K
          refine held_op 5 12 (.bool true) rfl rfl (by kernel_rfl) (by kernel_rfl) (by kernel_rfl) (fun _ _ _ h => h) (by kernel_rfl) hS (fun Y hC => ?_) (fun K hK => ?_)
          · obtain ⟨c0, c1, c2⟩ := hC
            go_simp
          go_simp
          refine hK _ ?_
          clear hK K
          refine held_op 6 11 (.pointer (some ⟨b, 0, none⟩)) rfl rfl (by kernel_rfl) (by kernel_rfl) (by kernel_rfl) (fun _ _ _ h => h) (by kernel_rfl) hS (fun Y hC => ?_) (fun K hK => ?_)
          · obtain ⟨c0, c1, c2⟩ := hC
            go_simp
          go_simp
          refine hK _ ?_
          clear hK K
          refine held_op 7 10 (.pointer (some ⟨b, 0, none⟩)) rfl rfl (by kernel_rfl) (by kernel_rfl) (by kernel_rfl) (fun _ _ _ h => h) (by kernel_rfl) hS (fun Y hC => ?_) (fun K hK => ?_)
          · obtain ⟨c0, c1, c2⟩ := hC
            go_simp
          go_simp
          refine hK _ ?_
          clear hK K
          refine held_op 8 9 (.pointer (some ⟨b, 1, none⟩)) rfl rfl (by kernel_rfl) (by kernel_rfl) (by kernel_rfl) (fun _ _ _ h => h) (by kernel_rfl) hS (fun Y hC => ?_) (fun K hK => ?_)
          · obtain ⟨c0, c1, c2⟩ := hC
            go_simp
          go_simp
          refine hK _ ?_
          clear hK K
          refine held_op 9 8 (.int .i64 q) rfl rfl (by kernel_rfl) (by kernel_rfl) (by kernel_rfl) (fun _ _ _ h => h) (by kernel_rfl) hS (fun Y hC => ?_) (fun K hK => ?_)
          · obtain ⟨c0, c1, c2⟩ := hC
            go_simp
          go_simp
          refine hK _ ?_
          clear hK K
          refine held_op 10 7 (.pointer (some ⟨b, 0, none⟩)) rfl rfl (by kernel_rfl) (by kernel_rfl) (by kernel_rfl) (fun _ _ _ h => h) (by kernel_rfl) hS (fun Y hC => ?_) (fun K hK => ?_)
          · obtain ⟨c0, c1, c2⟩ := hC
            go_simp
          go_simp
          refine hK _ ?_
          clear hK K
          refine held_op 11 6 (.pointer (some ⟨b, 0, none⟩)) rfl rfl (by kernel_rfl) (by kernel_rfl) (by kernel_rfl) (fun _ _ _ h => h) (by kernel_rfl) hS (fun Y hC => ?_) (fun K hK => ?_)
          · obtain ⟨c0, c1, c2⟩ := hC
            go_simp
          go_simp
          refine hK _ ?_
          clear hK K
          refine held_op 12 5 (.pointer (some ⟨b, 0, none⟩)) rfl rfl (by kernel_rfl) (by kernel_rfl) (by kernel_rfl) (fun _ _ _ h => h) (by kernel_rfl) hS (fun Y hC => ?_) (fun K hK => ?_)
          · obtain ⟨c0, c1, c2⟩ := hC
            go_simp
          go_simp
          refine hK _ ?_
          clear hK K
          refine held_op 13 4 (.string s) rfl rfl (by kernel_rfl) (by kernel_rfl) (by kernel_rfl) (fun _ _ _ h => h) (by kernel_rfl) hS (fun Y hC => ?_) (fun K hK => ?_)
          · obtain ⟨c0, c1, c2⟩ := hC
            go_simp
          go_simp
          refine hK _ ?_
          clear hK K
          refine held_op 14 3 (.int .i64 (s.size : Int)) rfl rfl (by kernel_rfl) (by kernel_rfl) (by kernel_rfl) (fun _ _ _ h => h) (by kernel_rfl) hS (fun Y hC => ?_) (fun K hK => ?_)
          · obtain ⟨c0, c1, c2⟩ := hC
            go_simp
          go_simp
          refine hK _ ?_
          clear hK K
          refine held_op 15 2 (.bool false) rfl rfl (by kernel_rfl) (by kernel_rfl) (by kernel_rfl) (fun _ _ _ h => h) (by kernel_rfl) hS (fun Y hC => ?_) (fun K hK => ?_)
          · obtain ⟨c0, c1, c2⟩ := hC
            go_simp
          go_simp
          refine hK _ ?_
          clear hK K
          refine held_op 16 1 (.bool false) rfl rfl (by kernel_rfl) (by kernel_rfl) (by kernel_rfl) (fun _ _ _ h => h) (by kernel_rfl) hS (fun Y hC => ?_) (fun K hK => ?_)
          · obtain ⟨c0, c1, c2⟩ := hC
            go_simp
          go_simp
          refine hK _ ?_
          clear hK K
          refine held_one 17 0 rfl (by kernel_rfl) rfl (by kernel_rfl) (fun K hK => ?_)
          go_simp
          refine (mustBe_no te pe _ ((HP.out.but HB.out hG).below (Below.refl _ _).drew)).mono ?_
          rintro e z ⟨rfl, rfl⟩
          exact ⟨rfl, HB.out.drew, .inr ⟨by rw [HA.out, if_neg (by simp), if_neg HQ.out], rfl⟩⟩
      · have hS0 : RdC b s q true wr.drew := ⟨c0, c1, c2⟩
        go_wp2_with fail
        refine wp_region_held_drew (S := RdC b s q true) (by kernel_rfl) hS0 (fun hS => WH.out ?_)
        refine held_op 0 17 (.pointer (some ⟨b, 0, none⟩)) rfl rfl (by kernel_rfl) (by kernel_rfl) (by kernel_rfl) (fun _ _ _ h => h) (by kernel_rfl) hS (fun Y hC => ?_) (fun K hK => ?_)
        · obtain ⟨c0, c1, c2⟩ := hC
          go_simp
        go_simp
        refine hK _ ?_
        clear hK K
        refine held_op 1 16 (.pointer (some ⟨b, 0, none⟩)) rfl rfl (by kernel_rfl) (by kernel_rfl) (by kernel_rfl) (fun _ _ _ h => h) (by kernel_rfl) hS (fun Y hC => ?_) (fun K hK => ?_)
        · obtain ⟨c0, c1, c2⟩ := hC
          go_simp
        go_simp
        refine hK _ ?_
        clear hK K
        refine held_op 2 15 (.pointer (some ⟨b, 2, none⟩)) rfl rfl (by kernel_rfl) (by kernel_rfl) (by kernel_rfl) (fun _ _ _ h => h) (by kernel_rfl) hS (fun Y hC => ?_) (fun K hK => ?_)
        · obtain ⟨c0, c1, c2⟩ := hC
          go_simp
        go_simp
        refine hK _ ?_
        clear hK K
        refine held_op 3 14 (.bool true) rfl rfl (by kernel_rfl) (by kernel_rfl) (by kernel_rfl) (fun _ _ _ h => h) (by kernel_rfl) hS (fun Y hC => ?_) (fun K hK => ?_)
        · obtain ⟨c0, c1, c2⟩ := hC
          go_simp
        go_simp
        refine hK _ ?_
        clear hK K
        refine held_op 4 13 (.bool false) rfl rfl (by kernel_rfl) (by kernel_rfl) (by kernel_rfl) (fun _ _ _ h => h) (by kernel_rfl) hS (fun Y hC => ?_) (fun K hK => ?_)
        · obtain ⟨c0, c1, c2⟩ := hC
          go_simp
        go_simp
        refine hK _ ?_
        clear hK K
        refine held_op 5 12 (.bool false) rfl rfl (by kernel_rfl) (by kernel_rfl) (by kernel_rfl) (fun _ _ _ h => h) (by kernel_rfl) hS (fun Y hC => ?_) (fun K hK => ?_)
        · obtain ⟨c0, c1, c2⟩ := hC
          go_simp
        go_simp
        refine hK _ ?_
        clear hK K
        refine held_skip 6 11 rfl rfl (by kernel_rfl) (by kernel_rfl) (by kernel_rfl) (fun _ _ _ h => h) (by kernel_rfl) hS (fun K hK => ?_)
        go_simp
        refine hK _ ?_
        clear hK K
        refine held_skip 7 10 rfl rfl (by kernel_rfl) (by kernel_rfl) (by kernel_rfl) (fun _ _ _ h => h) (by kernel_rfl) hS (fun K hK => ?_)
        go_simp
        refine hK _ ?_
        clear hK K
        refine held_skip 8 9 rfl rfl (by kernel_rfl) (by kernel_rfl) (by kernel_rfl) (fun _ _ _ h => h) (by kernel_rfl) hS (fun K hK => ?_)
        go_simp
        refine hK _ ?_
        clear hK K
        refine held_skip 9 8 rfl rfl (by kernel_rfl) (by kernel_rfl) (by kernel_rfl) (fun _ _ _ h => h) (by kernel_rfl) hS (fun K hK => ?_)
        go_simp
        refine hK _ ?_
        clear hK K
        refine held_skip 10 7 rfl rfl (by kernel_rfl) (by kernel_rfl) (by kernel_rfl) (fun _ _ _ h => h) (by kernel_rfl) hS (fun K hK => ?_)
        go_simp
        refine hK _ ?_
        clear hK K
        refine held_skip 11 6 rfl rfl (by kernel_rfl) (by kernel_rfl) (by kernel_rfl) (fun _ _ _ h => h) (by kernel_rfl) hS (fun K hK => ?_)
        go_simp
        refine hK _ ?_
        clear hK K
        refine held_skip 12 5 rfl rfl (by kernel_rfl) (by kernel_rfl) (by kernel_rfl) (fun _ _ _ h => h) (by kernel_rfl) hS (fun K hK => ?_)
        go_simp
        refine hK _ ?_
        clear hK K
        refine held_skip 13 4 rfl rfl (by kernel_rfl) (by kernel_rfl) (by kernel_rfl) (fun _ _ _ h => h) (by kernel_rfl) hS (fun K hK => ?_)
        go_simp
        refine hK _ ?_
        clear hK K
        refine held_skip 14 3 rfl rfl (by kernel_rfl) (by kernel_rfl) (by kernel_rfl) (fun _ _ _ h => h) (by kernel_rfl) hS (fun K hK => ?_)
        go_simp
        refine hK _ ?_
        clear hK K
        refine held_skip 15 2 rfl rfl (by kernel_rfl) (by kernel_rfl) (by kernel_rfl) (fun _ _ _ h => h) (by kernel_rfl) hS (fun K hK => ?_)
        go_simp
        refine hK _ ?_
        clear hK K
        refine held_op 16 1 (.bool false) rfl rfl (by kernel_rfl) (by kernel_rfl) (by kernel_rfl) (fun _ _ _ h => h) (by kernel_rfl) hS (fun Y hC => ?_) (fun K hK => ?_)
        · obtain ⟨c0, c1, c2⟩ := hC
          go_simp
        go_simp
        refine hK _ ?_
        clear hK K
        refine held_one 17 0 rfl (by kernel_rfl) rfl (by kernel_rfl) (fun K hK => ?_)
        go_simp
        refine (mustBe_no te pe _ ((HP.out.but HB.out hG).below (Below.refl _ _).drew)).mono ?_
        rintro e z ⟨rfl, rfl⟩
        exact ⟨rfl, HB.out.drew, .inr ⟨by rw [HA.out]; rfl, rfl⟩⟩
end Go.Proofs.YtnhehdobpibgkaaGreatDoor
