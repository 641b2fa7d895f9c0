/- The parts of ObjectRight, by the program: Syms, Refs. -/
import Derived.Test.YtcnjeeckkpiilaaRows
import Derived.WalkKit
import Derived.WalkSpells
import Derived.WalkLawsBesides
import Derived.Outline
import Derived.Laws.Cover1
import Derived.RegionTactic
import Derived.BigRegion
import Derived.Deep.QuietTactic
import Derived.BigQuiet
import Derived.Deep.RegionHeld3
import Derived.Test.YtcnjeeckkpiilaaBun0
import Derived.Test.YtcnjeeckkpiilaaBun1
import Derived.Test.YtcnjeeckkpiilaaBun11
namespace Go.Proofs.Ytcnjeeckkpiilaa
open Go.RowKit
set_option linter.unusedVariables false

set_option maxRecDepth 100000 in
set_option maxHeartbeats 3200000 in
theorem symsRight_any (a : Option Addr) (S : List symE) (cap n : Nat) (w : World) (hR : RowIs 3 symC w a S) (hl : S.length ≤ 2000000) (hn : n ≤ 2000000) (hs : ∀ s ∈ S, fitssym s) : Calls Try.prog 73 #[.slice a S.length cap, .int .i64 (n : Nat)] w fun e w' => e = .returned (.bool (symsB n S)) ∧ Below w.heap.size w w' := by
  have HR : Hid (RowIs 3 symC w a S) := hR
  have HS : Hid (∀ s ∈ S, fitssym s) := hs
  clear hR hs
  go_enter Try.func73, Try.ntmps73
  go_wp2
  go_loopw [9] (fun i wr => ∃ k : Nat, k ≤ S.length ∧ i = .int .i64 k ∧ Hid (∀ t, t < k → symOk n S t = true) ∧ Hid (Below w.heap.size w wr)) (fun i _ => S.length - (intOf i).toNat)
  case atStart => exact ⟨0, by omega, rfl, fun t h => by omega, Below.refl _ _⟩
  case round =>
    obtain ⟨k, hk, rfl, HF, HB⟩ := hrel
    by_cases hlt : k < S.length
    · obtain ⟨x, rfl, hx, hE⟩ := (HR.out.below HB.out).elem k hlt
      obtain ⟨c0, c1, c2⟩ := ElemAt.three hE
      have m0 := HS.out S[k] (List.getElem_mem hlt)
      unfold fitssym at m0
      have hi0 : (0 : Int) ≤ (k : Int) := by omega
      have hi1 : (k : Int) < (S.length : Int) := by omega
      have HNO : Hid (symOk n S k = false → symsB n S = false) := fun h => symsB_no hlt h
      have HYES : Hid (symOk n S k = true → ∀ t, t < k + 1 → symOk n S t = true) := fun h => all_upto HF.out h
      clear hE
      have HM : Hid (S[k].1.size ≤ maxLen) := by show _ ≤ _; unfold maxLen; omega
      by_cases hk0 : k = 0
      · have HOK : Hid (symOk n S k = (nameB S[k].1 && isB S[k].2.1 0 n)) := by subst hk0; exact sym0 hlt
        have hg0 : decide (0 < k) = false := by rw [hk0]; rfl
        clear hk0
        generalize S[k] = s at *
        obtain ⟨nm, at1, gl⟩ := s
        dsimp only at *
        cases hn1 : nameB nm
        · have HN : Hid (nameB nm = false) := hn1
          have HQ : Hid (symOk n S k = false) := by show _ = _; rw [HOK.out, hn1]; rfl
          clear hn1
          go_wp2_with fail
          go_quiet (first | (go_at_call 98; exact Calls.quiet_of_same (implName_is _ HM.out HN.out)))
          go_wp2
          go_ret
          exact ⟨ret_bool (HNO.out HQ.out).symm, below_drewS (below_more HB.out _) _⟩
        · have HN : Hid (nameB nm = true) := hn1
          clear hn1
          cases hi : isB at1 0 n
          · have HQ : Hid (symOk n S k = false) := by show _ = _; rw [HOK.out, HN.out, hi]; rfl
            rcases isB_no hi with h1 | ⟨h1, h2⟩
            · have g1 : decide (at1 < 0) = true := decide_eq_true h1
              clear hi h1
              go_wp2_with fail
              go_quiet (first | (go_at_call 98; exact Calls.quiet_of_same (implName_is _ HM.out HN.out)))
              go_wp2
              go_ret
              exact ⟨ret_bool (HNO.out HQ.out).symm, below_drewS (below_more HB.out _) _⟩
            · have g1 : decide (at1 < 0) = false := decide_eq_false h1
              have g2 : decide ((n : Int) < at1) = true := decide_eq_true h2
              clear hi h1 h2
              go_wp2_with fail
              go_quiet (first | (go_at_call 98; exact Calls.quiet_of_same (implName_is _ HM.out HN.out)))
              go_wp2
              go_ret
              exact ⟨ret_bool (HNO.out HQ.out).symm, below_drewS (below_more HB.out _) _⟩
          · have HQ : Hid (symOk n S k = true) := by show _ = _; rw [HOK.out, HN.out, hi]; rfl
            have g1 : decide (at1 < 0) = false := decide_eq_false (isB_yes hi).1
            have g2 : decide ((n : Int) < at1) = false := decide_eq_false (isB_yes hi).2
            clear hi
            go_wp2_with fail
            go_quiet (first | (go_at_call 98; exact Calls.quiet_of_same (implName_is _ HM.out HN.out)))
            go_wp2
            go_roundw
            case rel => exact ⟨k + 1, by omega, by go_num, HYES.out HQ.out, below_drewS (below_more HB.out _) _⟩
            case measure => simp [intOf]; omega
      · obtain ⟨j, rfl⟩ : ∃ j, k = j + 1 := ⟨k - 1, by omega⟩
        have d2 := fun o => (((HR.out.below HB.out).alloc o).elem j (by omega))
        have d0a : ∀ o, (wr.alloc o).cell? (x.add (j * 3)) = some (.string S[j].1) := fun o => by
          obtain ⟨x4, hx4, _, hE4⟩ := d2 o
          cases hx4
          exact (ElemAt.three hE4).1
        have HOK : Hid (_ = _) := symS (n := n) hlt
        clear hk0 d2
        have hj0 : (0 : Int) ≤ (j : Int) := by omega
        have hj1 : (j : Int) < (S.length : Int) := by omega
        have hj2 : (j : Int) + 1 < (S.length : Int) := by omega
        have hj3 : (0 : Int) ≤ (j : Int) + 1 := by omega
        have hg0 : decide ((0 : Int) < (j : Int) + 1) = true := decide_eq_true (by omega)
        generalize S[j + 1] = s at *
        generalize S[j].1 = pn at *
        obtain ⟨nm, at1, gl⟩ := s
        dsimp only at *
        cases hn1 : nameB nm
        · have HN : Hid (nameB nm = false) := hn1
          have HQ : Hid (symOk n S (j + 1) = false) := by show _ = _; rw [HOK.out, hn1]; rfl
          clear hn1
          go_wp2_with fail
          go_quiet (first | (go_at_call 98; exact Calls.quiet_of_same (implName_is _ HM.out HN.out)))
          go_wp2
          go_ret
          exact ⟨ret_bool (HNO.out HQ.out).symm, below_drewS (below_more HB.out _) _⟩
        · have HN : Hid (nameB nm = true) := hn1
          clear hn1
          cases hi : isB at1 0 n
          · have HQ : Hid (symOk n S (j + 1) = false) := by show _ = _; rw [HOK.out, HN.out, hi]; rfl
            rcases isB_no hi with h1 | ⟨h1, h2⟩
            · have g1 : decide (at1 < 0) = true := decide_eq_true h1
              clear hi h1
              go_wp2_with fail
              go_quiet (first | (go_at_call 98; exact Calls.quiet_of_same (implName_is _ HM.out HN.out)))
              go_wp2
              go_ret
              exact ⟨ret_bool (HNO.out HQ.out).symm, below_drewS (below_more HB.out _) _⟩
            · have g1 : decide (at1 < 0) = false := decide_eq_false h1
              have g2 : decide ((n : Int) < at1) = true := decide_eq_true h2
              clear hi h1 h2
              go_wp2_with fail
              go_quiet (first | (go_at_call 98; exact Calls.quiet_of_same (implName_is _ HM.out HN.out)))
              go_wp2
              go_ret
              exact ⟨ret_bool (HNO.out HQ.out).symm, below_drewS (below_more HB.out _) _⟩
          · have g1 : decide (at1 < 0) = false := decide_eq_false (isB_yes hi).1
            have g2 : decide ((n : Int) < at1) = false := decide_eq_false (isB_yes hi).2
            cases hu : upB pn nm
            · have HQ : Hid (symOk n S (j + 1) = false) := by show _ = _; rw [HOK.out, HN.out, hi, hu]; rfl
              have hu2 : (Op.bytesLess nm.toList pn.toList || nm.toList == pn.toList) = true := by rw [less_tri]; show (!upB pn nm) = true; rw [hu]; rfl
              clear hi hu
              go_wp2_with fail
              go_quiet (first | (go_at_call 98; exact Calls.quiet_of_same (implName_is _ HM.out HN.out)))
              go_wp2
              go_ret
              exact ⟨ret_bool (HNO.out HQ.out).symm, below_drewS (below_more HB.out _) _⟩
            · have HQ : Hid (symOk n S (j + 1) = true) := by show _ = _; rw [HOK.out, HN.out, hi, hu]; rfl
              have hu2 : (Op.bytesLess nm.toList pn.toList || nm.toList == pn.toList) = false := by rw [less_tri]; show (!upB pn nm) = false; rw [hu]; rfl
              clear hi hu
              go_wp2_with fail
              go_quiet (first | (go_at_call 98; exact Calls.quiet_of_same (implName_is _ HM.out HN.out)))
              go_wp2
              go_roundw
              case rel => exact ⟨j + 1 + 1, by omega, by go_num, HYES.out HQ.out, below_drewS (below_more HB.out _) _⟩
              case measure => simp [intOf]; omega
    · go_wp2
      go_ret
      exact ⟨ret_bool (decide_eq_true (fun t ht => HF.out t (by omega))).symm, HB.out⟩
set_option maxRecDepth 100000 in
set_option maxHeartbeats 3200000 in
theorem refsRight_any (a : Option Addr) (R : List refE) (cap n : Nat) (w : World) (hR : RowIs 4 refC w a R) (hl : R.length ≤ 2000000) (hn : n ≤ 2000000) (hs : ∀ s ∈ R, fitsref s) : Calls Try.prog 74 #[.slice a R.length cap, .int .i64 (n : Nat)] w fun e w' => e = .returned (.bool (refsB n R)) ∧ Below w.heap.size w w' := by
  have HR : Hid (RowIs 4 refC w a R) := hR
  have HS : Hid (∀ s ∈ R, fitsref s) := hs
  clear hR hs
  go_enter Try.func74, Try.ntmps74
  go_wp2
  go_loopw [9] (fun i wr => ∃ k : Nat, k ≤ R.length ∧ i = .int .i64 k ∧ Hid (∀ t, t < k → refOk n R t = true) ∧ Hid (Below w.heap.size w wr)) (fun i _ => R.length - (intOf i).toNat)
  case atStart => exact ⟨0, by omega, rfl, fun t h => by omega, Below.refl _ _⟩
  case round =>
    obtain ⟨k, hk, rfl, HF, HB⟩ := hrel
    by_cases hlt : k < R.length
    · obtain ⟨x, rfl, hx, hE⟩ := (HR.out.below HB.out).elem k hlt
      obtain ⟨c0, c1, c2, c3⟩ := ElemAt.four hE
      have m0 := HS.out R[k] (List.getElem_mem hlt)
      unfold fitsref at m0
      have hi0 : (0 : Int) ≤ (k : Int) := by omega
      have hi1 : (k : Int) < (R.length : Int) := by omega
      have HNO : Hid (refOk n R k = false → refsB n R = false) := fun h => refsB_no hlt h
      have HYES : Hid (refOk n R k = true → ∀ t, t < k + 1 → refOk n R t = true) := fun h => all_upto HF.out h
      clear hE
      have HM : Hid (R[k].2.1.size ≤ maxLen) := by show _ ≤ _; unfold maxLen; omega
      by_cases hk0 : k = 0
      · have HOK : Hid (refOk n R k = (nameB R[k].2.1 && (isB R[k].1 0 ((n : Int) - 1) && isB R[k].2.2.1 (-32767) 32767))) := by subst hk0; exact ref0 hlt
        have hg0 : decide (0 < k) = false := by rw [hk0]; rfl
        clear hk0
        generalize R[k] = s at *
        obtain ⟨at1, nm, ad, jp⟩ := s
        dsimp only at *
        cases hn1 : nameB nm
        · have HN : Hid (nameB nm = false) := hn1
          clear hn1
          have HQ : Hid (refOk n R k = false) := by show _ = _; rw [HOK.out, HN.out]; rfl
          go_wp2_with fail
          refine (implName_is _ HM.out HN.out).mono ?_
          rintro e x1 ⟨rfl, rfl⟩
          go_wp2
          go_ret
          exact ⟨ret_bool (HNO.out HQ.out).symm, below_more HB.out _⟩
        · have HN : Hid (nameB nm = true) := hn1
          clear hn1
          cases hd : isB ad (-32767) 32767
          · have HD : Hid (isB ad (-32767) 32767 = false) := hd
            rcases isB_no hd with h1 | ⟨h1, h2⟩
            · have HA : Hid (isB ad (-32767) 32767 = false) := hd
              have g1 : decide (ad < -32767) = true := decide_eq_true h1
              clear hd
              have HQ : Hid (refOk n R k = false) := by show _ = _; rw [HOK.out, HA.out]; cases nameB nm <;> cases isB at1 0 ((n : Int) - 1) <;> rfl
              go_wp2_with fail
              refine (implName_is _ HM.out HN.out).mono ?_
              rintro e x1 ⟨rfl, rfl⟩
              go_wp2
              go_ret
              exact ⟨ret_bool (HNO.out HQ.out).symm, below_more HB.out _⟩
            · have HA : Hid (isB ad (-32767) 32767 = false) := hd
              have g1 : decide (ad < -32767) = false := decide_eq_false h1
              have g2 : decide (32767 < ad) = true := decide_eq_true h2
              clear hd
              have HQ : Hid (refOk n R k = false) := by show _ = _; rw [HOK.out, HA.out]; cases nameB nm <;> cases isB at1 0 ((n : Int) - 1) <;> rfl
              go_wp2_with fail
              refine (implName_is _ HM.out HN.out).mono ?_
              rintro e x1 ⟨rfl, rfl⟩
              go_wp2
              go_ret
              exact ⟨ret_bool (HNO.out HQ.out).symm, below_more HB.out _⟩
          · have HA : Hid (isB ad (-32767) 32767 = true) := hd
            have a1 := (isB_yes hd).1
            have a2 := (isB_yes hd).2
            have g1 : decide (ad < -32767) = false := decide_eq_false a1
            have g2 : decide (32767 < ad) = false := decide_eq_false a2
            clear hd
            cases ht : isB at1 0 ((n : Int) - 1)
            · rcases isB_no ht with h1 | ⟨h1, h2⟩
              · have HT : Hid (isB at1 0 ((n : Int) - 1) = false) := ht
                have g3 : decide (at1 < 0) = true := decide_eq_true h1
                clear ht
                have HQ : Hid (refOk n R k = false) := by show _ = _; rw [HOK.out, HN.out, HT.out]; rfl
                go_wp2_with fail
                refine (implName_is _ HM.out HN.out).mono ?_
                rintro e x1 ⟨rfl, rfl⟩
                go_wp2
                go_quiet (fail)
                go_wp2
                go_ret
                exact ⟨ret_bool (HNO.out HQ.out).symm, below_drewS (below_more HB.out _) _⟩
              · have HT : Hid (isB at1 0 ((n : Int) - 1) = false) := ht
                have g3 : decide (at1 < 0) = false := decide_eq_false h1
                have g4 : decide ((n : Int) ≤ at1) = true := decide_eq_true (by omega)
                clear ht
                have HQ : Hid (refOk n R k = false) := by show _ = _; rw [HOK.out, HN.out, HT.out]; rfl
                go_wp2_with fail
                refine (implName_is _ HM.out HN.out).mono ?_
                rintro e x1 ⟨rfl, rfl⟩
                go_wp2
                go_quiet (fail)
                go_wp2
                go_ret
                exact ⟨ret_bool (HNO.out HQ.out).symm, below_drewS (below_more HB.out _) _⟩
            · have HT : Hid (isB at1 0 ((n : Int) - 1) = true) := ht
              have t1 := (isB_yes ht).1
              have t2 := (isB_yes ht).2
              have g3 : decide (at1 < 0) = false := decide_eq_false t1
              have g4 : decide ((n : Int) ≤ at1) = false := decide_eq_false (by omega)
              clear ht
              have HQ : Hid (refOk n R k = true) := by show _ = _; rw [HOK.out, HN.out, HA.out, HT.out]; rfl
              go_wp2_with fail
              refine (implName_is _ HM.out HN.out).mono ?_
              rintro e x1 ⟨rfl, rfl⟩
              go_wp2
              go_quiet (fail)
              go_wp2
              go_roundw
              case rel => exact ⟨k + 1, by omega, by go_num, HYES.out HQ.out, below_drewS (below_more HB.out _) _⟩
              case measure => simp [intOf]; omega
      · obtain ⟨j, rfl⟩ : ∃ j, k = j + 1 := ⟨k - 1, by omega⟩
        have d2 := fun o => (((HR.out.below HB.out).alloc o).elem j (by omega))
        have d0a : ∀ o, (wr.alloc o).cell? (x.add (j * 4)) = some (.int .i64 R[j].1) := fun o => by
          obtain ⟨x4, hx4, _, hE4⟩ := d2 o
          cases hx4
          exact (ElemAt.four hE4).1
        have HOK : Hid (_ = _) := refS (n := n) hlt
        clear hk0 d2
        have hj0 : (0 : Int) ≤ (j : Int) := by omega
        have hj1 : (j : Int) < (R.length : Int) := by omega
        have hj2 : (j : Int) + 1 < (R.length : Int) := by omega
        have hj3 : (0 : Int) ≤ (j : Int) + 1 := by omega
        have hg0 : decide ((0 : Int) < (j : Int) + 1) = true := decide_eq_true (by omega)
        generalize R[j + 1] = s at *
        generalize R[j].1 = pa at *
        obtain ⟨at1, nm, ad, jp⟩ := s
        dsimp only at *
        cases hn1 : nameB nm
        · have HN : Hid (nameB nm = false) := hn1
          clear hn1
          have HQ : Hid (refOk n R (j + 1) = false) := by show _ = _; rw [HOK.out, HN.out]; rfl
          go_wp2_with fail
          refine (implName_is _ HM.out HN.out).mono ?_
          rintro e x1 ⟨rfl, rfl⟩
          go_wp2
          go_ret
          exact ⟨ret_bool (HNO.out HQ.out).symm, below_more HB.out _⟩
        · have HN : Hid (nameB nm = true) := hn1
          clear hn1
          cases hd : isB ad (-32767) 32767
          · have HD : Hid (isB ad (-32767) 32767 = false) := hd
            rcases isB_no hd with h1 | ⟨h1, h2⟩
            · have HA : Hid (isB ad (-32767) 32767 = false) := hd
              have g1 : decide (ad < -32767) = true := decide_eq_true h1
              clear hd
              have HQ : Hid (refOk n R (j + 1) = false) := by show _ = _; rw [HOK.out, HA.out]; cases nameB nm <;> cases isB at1 0 ((n : Int) - 1) <;> rfl
              go_wp2_with fail
              refine (implName_is _ HM.out HN.out).mono ?_
              rintro e x1 ⟨rfl, rfl⟩
              go_wp2
              go_ret
              exact ⟨ret_bool (HNO.out HQ.out).symm, below_more HB.out _⟩
            · have HA : Hid (isB ad (-32767) 32767 = false) := hd
              have g1 : decide (ad < -32767) = false := decide_eq_false h1
              have g2 : decide (32767 < ad) = true := decide_eq_true h2
              clear hd
              have HQ : Hid (refOk n R (j + 1) = false) := by show _ = _; rw [HOK.out, HA.out]; cases nameB nm <;> cases isB at1 0 ((n : Int) - 1) <;> rfl
              go_wp2_with fail
              refine (implName_is _ HM.out HN.out).mono ?_
              rintro e x1 ⟨rfl, rfl⟩
              go_wp2
              go_ret
              exact ⟨ret_bool (HNO.out HQ.out).symm, below_more HB.out _⟩
          · have HA : Hid (isB ad (-32767) 32767 = true) := hd
            have a1 := (isB_yes hd).1
            have a2 := (isB_yes hd).2
            have g1 : decide (ad < -32767) = false := decide_eq_false a1
            have g2 : decide (32767 < ad) = false := decide_eq_false a2
            clear hd
            cases ht : isB at1 0 ((n : Int) - 1)
            · rcases isB_no ht with h1 | ⟨h1, h2⟩
              · have HT : Hid (isB at1 0 ((n : Int) - 1) = false) := ht
                have g3 : decide (at1 < 0) = true := decide_eq_true h1
                clear ht
                have HQ : Hid (refOk n R (j + 1) = false) := by show _ = _; rw [HOK.out, HN.out, HT.out]; rfl
                go_wp2_with fail
                refine (implName_is _ HM.out HN.out).mono ?_
                rintro e x1 ⟨rfl, rfl⟩
                go_wp2
                go_quiet (fail)
                go_wp2
                go_ret
                exact ⟨ret_bool (HNO.out HQ.out).symm, below_drewS (below_more HB.out _) _⟩
              · have HT : Hid (isB at1 0 ((n : Int) - 1) = false) := ht
                have g3 : decide (at1 < 0) = false := decide_eq_false h1
                have g4 : decide ((n : Int) ≤ at1) = true := decide_eq_true (by omega)
                clear ht
                have HQ : Hid (refOk n R (j + 1) = false) := by show _ = _; rw [HOK.out, HN.out, HT.out]; rfl
                go_wp2_with fail
                refine (implName_is _ HM.out HN.out).mono ?_
                rintro e x1 ⟨rfl, rfl⟩
                go_wp2
                go_quiet (fail)
                go_wp2
                go_ret
                exact ⟨ret_bool (HNO.out HQ.out).symm, below_drewS (below_more HB.out _) _⟩
            · have HT : Hid (isB at1 0 ((n : Int) - 1) = true) := ht
              have t1 := (isB_yes ht).1
              have t2 := (isB_yes ht).2
              have g3 : decide (at1 < 0) = false := decide_eq_false t1
              have g4 : decide ((n : Int) ≤ at1) = false := decide_eq_false (by omega)
              clear ht
              by_cases hu : pa < at1
              · have HU : Hid (decide (pa < at1) = true) := decide_eq_true hu
                have g5 : decide (at1 ≤ pa) = false := decide_eq_false (by omega)
                clear hu
                have HQ : Hid (refOk n R (j + 1) = true) := by show _ = _; rw [HOK.out, HN.out, HA.out, HT.out, HU.out]; rfl
                go_wp2_with fail
                refine (implName_is _ HM.out HN.out).mono ?_
                rintro e x1 ⟨rfl, rfl⟩
                go_wp2
                go_quiet (fail)
                go_wp2
                go_roundw
                case rel => exact ⟨j + 1 + 1, by omega, by go_num, HYES.out HQ.out, below_drewS (below_more HB.out _) _⟩
                case measure => simp [intOf]; omega
              · have HU : Hid (decide (pa < at1) = false) := decide_eq_false hu
                have g5 : decide (at1 ≤ pa) = true := decide_eq_true (by omega)
                clear hu
                have HQ : Hid (refOk n R (j + 1) = false) := by show _ = _; rw [HOK.out, HN.out, HA.out, HT.out, HU.out]; rfl
                go_wp2_with fail
                refine (implName_is _ HM.out HN.out).mono ?_
                rintro e x1 ⟨rfl, rfl⟩
                go_wp2
                go_quiet (fail)
                go_wp2
                go_ret
                exact ⟨ret_bool (HNO.out HQ.out).symm, below_drewS (below_more HB.out _) _⟩
    · go_wp2
      go_ret
      exact ⟨ret_bool (decide_eq_true (fun t ht => HF.out t (by omega))).symm, HB.out⟩
end Go.Proofs.Ytcnjeeckkpiilaa
