/- ObjectRight of the specification. -/
import Derived.Test.YtcnjeeckkpiilaaRows
import Derived.WalkKit
import Derived.WalkSpells
import Derived.WalkLawsBesides
import Derived.Outline
import Derived.Laws.Cover1
import Derived.RegionTactic
import Derived.BigRegion
import Derived.Deep.QuietTactic
import Derived.BigQuiet
import Derived.Deep.RegionHeld3
import Derived.Test.YtcnjeeckkpiilaaBun0
import Derived.Test.YtcnjeeckkpiilaaBun1
import Derived.Test.YtcnjeeckkpiilaaObjPX
namespace Go.Proofs.Ytcnjeeckkpiilaa
open Go.RowKit
set_option linter.unusedVariables false

theorem objB_sym {W : List Int} {S : List symE} {R : List refE} (h : symsB W.length S = false) : objB W S R = false := by
  unfold objB; rw [h]; cases wordsB W <;> cases decide (W.length ≤ 300) <;> rfl
theorem objB_ref {W : List Int} {S : List symE} {R : List refE} (h : refsB W.length R = false) : objB W S R = false := by
  unfold objB; rw [h]; cases wordsB W <;> cases decide (W.length ≤ 300) <;> cases symsB W.length S <;> rfl
theorem objB_word {W : List Int} {S : List symE} {R : List refE} (h : wordsB W = false) : objB W S R = false := by
  unfold objB; rw [h]; cases decide (W.length ≤ 300) <;> rfl
set_option maxRecDepth 100000 in
set_option maxHeartbeats 6400000 in
theorem specObject_any (a b c : Option Addr) (W : List Int) (S : List symE) (R : List refE) (ka kb kc : Nat) (w : World) (hO : ObjIs w a b c W S R) (hF : ObjFits W S R) : Calls Try.prog 31 #[.agg #[.slice a W.length ka, .slice b S.length kb, .slice c R.length kc]] w fun e w' => e = .returned (.bool (objB W S R)) ∧ Below w.heap.size w w' := by
  have HO : Hid (ObjIs w a b c W S R) := hO
  have HF : Hid (ObjFits W S R) := hF
  have hwl := hF.wl
  have hsl := hF.sl
  have hrl := hF.rl
  clear hO hF
  by_cases h3 : 300 < W.length
  · have h3' : (300 : Int) < (W.length : Int) := by omega
    go_enter Try.func31, Try.ntmps31
    go_wp2
    go_ret
    exact ⟨ret_bool (objB_300 h3).symm, below_new _ _⟩
  have h3' : ¬ (300 : Int) < (W.length : Int) := by omega
  have HI : Hid (_ = _) := objB_is (S := S) (R := R) h3
  go_enter Try.func31, Try.ntmps31
  go_wp2
  go_loopw [4] (fun i wr => ∃ k : Nat, k ≤ W.length ∧ i = .int .i64 k ∧ Hid (wordsB W = wordsB (W.drop k)) ∧ Hid (wr.heap[w.heap.size]? = some (.cells #[.slice a W.length ka, .slice b S.length kb, .slice c R.length kc] 34 (0, 0))) ∧ Hid (Below w.heap.size w wr)) (fun i _ => W.length - (intOf i).toNat)
  case atStart => exact ⟨0, by omega, rfl, rfl, heap_alloc_new w _, below_new w _⟩
  case round =>
    obtain ⟨k, hk, rfl, HD, HV, HB⟩ := hrel
    obtain ⟨c0, c1, c2⟩ := cells3o HV.out
    by_cases hlt : k < W.length
    · obtain ⟨x, rfl, hx, hc⟩ := (HO.out.ws.below HB.out) (by omega)
      have hck := hc k hlt
      clear hc
      have HS : Hid (_ = _) := wordsB_step W k hlt
      generalize hx' : W[k] = n at *
      clear hx'
      have hi0 : (0 : Int) ≤ (k : Int) := by omega
      have hi1 : (k : Int) < (W.length : Int) := by omega
      go_wp2_with fail
      refine (l02Word_any n _).mono ?_
      rintro e w1 ⟨rfl, rfl⟩
      cases hb : isB n 0 65535
      · go_wp2
        go_ret
        exact ⟨ret_bool (objB_word (by rw [HD.out, HS.out, hb]; rfl)).symm, HB.out⟩
      · go_wp2
        go_roundw
        case rel => exact ⟨k + 1, by omega, by go_num, by show _ = _; rw [HD.out, HS.out, hb]; rfl, HV.out, HB.out⟩
        case measure => simp [intOf]; omega
    · have HWB : Hid (wordsB W = true) := by show _ = _; rw [HD.out, List.drop_of_length_le (by omega)]; rfl
      have HV0 : Hid (wr.heap[w.heap.size]? = some (.cells #[.slice a W.length ka, .slice b S.length kb, .slice c R.length kc] 34 (0, 0))) := HV.out
      have HB0 : Hid (Below w.heap.size w wr) := HB.out
      go_wp2
      clear c0 c1 c2 HV HB hk hlt HD
      go_loopw [5] (fun i wr => ∃ k : Nat, k ≤ S.length ∧ i = .int .i64 k ∧ Hid (∀ t, t < k → symOk W.length S t = true) ∧ Hid (wr.heap[w.heap.size]? = some (.cells #[.slice a W.length ka, .slice b S.length kb, .slice c R.length kc] 34 (0, 0))) ∧ Hid (Below w.heap.size w wr)) (fun i _ => S.length - (intOf i).toNat)
      case atStart => exact ⟨0, by omega, rfl, fun t h => by omega, HV0.out, HB0.out⟩
      case round =>
        clear HV0 HB0
        obtain ⟨k, hk, rfl, HFA, HV, HB⟩ := hrel
        obtain ⟨c0, c1, c2⟩ := cells3o HV.out
        by_cases hlt : k < S.length
        · obtain ⟨x, rfl, hx, hE⟩ := (HO.out.ss.below HB.out).elem k hlt
          obtain ⟨e0, e1, e2⟩ := ElemAt.three hE
          have m0 := HF.out.st S[k] (List.getElem_mem hlt)
          unfold fitssym at m0
          have hi0 : (0 : Int) ≤ (k : Int) := by omega
          have hi1 : (k : Int) < (S.length : Int) := by omega
          have HNO : Hid (symOk W.length S k = false → objB W S R = false) := fun h => objB_sym (symsB_no hlt h)
          have HYES : Hid (symOk W.length S k = true → ∀ t, t < k + 1 → symOk W.length S t = true) := fun h => all_upto HFA.out h
          clear hE
          have HM : Hid (S[k].1.size ≤ maxLen) := by show _ ≤ _; unfold maxLen; omega
          by_cases hk0 : k = 0
          · have HOK : Hid (symOk W.length S k = (nameB S[k].1 && isB S[k].2.1 0 W.length)) := by subst hk0; exact sym0 hlt
            have hg0 : decide (0 < k) = false := by rw [hk0]; rfl
            clear hk0
            generalize S[k] = s at *
            obtain ⟨nm, at1, gl⟩ := s
            dsimp only at *
            cases hn1 : nameB nm
            · have HN : Hid (nameB nm = false) := hn1
              clear hn1
              have HQ : Hid (symOk W.length S k = false) := by show _ = _; rw [HOK.out, HN.out]; rfl
              go_wp2_with fail
              go_quiet (first | (go_at_call 65; exact Calls.quiet_of_same (specName_is _ HM.out HN.out)))
              go_wp2
              go_ret
              exact ⟨ret_bool (HNO.out HQ.out).symm, below_drewS HB.out _⟩
            · have HN : Hid (nameB nm = true) := hn1
              clear hn1
              cases hi : isB at1 0 W.length
              · have HI1 : Hid (isB at1 0 W.length = false) := hi
                clear hi
                have HQ : Hid (symOk W.length S k = false) := by show _ = _; rw [HOK.out, HN.out, HI1.out]; rfl
                go_wp2_with fail
                go_quiet (first | (go_at_call 65; exact Calls.quiet_of_same (specName_is _ HM.out HN.out)) | (go_at_call 66; exact Calls.quiet_of_same (l02Is_is _ HI1.out)))
                go_wp2
                go_ret
                exact ⟨ret_bool (HNO.out HQ.out).symm, below_drewS HB.out _⟩
              · have HI1 : Hid (isB at1 0 W.length = true) := hi
                clear hi
                have HQ : Hid (symOk W.length S k = true) := by show _ = _; rw [HOK.out, HN.out, HI1.out]; rfl
                go_wp2_with fail
                go_quiet (first | (go_at_call 65; exact Calls.quiet_of_same (specName_is _ HM.out HN.out)) | (go_at_call 66; exact Calls.quiet_of_same (l02Is_is _ HI1.out)))
                go_wp2
                go_roundw
                case rel => exact ⟨k + 1, by omega, by go_num, HYES.out HQ.out, HV.out, below_drewS HB.out _⟩
                case measure => simp [intOf]; omega
          · obtain ⟨j, rfl⟩ : ∃ j, k = j + 1 := ⟨k - 1, by omega⟩
            obtain ⟨x2, hx2, hx3, hE2⟩ := (HO.out.ss.below HB.out).elem j (by omega)
            cases hx2
            have d0 := (ElemAt.three hE2).1
            have HOK : Hid (_ = _) := symS (n := W.length) hlt
            clear hk0 hE2
            have hj0 : (0 : Int) ≤ (j : Int) := by omega
            have hj1 : (j : Int) < (S.length : Int) := by omega
            have hj2 : (j : Int) + 1 < (S.length : Int) := by omega
            have hj3 : (0 : Int) ≤ (j : Int) + 1 := by omega
            have hg0 : decide ((0 : Int) < (j : Int) + 1) = true := decide_eq_true (by omega)
            generalize S[j + 1] = s at *
            generalize S[j].1 = pn at *
            obtain ⟨nm, at1, gl⟩ := s
            dsimp only at *
            cases hn1 : nameB nm
            · have HN : Hid (nameB nm = false) := hn1
              clear hn1
              have HQ : Hid (symOk W.length S (j + 1) = false) := by show _ = _; rw [HOK.out, HN.out]; rfl
              go_wp2_with fail
              go_quiet (first | (go_at_call 65; exact Calls.quiet_of_same (specName_is _ HM.out HN.out)))
              go_wp2
              go_ret
              exact ⟨ret_bool (HNO.out HQ.out).symm, below_drewS HB.out _⟩
            · have HN : Hid (nameB nm = true) := hn1
              clear hn1
              cases hi : isB at1 0 W.length
              · have HI1 : Hid (isB at1 0 W.length = false) := hi
                clear hi
                have HQ : Hid (symOk W.length S (j + 1) = false) := by show _ = _; rw [HOK.out, HN.out, HI1.out]; rfl
                go_wp2_with fail
                go_quiet (first | (go_at_call 65; exact Calls.quiet_of_same (specName_is _ HM.out HN.out)) | (go_at_call 66; exact Calls.quiet_of_same (l02Is_is _ HI1.out)))
                go_wp2
                go_ret
                exact ⟨ret_bool (HNO.out HQ.out).symm, below_drewS HB.out _⟩
              · have HI1 : Hid (isB at1 0 W.length = true) := hi
                clear hi
                cases hu : upB pn nm
                · have HU : Hid (upB pn nm = false) := hu
                  have hu2 : Op.bytesLess pn.toList nm.toList = false := hu
                  clear hu
                  have HQ : Hid (symOk W.length S (j + 1) = false) := by show _ = _; rw [HOK.out, HN.out, HI1.out, HU.out]; rfl
                  go_wp2_with fail
                  go_quiet (first | (go_at_call 65; exact Calls.quiet_of_same (specName_is _ HM.out HN.out)) | (go_at_call 66; exact Calls.quiet_of_same (l02Is_is _ HI1.out)))
                  go_wp2
                  go_ret
                  exact ⟨ret_bool (HNO.out HQ.out).symm, below_drewS HB.out _⟩
                · have HU : Hid (upB pn nm = true) := hu
                  have hu2 : Op.bytesLess pn.toList nm.toList = true := hu
                  clear hu
                  have HQ : Hid (symOk W.length S (j + 1) = true) := by show _ = _; rw [HOK.out, HN.out, HI1.out, HU.out]; rfl
                  go_wp2_with fail
                  go_quiet (first | (go_at_call 65; exact Calls.quiet_of_same (specName_is _ HM.out HN.out)) | (go_at_call 66; exact Calls.quiet_of_same (l02Is_is _ HI1.out)))
                  go_wp2
                  go_roundw
                  case rel => exact ⟨j + 1 + 1, by omega, by go_num, HYES.out HQ.out, HV.out, below_drewS HB.out _⟩
                  case measure => simp [intOf]; omega
        · have HSB : Hid (symsB W.length S = true) := decide_eq_true (fun t ht => HFA.out t (by omega))
          have HV0 : Hid (wr.heap[w.heap.size]? = some (.cells #[.slice a W.length ka, .slice b S.length kb, .slice c R.length kc] 34 (0, 0))) := HV.out
          have HB0 : Hid (Below w.heap.size w wr) := HB.out
          go_wp2
          clear c0 c1 c2 HV HB hk hlt HFA
          go_loopw [6] (fun i wr => ∃ k : Nat, k ≤ R.length ∧ i = .int .i64 k ∧ Hid (∀ t, t < k → refOk W.length R t = true) ∧ Hid (wr.heap[w.heap.size]? = some (.cells #[.slice a W.length ka, .slice b S.length kb, .slice c R.length kc] 34 (0, 0))) ∧ Hid (Below w.heap.size w wr)) (fun i _ => R.length - (intOf i).toNat)
          case atStart => exact ⟨0, by omega, rfl, fun t h => by omega, HV0.out, HB0.out⟩
          case round =>
            clear HV0 HB0
            obtain ⟨k, hk, rfl, HFA, HV, HB⟩ := hrel
            obtain ⟨c0, c1, c2⟩ := cells3o HV.out
            have hBl := heap_lt HV.out
            by_cases hlt : k < R.length
            · obtain ⟨x, rfl, hx, hE⟩ := (HO.out.rs.below HB.out).elem k hlt
              obtain ⟨e0, e1, e2, e3⟩ := ElemAt.four hE
              have m0 := HF.out.rt R[k] (List.getElem_mem hlt)
              unfold fitsref at m0
              have hi0 : (0 : Int) ≤ (k : Int) := by omega
              have hi1 : (k : Int) < (R.length : Int) := by omega
              have HNO : Hid (refOk W.length R k = false → objB W S R = false) := fun h => objB_ref (refsB_no hlt h)
              have HYES : Hid (refOk W.length R k = true → ∀ t, t < k + 1 → refOk W.length R t = true) := fun h => all_upto HFA.out h
              clear hE
              have HM : Hid (R[k].2.1.size ≤ maxLen) := by show _ ≤ _; unfold maxLen; omega
              by_cases hk0 : k = 0
              · have HOK : Hid (refOk W.length R k = (nameB R[k].2.1 && (isB R[k].1 0 ((W.length : Int) - 1) && isB R[k].2.2.1 (-32767) 32767))) := by subst hk0; exact ref0 hlt
                have hg0 : decide (0 < k) = false := by rw [hk0]; rfl
                clear hk0
                generalize R[k] = s at *
                obtain ⟨at1, nm, ad, jp⟩ := s
                dsimp only at *
                cases hn1 : nameB nm
                · have HN : Hid (nameB nm = false) := hn1
                  clear hn1
                  have HQ : Hid (refOk W.length R k = false) := by show _ = _; rw [HOK.out, HN.out]; rfl
                  go_wp2_with fail
                  go_quiet (first | (go_at_call 65; exact Calls.quiet_of_same (specName_is _ HM.out HN.out)))
                  go_wp2
                  go_ret
                  exact ⟨ret_bool (HNO.out HQ.out).symm, below_drewS (below_more HB.out _) _⟩
                · have HN : Hid (nameB nm = true) := hn1
                  clear hn1
                  cases hi : isB at1 0 ((W.length : Int) - 1)
                  · have HI1 : Hid (isB at1 0 ((W.length : Int) - 1) = false) := hi
                    clear hi
                    have HQ : Hid (refOk W.length R k = false) := by show _ = _; rw [HOK.out, HN.out, HI1.out]; rfl
                    go_wp2_with fail
                    go_quiet (first | (go_at_call 65; exact Calls.quiet_of_same (specName_is _ HM.out HN.out)) | (go_at_call 66; exact Calls.quiet_of_same (l02Is_is _ HI1.out)))
                    go_wp2
                    go_ret
                    exact ⟨ret_bool (HNO.out HQ.out).symm, below_drewS (below_more HB.out _) _⟩
                  · have HI1 : Hid (isB at1 0 ((W.length : Int) - 1) = true) := hi
                    clear hi
                    cases hd : isB ad (-32767) 32767
                    · have HI2 : Hid (isB ad (-32767) 32767 = false) := hd
                      clear hd
                      have HQ : Hid (refOk W.length R k = false) := by show _ = _; rw [HOK.out, HN.out, HI1.out, HI2.out]; rfl
                      go_wp2_with fail
                      go_quiet (first | (go_at_call 65; exact Calls.quiet_of_same (specName_is _ HM.out HN.out)) | (go_at_call 66; exact Calls.quiet_of_same (l02Is_is _ HI1.out)) | (go_at_call 66; exact Calls.quiet_of_same (l02Is_is _ HI2.out)))
                      go_wp2
                      go_ret
                      exact ⟨ret_bool (HNO.out HQ.out).symm, below_drewS (below_more HB.out _) _⟩
                    · have HI2 : Hid (isB ad (-32767) 32767 = true) := hd
                      clear hd
                      have HQ : Hid (refOk W.length R k = true) := by show _ = _; rw [HOK.out, HN.out, HI1.out, HI2.out]; rfl
                      go_wp2_with fail
                      go_quiet (first | (go_at_call 65; exact Calls.quiet_of_same (specName_is _ HM.out HN.out)) | (go_at_call 66; exact Calls.quiet_of_same (l02Is_is _ HI1.out)) | (go_at_call 66; exact Calls.quiet_of_same (l02Is_is _ HI2.out)))
                      go_wp2
                      go_roundw
                      case rel => exact ⟨k + 1, by omega, by go_num, HYES.out HQ.out, heap_more HV.out _, below_drewS (below_more HB.out _) _⟩
                      case measure => simp [intOf]; omega
              · obtain ⟨j, rfl⟩ : ∃ j, k = j + 1 := ⟨k - 1, by omega⟩
                have d2 := fun o => (((HO.out.rs.below HB.out).alloc o).elem j (by omega))
                have d0a : ∀ o, (wr.alloc o).cell? (x.add (j * 4)) = some (.int .i64 R[j].1) := fun o => by
                  obtain ⟨x4, hx4, _, hE4⟩ := d2 o
                  cases hx4
                  exact (ElemAt.four hE4).1
                have HOK : Hid (_ = _) := refS (n := W.length) hlt
                clear hk0 d2
                have hj0 : (0 : Int) ≤ (j : Int) := by omega
                have hj1 : (j : Int) < (R.length : Int) := by omega
                have hj2 : (j : Int) + 1 < (R.length : Int) := by omega
                have hj3 : (0 : Int) ≤ (j : Int) + 1 := by omega
                have hg0 : decide ((0 : Int) < (j : Int) + 1) = true := decide_eq_true (by omega)
                generalize R[j + 1] = s at *
                generalize R[j].1 = pa at *
                obtain ⟨at1, nm, ad, jp⟩ := s
                dsimp only at *
                cases hn1 : nameB nm
                · have HN : Hid (nameB nm = false) := hn1
                  clear hn1
                  have HQ : Hid (refOk W.length R (j + 1) = false) := by show _ = _; rw [HOK.out, HN.out]; rfl
                  go_wp2_with fail
                  go_quiet (first | (go_at_call 65; exact Calls.quiet_of_same (specName_is _ HM.out HN.out)))
                  go_wp2
                  go_ret
                  exact ⟨ret_bool (HNO.out HQ.out).symm, below_drewS (below_more HB.out _) _⟩
                · have HN : Hid (nameB nm = true) := hn1
                  clear hn1
                  cases hi : isB at1 0 ((W.length : Int) - 1)
                  · have HI1 : Hid (isB at1 0 ((W.length : Int) - 1) = false) := hi
                    clear hi
                    have HQ : Hid (refOk W.length R (j + 1) = false) := by show _ = _; rw [HOK.out, HN.out, HI1.out]; rfl
                    go_wp2_with fail
                    go_quiet (first | (go_at_call 65; exact Calls.quiet_of_same (specName_is _ HM.out HN.out)) | (go_at_call 66; exact Calls.quiet_of_same (l02Is_is _ HI1.out)))
                    go_wp2
                    go_ret
                    exact ⟨ret_bool (HNO.out HQ.out).symm, below_drewS (below_more HB.out _) _⟩
                  · have HI1 : Hid (isB at1 0 ((W.length : Int) - 1) = true) := hi
                    clear hi
                    cases hd : isB ad (-32767) 32767
                    · have HI2 : Hid (isB ad (-32767) 32767 = false) := hd
                      clear hd
                      have HQ : Hid (refOk W.length R (j + 1) = false) := by show _ = _; rw [HOK.out, HN.out, HI1.out, HI2.out]; rfl
                      go_wp2_with fail
                      go_quiet (first | (go_at_call 65; exact Calls.quiet_of_same (specName_is _ HM.out HN.out)) | (go_at_call 66; exact Calls.quiet_of_same (l02Is_is _ HI1.out)) | (go_at_call 66; exact Calls.quiet_of_same (l02Is_is _ HI2.out)))
                      go_wp2
                      go_ret
                      exact ⟨ret_bool (HNO.out HQ.out).symm, below_drewS (below_more HB.out _) _⟩
                    · have HI2 : Hid (isB ad (-32767) 32767 = true) := hd
                      clear hd
                      by_cases hu : pa < at1
                      · have HU : Hid (decide (pa < at1) = true) := decide_eq_true hu
                        have g5 : decide (at1 ≤ pa) = false := decide_eq_false (by omega)
                        clear hu
                        have HQ : Hid (refOk W.length R (j + 1) = true) := by show _ = _; rw [HOK.out, HN.out, HI1.out, HI2.out, HU.out]; rfl
                        go_wp2_with fail
                        go_quiet (first | (go_at_call 65; exact Calls.quiet_of_same (specName_is _ HM.out HN.out)) | (go_at_call 66; exact Calls.quiet_of_same (l02Is_is _ HI1.out)) | (go_at_call 66; exact Calls.quiet_of_same (l02Is_is _ HI2.out)))
                        go_wp2
                        go_roundw
                        case rel => exact ⟨j + 1 + 1, by omega, by go_num, HYES.out HQ.out, heap_more HV.out _, below_drewS (below_more HB.out _) _⟩
                        case measure => simp [intOf]; omega
                      · have HU : Hid (decide (pa < at1) = false) := decide_eq_false hu
                        have g5 : decide (at1 ≤ pa) = true := decide_eq_true (by omega)
                        clear hu
                        have HQ : Hid (refOk W.length R (j + 1) = false) := by show _ = _; rw [HOK.out, HN.out, HI1.out, HI2.out, HU.out]; rfl
                        go_wp2_with fail
                        go_quiet (first | (go_at_call 65; exact Calls.quiet_of_same (specName_is _ HM.out HN.out)) | (go_at_call 66; exact Calls.quiet_of_same (l02Is_is _ HI1.out)) | (go_at_call 66; exact Calls.quiet_of_same (l02Is_is _ HI2.out)))
                        go_wp2
                        go_ret
                        exact ⟨ret_bool (HNO.out HQ.out).symm, below_drewS (below_more HB.out _) _⟩
            · go_wp2
              go_ret
              exact ⟨ret_bool (by rw [HI.out, HWB.out, HSB.out]; exact (decide_eq_true (fun t ht => HFA.out t (by omega))).symm), HB.out⟩
end Go.Proofs.Ytcnjeeckkpiilaa
