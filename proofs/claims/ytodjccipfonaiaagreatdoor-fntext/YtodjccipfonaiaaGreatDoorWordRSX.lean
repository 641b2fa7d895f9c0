/- Words that are read, by the specification. -/
import Derived.Test.YtodjccipfonaiaaGreatDoorRows
import Derived.WalkKit
import Derived.WalkSpells
import Derived.WalkLawsBesides
import Derived.Outline
import Derived.RegionTactic
import Derived.BigRegion
import Derived.Deep.QuietTactic
import Derived.BigQuiet
import Derived.Deep.RegionHeld3
import Derived.Test.YtodjccipfonaiaaGreatDoorBun0
import Derived.Test.YtodjccipfonaiaaGreatDoorBun1
import Derived.Test.YtodjccipfonaiaaGreatDoorBun16
import Derived.Test.YtodjccipfonaiaaGreatDoorNumSX
namespace Go.Proofs.YtodjccipfonaiaaGreatDoor
open Go.RowKit
set_option linter.unusedVariables false

/- Where the first sign stands. -/
def signL : List UInt8 → Nat
  | [] => 0
  | c :: L => if c.toNat = 43 ∨ c.toNat = 45 then 0 else signL L + 1
def signI (s : ByteArray) : Nat := signL s.data.toList
theorem sign_step (s : ByteArray) (k : Nat) (h : k < s.size) (hc : ¬ (s[k].toNat = 43 ∨ s[k].toNat = 45)) : signL (s.data.toList.drop k) = signL (s.data.toList.drop (k + 1)) + 1 := by
  rw [drop_at s k h]
  show (if s[k].toNat = 43 ∨ s[k].toNat = 45 then 0 else signL _ + 1) = _
  rw [if_neg hc]
theorem sign_here (s : ByteArray) (k : Nat) (h : k < s.size) (hc : s[k].toNat = 43 ∨ s[k].toNat = 45) : signL (s.data.toList.drop k) = 0 := by
  rw [drop_at s k h]
  show (if s[k].toNat = 43 ∨ s[k].toNat = 45 then 0 else signL _ + 1) = _
  rw [if_pos hc]
theorem sign_end (s : ByteArray) (k : Nat) (h : s.size ≤ k) : signL (s.data.toList.drop k) = 0 := by
  rw [List.drop_of_length_le (by simpa using h)]; rfl
def signed (c : Nat) (n : Int) : Int := if c = 45 then -n else n
def wordN (nm : ByteArray) (n : Int) : Option (ByteArray × Int) := if ¬ nm = ⟨#[]⟩ ∧ wordB nm n = true then some (nm, n) else none
def wordR (s : ByteArray) : Option (ByteArray × Int) :=
  match numW s with
  | some n => some (⟨#[]⟩, n)
  | none => if h : signI s < s.size then (match numW (s.extract (signI s + 1) s.size) with | some n => wordN (s.extract 0 (signI s)) (signed s[signI s].toNat n) | none => none) else wordN (s.extract 0 (signI s)) 0
def WordOut (s : ByteArray) (w : World) (e : Ending) (w' : World) : Prop := ∃ (nm : ByteArray) (n : Int) (ok : Bool), e = .returned (.tuple #[.agg #[.string nm, .int .i64 n], .bool ok]) ∧ wordR s = (if ok then some (nm, n) else none) ∧ Below w.heap.size w w'
theorem wordOut_mk {s : ByteArray} {w w' : World} (nm : ByteArray) (n : Int) (ok : Bool) (h : wordR s = (if ok then some (nm, n) else none)) (hb : Below w.heap.size w w') : WordOut s w (.returned (.tuple #[.agg #[.string nm, .int .i64 n], .bool ok])) w' := ⟨nm, n, ok, rfl, h, hb⟩
theorem wordN_f {nm : ByteArray} {n : Int} (h : nm = ⟨#[]⟩) : wordN nm n = none := if_neg (fun k => k.1 h)
theorem wordN_t {nm : ByteArray} {n : Int} (h : ¬ nm = ⟨#[]⟩) : wordN nm n = if wordB nm n then some (nm, n) else none := by
  unfold wordN
  by_cases hb : wordB nm n = true
  · rw [if_pos hb, if_pos (And.intro h hb)]
  · rw [if_neg hb, if_neg (fun k => hb k.2)]
theorem two_only2 {W : World} {B : Nat} {t : TypeId} {v0 v1 : Value} (h : W.heap[B]? = some (.cells #[v0, v1] t (0, 0))) : W.cell? ⟨B, 0, none⟩ = some v0 ∧ W.cell? ⟨B, 1, none⟩ = some v1 := ⟨(two_cells h).1, (two_cells h).2.1⟩
set_option maxRecDepth 100000 in
set_option maxHeartbeats 1600000 in
theorem l03Word_any (s : ByteArray) (w : World) (hs : s.size ≤ maxLen) : Calls Tryz.prog 49 #[.string s] w (WordOut s w) := by
  have HM : Hid (s.size ≤ maxLen) := hs
  have HNX : Hid (∀ a b, (s.extract a b).size ≤ maxLen) := fun a b => by rw [ByteArray.size_extract]; have := hs; omega
  unfold maxLen at hs
  go_enter Tryz.func49, Tryz.ntmps49
  go_wp2_with fail
  refine (l03Num_any s _ HM.out).mono ?_
  rintro e x1 ⟨n, ok, rfl, hW, hn0, hn1, hx⟩
  have hxe := hx.symm
  subst hxe
  clear hx
  have HW : Hid (_ = _) := hW
  clear hW
  cases ok
  · have HW0 : Hid (numW s = none) := HW.out
    go_wp2
    go_loopw [6] (fun i wr => ∃ k : Nat, k ≤ s.size ∧ i = .int .i64 k ∧ Hid (wr = w.alloc (.cells #[.string ⟨#[]⟩, .int .i64 0] 30)) ∧ Hid (signI s = k + signL (s.data.toList.drop k))) (fun i _ => s.size - (intOf i).toNat)
    case atStart => exact ⟨0, by omega, rfl, rfl, by show _ = _; simp [signI]⟩
    case round =>
      obtain ⟨k, hk, rfl, HX, HS⟩ := hrel
      by_cases hlt : k < s.size
      · have hi0 : (0 : Int) ≤ (k : Int) := by omega
        have hi1 : (k : Int) < (s.size : Int) := by omega
        by_cases hc : s[k].toNat = 43 ∨ s[k].toNat = 45
        · have HK : Hid (signI s = k) := by show _ = _; rw [HS.out, sign_here s k hlt hc]; rfl
          rcases hc with hc | hc
          · have e1 : ((s[k].toNat : Int) != 43) = false := by rw [bne_eq_false_iff_eq]; omega
            have e3 : ((s[k].toNat : Int) == 45) = false := by rw [beq_eq_false_iff_ne]; omega
            have HC : Hid (s[k].toNat = 43) := hc
            clear hc
            have hi2 : (k : Int) + 1 ≤ (s.size : Int) := by omega
            have hw := HX.out
            subst hw
            have HNS : Hid ((s.extract 0 k).size ≤ maxLen) := HNX.out _ _
            go_wp2_with fail
            refine (l03Num_any (s.extract (k + 1) s.size) _ (HNX.out _ _)).mono ?_
            rintro e x2 ⟨n2, ok2, rfl, hW2, hm0, hm1, hx⟩
            have hxe := hx.symm
            subst hxe
            clear hx
            have HWR : Hid (wordR s = if ok2 then wordN (s.extract 0 k) (n2) else none) := by
              show _ = _
              unfold wordR
              rw [HW0.out]
              show (if h : signI s < s.size then _ else wordN (s.extract 0 (signI s)) 0) = _
              have hk2 := HK.out
              rw [dif_pos (by omega)]
              simp only [hk2]
              rw [hW2, HC.out]
              cases ok2 <;> rfl
            clear hW2
            generalize s.extract 0 k = nm at *
            have HI0 : Hid (_ = _) := heap_new2 w (.cells #[.string ⟨#[]⟩, .int .i64 0] 30) (.cells #[.string nm, .int .i64 0] 30)
            have HR0 : Hid (_ = _) := heap_more (heap_alloc_new w (.cells #[.string ⟨#[]⟩, .int .i64 0] 30)) (.cells #[.string nm, .int .i64 0] 30)
            have HB0 : Hid (Below w.heap.size w _) := below_more (below_new w (.cells #[.string ⟨#[]⟩, .int .i64 0] 30)) (.cells #[.string nm, .int .i64 0] 30)
            generalize (w.alloc (.cells #[.string ⟨#[]⟩, .int .i64 0] 30)).alloc (.cells #[.string nm, .int .i64 0] 30) = y0' at *
            obtain ⟨c0, c1, z0, z1⟩ := two_cells HI0.out
            obtain ⟨r0, r1, y0, y1⟩ := two_cells HR0.out
            have hge : w.heap.size ≤ w.heap.size + 1 := by omega
            cases ok2
            · go_wp2
              exact bodyPost_ret (results_row1 Tryz.results49 _ _ w.heap.size 30 _ (0, 0) _ rfl (set_two (set_far (a := ⟨w.heap.size + 1, 1, none⟩) (v := .int .i64 (n2)) (by simp) (HR0.out))) Tryz.underlying30 rfl (by kernel_rfl)) rfl (wordOut_mk nm (n2) false (by rw [HWR.out]; rfl) (((Below.setCell (p := ⟨w.heap.size + 1, 1, none⟩) (HB0.out) hge (.int .i64 (n2))).setCell (Nat.le_refl _) _).setCell (Nat.le_refl _) _))
            · have HWR : Hid (wordR s = wordN nm (n2)) := HWR.out
              go_wp2_with fail
              have HI : Hid (_ = _) := heap_set (HI0.out) 1 (.int .i64 (n2))
              simp only [List.setIfInBounds_toArray, List.set_cons_zero, List.set_cons_succ] at HI
              have HR : Hid (_ = _) := set_far (a := ⟨w.heap.size + 1, 1, none⟩) (v := .int .i64 (n2)) (by simp) (HR0.out)
              have HB : Hid (Below w.heap.size w _) := Below.setCell (p := ⟨w.heap.size + 1, 1, none⟩) (HB0.out) hge (.int .i64 (n2))
              clear c0 c1 z0 z1 r0 r1 y0 y1 HI0 HR0 HB0
              generalize (y0').setCell ⟨w.heap.size + 1, 1, none⟩ (.int .i64 (n2)) = y at *
              obtain ⟨c0, c1, z0, z1⟩ := two_cells HI.out
              obtain ⟨r0, r1, y0, y1⟩ := two_cells HR.out
              by_cases hnm : nm = ⟨#[]⟩
              · have hn1 : (nm.toList == []) = true := by rw [hnm, ByteArray.toList_eq]; rfl
                have HF : Hid (wordR s = none) := HWR.out.trans (wordN_f hnm)
                clear hnm
                first
                | (go_region_with (first
                  | (go_at_call 9999; skip)))
                | fail
                all_goals
                  go_wp2
                  exact bodyPost_ret (results_row1 Tryz.results49 _ _ w.heap.size 30 _ (0, 0) _ rfl (heap_drewn (set_two HR.out)) Tryz.underlying30 rfl (by kernel_rfl)) rfl (wordOut_mk nm (n2) false (by rw [HF.out]; rfl) (((HB.out.setCell (Nat.le_refl _) _).setCell (Nat.le_refl _) _).drew))
              · have hn1 := text_no [] hnm
                have HF : Hid (wordR s = if wordB nm (n2) then some (nm, n2) else none) := HWR.out.trans (wordN_t hnm)
                clear hnm
                go_region_held3 (fun w' => w'.cell? ⟨w.heap.size + 1, 0, none⟩ = some (.string nm) ∧ w'.cell? ⟨w.heap.size + 1, 1, none⟩ = some (.int .i64 (n2))) (exact two_only2 (by repeat (first | with_reducible exact HI.out | with_reducible apply heap_drewn | with_reducible refine set_far (by simp) ?_))) (first
                  | (go_at_call 31; refine (l03Right_any nm (n2) _ HNS.out).mono ?_; rintro e x5 ⟨rfl, hb⟩; have HR5 : Hid (_ = _) := heap_keep (by repeat (first | with_reducible exact HR.out | with_reducible apply heap_drewn)) hb; have HB5 : Hid (Below w.heap.size w x5) := below_call (by repeat (first | with_reducible exact HB.out | with_reducible refine Below.drew ?_)) hb; have HI : Hid (_ = _) := heap_keep (by repeat (first | with_reducible exact HI.out | with_reducible apply heap_drewn)) hb; clear hb; obtain ⟨r0, r1, y0, y1⟩ := two_cells HR5.out))
                go_wp2
                exact bodyPost_ret (results_row1 Tryz.results49 _ _ w.heap.size 30 _ (0, 0) _ rfl (set_two HR5.out) Tryz.underlying30 rfl (by kernel_rfl)) rfl (wordOut_mk nm (n2) _ (HF.out) ((HB5.out.setCell (Nat.le_refl _) _).setCell (Nat.le_refl _) _))
          · have e1 : ((s[k].toNat : Int) != 43) = true := by rw [bne_iff_ne]; omega
            have e2 : ((s[k].toNat : Int) != 45) = false := by rw [bne_eq_false_iff_eq]; omega
            have e3 : ((s[k].toNat : Int) == 45) = true := by rw [beq_iff_eq]; omega
            have HC : Hid (s[k].toNat = 45) := hc
            clear hc
            have hi2 : (k : Int) + 1 ≤ (s.size : Int) := by omega
            have hw := HX.out
            subst hw
            have HNS : Hid ((s.extract 0 k).size ≤ maxLen) := HNX.out _ _
            go_wp2_with fail
            refine (l03Num_any (s.extract (k + 1) s.size) _ (HNX.out _ _)).mono ?_
            rintro e x2 ⟨n2, ok2, rfl, hW2, hm0, hm1, hx⟩
            have hxe := hx.symm
            subst hxe
            clear hx
            have HWR : Hid (wordR s = if ok2 then wordN (s.extract 0 k) (-n2) else none) := by
              show _ = _
              unfold wordR
              rw [HW0.out]
              show (if h : signI s < s.size then _ else wordN (s.extract 0 (signI s)) 0) = _
              have hk2 := HK.out
              rw [dif_pos (by omega)]
              simp only [hk2]
              rw [hW2, HC.out]
              cases ok2 <;> rfl
            clear hW2
            generalize s.extract 0 k = nm at *
            have HI0 : Hid (_ = _) := heap_new2 w (.cells #[.string ⟨#[]⟩, .int .i64 0] 30) (.cells #[.string nm, .int .i64 0] 30)
            have HR0 : Hid (_ = _) := heap_more (heap_alloc_new w (.cells #[.string ⟨#[]⟩, .int .i64 0] 30)) (.cells #[.string nm, .int .i64 0] 30)
            have HB0 : Hid (Below w.heap.size w _) := below_more (below_new w (.cells #[.string ⟨#[]⟩, .int .i64 0] 30)) (.cells #[.string nm, .int .i64 0] 30)
            generalize (w.alloc (.cells #[.string ⟨#[]⟩, .int .i64 0] 30)).alloc (.cells #[.string nm, .int .i64 0] 30) = y0' at *
            obtain ⟨c0, c1, z0, z1⟩ := two_cells HI0.out
            obtain ⟨r0, r1, y0, y1⟩ := two_cells HR0.out
            have hge : w.heap.size ≤ w.heap.size + 1 := by omega
            cases ok2
            · go_wp2
              exact bodyPost_ret (results_row1 Tryz.results49 _ _ w.heap.size 30 _ (0, 0) _ rfl (set_two (set_far (a := ⟨w.heap.size + 1, 1, none⟩) (v := .int .i64 (-n2)) (by simp) (set_far (a := ⟨w.heap.size + 1, 1, none⟩) (v := .int .i64 (n2)) (by simp) (HR0.out)))) Tryz.underlying30 rfl (by kernel_rfl)) rfl (wordOut_mk nm (-n2) false (by rw [HWR.out]; rfl) (((Below.setCell (p := ⟨w.heap.size + 1, 1, none⟩) (Below.setCell (p := ⟨w.heap.size + 1, 1, none⟩) (HB0.out) hge (.int .i64 (n2))) hge (.int .i64 (-n2))).setCell (Nat.le_refl _) _).setCell (Nat.le_refl _) _))
            · have HWR : Hid (wordR s = wordN nm (-n2)) := HWR.out
              go_wp2_with fail
              have HI : Hid (_ = _) := heap_set (heap_set (HI0.out) 1 (.int .i64 (n2))) 1 (.int .i64 (-n2))
              simp only [List.setIfInBounds_toArray, List.set_cons_zero, List.set_cons_succ] at HI
              have HR : Hid (_ = _) := set_far (a := ⟨w.heap.size + 1, 1, none⟩) (v := .int .i64 (-n2)) (by simp) (set_far (a := ⟨w.heap.size + 1, 1, none⟩) (v := .int .i64 (n2)) (by simp) (HR0.out))
              have HB : Hid (Below w.heap.size w _) := Below.setCell (p := ⟨w.heap.size + 1, 1, none⟩) (Below.setCell (p := ⟨w.heap.size + 1, 1, none⟩) (HB0.out) hge (.int .i64 (n2))) hge (.int .i64 (-n2))
              clear c0 c1 z0 z1 r0 r1 y0 y1 HI0 HR0 HB0
              generalize ((y0').setCell ⟨w.heap.size + 1, 1, none⟩ (.int .i64 (n2))).setCell ⟨w.heap.size + 1, 1, none⟩ (.int .i64 (-n2)) = y at *
              obtain ⟨c0, c1, z0, z1⟩ := two_cells HI.out
              obtain ⟨r0, r1, y0, y1⟩ := two_cells HR.out
              by_cases hnm : nm = ⟨#[]⟩
              · have hn1 : (nm.toList == []) = true := by rw [hnm, ByteArray.toList_eq]; rfl
                have HF : Hid (wordR s = none) := HWR.out.trans (wordN_f hnm)
                clear hnm
                first
                | (go_region_with (first
                  | (go_at_call 9999; skip)))
                | fail
                all_goals
                  go_wp2
                  exact bodyPost_ret (results_row1 Tryz.results49 _ _ w.heap.size 30 _ (0, 0) _ rfl (heap_drewn (set_two HR.out)) Tryz.underlying30 rfl (by kernel_rfl)) rfl (wordOut_mk nm (-n2) false (by rw [HF.out]; rfl) (((HB.out.setCell (Nat.le_refl _) _).setCell (Nat.le_refl _) _).drew))
              · have hn1 := text_no [] hnm
                have HF : Hid (wordR s = if wordB nm (-n2) then some (nm, -n2) else none) := HWR.out.trans (wordN_t hnm)
                clear hnm
                go_region_held3 (fun w' => w'.cell? ⟨w.heap.size + 1, 0, none⟩ = some (.string nm) ∧ w'.cell? ⟨w.heap.size + 1, 1, none⟩ = some (.int .i64 (-n2))) (exact two_only2 (by repeat (first | with_reducible exact HI.out | with_reducible apply heap_drewn | with_reducible refine set_far (by simp) ?_))) (first
                  | (go_at_call 31; refine (l03Right_any nm (-n2) _ HNS.out).mono ?_; rintro e x5 ⟨rfl, hb⟩; have HR5 : Hid (_ = _) := heap_keep (by repeat (first | with_reducible exact HR.out | with_reducible apply heap_drewn)) hb; have HB5 : Hid (Below w.heap.size w x5) := below_call (by repeat (first | with_reducible exact HB.out | with_reducible refine Below.drew ?_)) hb; have HI : Hid (_ = _) := heap_keep (by repeat (first | with_reducible exact HI.out | with_reducible apply heap_drewn)) hb; clear hb; obtain ⟨r0, r1, y0, y1⟩ := two_cells HR5.out))
                go_wp2
                exact bodyPost_ret (results_row1 Tryz.results49 _ _ w.heap.size 30 _ (0, 0) _ rfl (set_two HR5.out) Tryz.underlying30 rfl (by kernel_rfl)) rfl (wordOut_mk nm (-n2) _ (HF.out) ((HB5.out.setCell (Nat.le_refl _) _).setCell (Nat.le_refl _) _))
        · have HN : Hid (_ = _) := sign_step s k hlt hc
          have e1 : ((s[k].toNat : Int) != 43) = true := by rw [bne_iff_ne]; omega
          have e2 : ((s[k].toNat : Int) != 45) = true := by rw [bne_iff_ne]; omega
          clear hc
          go_wp2
          exact ⟨⟨k + 1, by omega, by go_num, HX.out, by show _ = _; rw [HS.out, HN.out]; omega⟩, by simp [intOf]; omega⟩
      · obtain rfl : k = s.size := by omega
        have HK : Hid (signI s = s.size) := by show _ = _; rw [HS.out, sign_end s _ (Nat.le_refl _)]; rfl
        have hw := HX.out
        subst hw
        have HWR : Hid (wordR s = wordN s 0) := by
          show _ = _
          have e : s.extract 0 (signI s) = s := by rw [HK.out]; simp
          unfold wordR; rw [HW0.out]; show (if h : signI s < s.size then _ else wordN (s.extract 0 (signI s)) 0) = _; rw [dif_neg (by rw [HK.out]; omega), e]
        have HNS : Hid (s.size ≤ maxLen) := HM.out
        go_wp2
        have HI : Hid (_ = _) := heap_new2 w (.cells #[.string ⟨#[]⟩, .int .i64 0] 30) (.cells #[.string s, .int .i64 0] 30)
        have HR : Hid (_ = _) := heap_more (heap_alloc_new w (.cells #[.string ⟨#[]⟩, .int .i64 0] 30)) (.cells #[.string s, .int .i64 0] 30)
        have HB : Hid (Below w.heap.size w _) := below_more (below_new w (.cells #[.string ⟨#[]⟩, .int .i64 0] 30)) (.cells #[.string s, .int .i64 0] 30)
        generalize (w.alloc (.cells #[.string ⟨#[]⟩, .int .i64 0] 30)).alloc (.cells #[.string s, .int .i64 0] 30) = y at *
        obtain ⟨c0, c1, z0, z1⟩ := two_cells HI.out
        obtain ⟨r0, r1, y0, y1⟩ := two_cells HR.out
        by_cases hnm : s = ⟨#[]⟩
        · have hn1 : (s.toList == []) = true := by rw [hnm, ByteArray.toList_eq]; rfl
          have HF : Hid (wordR s = none) := HWR.out.trans (wordN_f hnm)
          clear hnm
          first
          | (go_region_with (first
            | (go_at_call 9999; skip)))
          | fail
          all_goals
            go_wp2
            exact bodyPost_ret (results_row1 Tryz.results49 _ _ w.heap.size 30 _ (0, 0) _ rfl (heap_drewn (set_two HR.out)) Tryz.underlying30 rfl (by kernel_rfl)) rfl (wordOut_mk s (0) false (by rw [HF.out]; rfl) (((HB.out.setCell (Nat.le_refl _) _).setCell (Nat.le_refl _) _).drew))
        · have hn1 := text_no [] hnm
          have HF : Hid (wordR s = if wordB s (0) then some (s, 0) else none) := HWR.out.trans (wordN_t hnm)
          clear hnm
          go_region_held3 (fun w' => w'.cell? ⟨w.heap.size + 1, 0, none⟩ = some (.string s) ∧ w'.cell? ⟨w.heap.size + 1, 1, none⟩ = some (.int .i64 (0))) (exact two_only2 (by repeat (first | with_reducible exact HI.out | with_reducible apply heap_drewn | with_reducible refine set_far (by simp) ?_))) (first
            | (go_at_call 31; refine (l03Right_any s (0) _ HNS.out).mono ?_; rintro e x5 ⟨rfl, hb⟩; have HR5 : Hid (_ = _) := heap_keep (by repeat (first | with_reducible exact HR.out | with_reducible apply heap_drewn)) hb; have HB5 : Hid (Below w.heap.size w x5) := below_call (by repeat (first | with_reducible exact HB.out | with_reducible refine Below.drew ?_)) hb; have HI : Hid (_ = _) := heap_keep (by repeat (first | with_reducible exact HI.out | with_reducible apply heap_drewn)) hb; clear hb; obtain ⟨r0, r1, y0, y1⟩ := two_cells HR5.out))
          go_wp2
          exact bodyPost_ret (results_row1 Tryz.results49 _ _ w.heap.size 30 _ (0, 0) _ rfl (set_two HR5.out) Tryz.underlying30 rfl (by kernel_rfl)) rfl (wordOut_mk s (0) _ (HF.out) ((HB5.out.setCell (Nat.le_refl _) _).setCell (Nat.le_refl _) _))
  · have HT : Hid (wordR s = some (⟨#[]⟩, n)) := by show _ = _; unfold wordR; rw [HW.out]; rfl
    go_wp2
    exact bodyPost_ret (results_row1 Tryz.results49 _ _ w.heap.size 30 _ (0, 0) _ rfl (heap_alloc_new _ _) Tryz.underlying30 rfl (by kernel_rfl)) rfl (wordOut_mk ⟨#[]⟩ n true (by rw [HT.out]; rfl) (below_new _ _))
end Go.Proofs.YtodjccipfonaiaaGreatDoor
