/- What a record does, by the specification: a source goes. -/
import Derived.Test.YtnhehdobpibgkaaGreatDoorRows
import Derived.WalkKit
import Derived.WalkSpells
import Derived.WalkLawsBesides
import Derived.Outline
import Derived.RegionTactic
import Derived.BigRegion
import Derived.Deep.RegionHeld3
import Derived.Deep.RegionLaw
import Derived.Test.YtnhehdobpibgkaaGreatDoorBun0
import Derived.Test.YtnhehdobpibgkaaGreatDoorBun11
import Derived.Test.YtnhehdobpibgkaaGreatDoorHexRSZq
import Derived.Test.YtnhehdobpibgkaaGreatDoorBun22
import Derived.Test.YtnhehdobpibgkaaGreatDoorBun24
import Derived.Test.YtnhehdobpibgkaaGreatDoorPutSZq
import Derived.Test.YtnhehdobpibgkaaGreatDoorDoPZq
import Derived.Test.YtnhehdobpibgkaaGreatDoorGoThPZq
import Derived.Test.YtnhehdobpibgkaaGreatDoorBun40
namespace Go.Proofs.YtnhehdobpibgkaaGreatDoor
open Go.RowKit
set_option linter.unusedVariables false

set_option maxRecDepth 100000 in
set_option maxHeartbeats 3200000 in
theorem l08Do_R (b : Nat) (S : List Src) (im : ByteArray) (n : Nat) (at_ : Int) (s : ByteArray) (w : World) (h : StIs w b (S, im, n) at_) (hr : rightT (S, im, n)) (hs : s.size ≤ 8000) (hn : n ≤ 1000000) (hpos : 0 < s.size) (hc : s[0].toNat = 82) (t1 : ByteArray) (q1 : Int) (hp1 : pT s 1 = some (t1, q1)) :
    Calls Tryz.prog 44 #[.pointer (some ⟨b, 0, none⟩), .string s] w (SD b (S, im, n) at_ (doB S im n s) w) := by
  have HL : Hid (StIs w b (S, im, n) at_) := h
  have HRT : Hid (rightT (S, im, n)) := hr
  have hl : S.length ≤ 20 := hr.2.1
  have hbw : b < w.heap.size := by obtain ⟨v, hv, _⟩ := h; exact heap_lt hv
  have hue := full_text hpos
  have hx0 : (0 : Int) < (s.size : Int) := by omega
  have HB0 : Hid (b0 s = ((82 : Nat) : Int)) := by show _ = _; rw [b0_at hpos, hc]
  have HP1 : Hid (pT s 1 = some (t1, q1)) := hp1
  have hbd1 := pT_bdI (by omega) (by omega) hp1
  have ht1 := hbd1.1
  have hq1a := hbd1.2.1
  have hq1b := hbd1.2.2
  clear h hr hp1 hbd1
  have HD : Hid (doB S im n s = (one1 s).bind fun x => dropO S im n x) := do_82 hpos HB0.out
  have hc1 : ((s[0].toNat : Int) == 69) = false := by rw [hc]; rfl
  have hc2 : ((s[0].toNat : Int) == 82) = true := by rw [hc]; rfl
  obtain ⟨v, hrow, hown⟩ := HL.out
  obtain ⟨a, cap, rfl, hR, hnn, hcap, hmm⟩ := hown.rows srcC_len
  have HRw : Hid (w.heap[b]? = _) := hrow
  have HOw : Hid (OwnR w (b + 1) (.slice a S.length cap) S) := hown
  have HR : Hid (RowIs 2 srcC w a S) := hR
  have HN : Hid (a = none → cap = 0) := hnn
  have HM : Hid (cap ≤ maxLen) := hmm
  clear hrow hown hR hnn hmm
  have hidx := idx_has HRT.out.1 t1
  cases hh : hasL S t1
  · have HI : Hid (idxL S t1 = -1) := by show _ = _; rw [hidx, hh]; rfl
    have HD2 : Hid (doB S im n s = none) := by
      show _ = _
      rw [HD.out, one1_is HP1.out]
      split
      · show dropO S im n t1 = none
        unfold dropO; rw [if_neg (by rw [hh]; simp)]
      · rfl
    clear hidx hh
    go_enter Tryz.func44, Tryz.ntmps44
    go_wp2_with fail
    refine (specText_yes HP1.out hs (by omega) (by omega)).mono ?_
    rintro e x ⟨rfl, hb⟩
    have HBx : Hid (Below w.heap.size w x) := hb
    clear hb
    have HXc : Hid ((x.alloc (.cells #[.string t1, .int .i64 q1, .int .i64 0] 61)).heap[x.heap.size]? = _) := heap_alloc_new x _
    have HBc : Hid (Below w.heap.size w (x.alloc (.cells #[.string t1, .int .i64 q1, .int .i64 0] 61))) := below_more HBx.out _
    have HRc : Hid ((x.alloc (.cells #[.string t1, .int .i64 q1, .int .i64 0] 61)).heap[b]? = _) := heap_keep HRw.out HBc.out
    have d0 := (three_cf HXc.out).1
    have g0 := row40 HRc.out
    go_wp2_with fail
    go_region_held3 (fun w' => w'.cell? ⟨b, 0, none⟩ = some (.slice a S.length cap) ∧ w'.cell? ⟨x.heap.size, 0, none⟩ = some (.string t1)) (exact ⟨row40 (by repeat (first | with_reducible exact HRc.out | with_reducible apply heap_drewn | with_reducible apply heap_more)), row30 (by repeat (first | with_reducible exact HXc.out | with_reducible apply heap_drewn | with_reducible apply heap_more))⟩) (first
      | (go_at_call 34; refine (l04Source_is HI.out (HR.out.below (by repeat (first | with_reducible exact HBc.out | with_reducible refine Below.drew ?_))) rfl (by omega)).mono ?_; rintro e z ⟨rfl, hb⟩; have HRc : Hid (_ = _) := heap_keep (by repeat (first | with_reducible exact HRc.out | with_reducible apply heap_drewn | with_reducible apply heap_more)) hb; have HXc : Hid (_ = _) := heap_keep (by repeat (first | with_reducible exact HXc.out | with_reducible apply heap_drewn | with_reducible apply heap_more)) hb; have HBc : Hid (Below w.heap.size w z) := below_call (by repeat (first | with_reducible exact HBc.out | with_reducible refine Below.drew ?_)) hb; clear hb))
    all_goals
      go_wp2
      go_ret
      exact ⟨But.of HBc.out, .inr ⟨HD2.out, rfl, HL.out.call HBc.out⟩⟩
  · obtain ⟨hpl, hpe⟩ := has_lt hh
    obtain ⟨p, hp⟩ : ∃ p, plcL S t1 = p := ⟨_, rfl⟩
    have hpS : p < S.length := by rw [← hp]; exact hpl
    have HI : Hid (idxL S t1 = (p : Int)) := by show _ = _; rw [hidx, hh, if_pos rfl, hp]
    have HDR : Hid (dropR S t1 = S.take p ++ S.drop (p + 1)) := by show _ = _; unfold dropR; rw [hp]
    have HDO : Hid (dropO S im n t1 = some (dropR S t1, im, n)) := if_pos hh
    clear hidx hh hpl hpe hp
    by_cases hq : q1 = (s.size : Int)
    · subst hq
      have hqq : ((s.size : Int) == (s.size : Int)) = true := by simp
      have HD2 : Hid (doB S im n s = some (dropR S t1, im, n)) := by show _ = _; rw [HD.out, one1_is HP1.out, if_pos rfl]; exact HDO.out
      obtain ⟨xa, rfl⟩ : ∃ xa, a = some xa := by
        obtain ⟨y, hy, _⟩ := HR.out (by omega)
        exact ⟨y, hy⟩
      have hp0 : ¬ (p : Int) < 0 := by omega
      go_enter Tryz.func44, Tryz.ntmps44
      go_wp2_with fail
      refine (specText_yes HP1.out hs (by omega) (by omega)).mono ?_
      rintro e x ⟨rfl, hb⟩
      have HBx : Hid (Below w.heap.size w x) := hb
      clear hb
      have HXc : Hid ((x.alloc (.cells #[.string t1, .int .i64 (s.size : Int), .int .i64 0] 61)).heap[x.heap.size]? = _) := heap_alloc_new x _
      have HBc : Hid (Below w.heap.size w (x.alloc (.cells #[.string t1, .int .i64 (s.size : Int), .int .i64 0] 61))) := below_more HBx.out _
      have HRc : Hid ((x.alloc (.cells #[.string t1, .int .i64 (s.size : Int), .int .i64 0] 61)).heap[b]? = _) := heap_keep HRw.out HBc.out
      have d0 := (three_cf HXc.out).1
      have g0 := row40 HRc.out
      go_wp2_with fail
      go_region_held3 (fun w' => w'.cell? ⟨b, 0, none⟩ = some (.slice (some xa) S.length cap) ∧ w'.cell? ⟨x.heap.size, 0, none⟩ = some (.string t1)) (exact ⟨row40 (by repeat (first | with_reducible exact HRc.out | with_reducible apply heap_drewn | with_reducible apply heap_more)), row30 (by repeat (first | with_reducible exact HXc.out | with_reducible apply heap_drewn | with_reducible apply heap_more))⟩) (first
        | (go_at_call 34; refine (l04Source_is HI.out (HR.out.below (by repeat (first | with_reducible exact HBc.out | with_reducible refine Below.drew ?_))) rfl (by omega)).mono ?_; rintro e z ⟨rfl, hb⟩; have HRc : Hid (_ = _) := heap_keep (by repeat (first | with_reducible exact HRc.out | with_reducible apply heap_drewn | with_reducible apply heap_more)) hb; have HXc : Hid (_ = _) := heap_keep (by repeat (first | with_reducible exact HXc.out | with_reducible apply heap_drewn | with_reducible apply heap_more)) hb; have HBc : Hid (Below w.heap.size w z) := below_call (by repeat (first | with_reducible exact HBc.out | with_reducible refine Below.drew ?_)) hb; clear hb))
      all_goals
        obtain ⟨e0, e1, e2, _⟩ := three_cf HXc.out
        have k0 := row40 HRc.out
        have k0a := row40 (heap_more HRc.out (.cells #[] 74))
        have k0b : ((z.alloc (.cells #[] 74)).drew).cell? ⟨b, 0, none⟩ = _ := row40 (heap_drewn (heap_more HRc.out (.cells #[] 74)))
        have hcf := cut_front (x := xa) (n := S.length) (cap := cap) (k := p) 22 Tryz.underlying22 (by omega) hcap HM.out
        obtain ⟨yt, hcut, hrt⟩ := cut_tail (k := p + 1) (L := S) (x := xa) (cap := cap) 22 Tryz.underlying22 (HR.out.below HBc.out) (by omega) hcap HM.out ((p : Int) + 1) (by omega)
        obtain ⟨N, hN⟩ : ∃ N, z.heap.size = N := ⟨_, rfl⟩
        have hbN : w.heap.size ≤ N := by rw [← hN]; exact HBc.out.size
        obtain ⟨v1, y1, ap1, ho1, hg1⟩ := append_srcs (w := (z.alloc (.cells #[] 74)).drew) (B := w.heap.size) (L := []) (M := S.take p) (a := some xa) (n := p) (cap := cap) 22 Tryz.underlying22 ((own_empty hN (by omega)).call (Below.refl _ _).drew) ((((HR.out.below HBc.out).take _).alloc _).below (Below.refl _ _).drew) (fun h => by cases h) (by rw [List.length_take]; omega) (by simp) (by rw [List.length_take]; omega) (by simp; omega) 22
        rw [List.nil_append] at ho1
        have HO1N : Hid (OwnR y1 w.heap.size v1 (S.take p)) := ho1
        have HAP1 : Hid (_ = _) := ap1
        have HB1 : Hid (Below w.heap.size w y1) := ((HBc.out.alloc (by omega) _).drew).grown hg1 (by simp; omega) (fun q hq => by have : N = q := Option.some.inj hq; omega)
        have hR1 := grown_keep hg1 (heap_drewn (heap_more HRc.out (.cells #[] 74))) (fun h => by have : N = b := Option.some.inj h; omega)
        have HR1 : Hid (_ = _) := hR1
        have k1 := row40 hR1
        obtain ⟨v2, y2, ap2, ho2, hg2⟩ := append_srcs (w := y1) (B := w.heap.size) (L := S.take p) (M := S.drop (p + 1)) (a := some yt) (n := S.length - (p + 1)) (cap := cap - (p + 1)) 22 Tryz.underlying22 ho1 (hrt.below (((Below.refl _ _).alloc (Nat.le_refl _) _).drew.grown hg1 (by simp) (fun q hq => by have : N = q := Option.some.inj hq; omega))) (fun h => by cases h) (by rw [List.length_drop]) (by rw [List.length_take]; omega) (by rw [List.length_drop]; omega) (by have := HB1.out.size; omega) 22
        obtain ⟨ar, mr, cr, rfl⟩ : ∃ ar mr cr, v2 = .slice ar mr cr := by obtain ⟨ar, cr, h, _⟩ := ho2.rows srcC_len; exact ⟨ar, _, cr, h⟩
        have HAP2 : Hid (_ = _) := ap2
        have HB2 : Hid (Below w.heap.size w y2) := HB1.out.grown hg2 (by have := HB1.out.size; omega) (fun q hq => by have h := (HO1N.out.blk q hq).1; omega)
        have hR2 := grown_keep hg2 hR1 (own_ne HO1N.out (by omega))
        have HR2 : Hid (_ = _) := hR2
        have k2 := row40 hR2
        have k3 : y2.frozen? ⟨b, 0, none⟩ = false := frozen_of_row _ _ _ _ _ hR2
        have HO2 : Hid (OwnR y2 (b + 1) _ (S.take p ++ S.drop (p + 1))) := ho2.low (by omega)
        have hw : wrap64 ((p : Int) + 1) = (p : Int) + 1 := IntWalk.wrap64_in _ (by omega)
        have hw2 : IntKind.i64.wrap ((p : Int) + 1) = (p : Int) + 1 := by rw [IntWalk.i64_left]; exact hw
        clear ap1 ho1 hg1 hR1 ap2 ho2 hg2 hR2 hrt
        go_wp2_with fail
        go_region_law (first
          | (refine step_append_run (.tmp 70) (.tmp 76) 22 (by rfl) _ _ _ _ (by rfl) (by rfl) (by exact HAP1.out) ?_)
          | (refine step_append_run (.tmp 77) (.tmp 84) 22 (by rfl) _ _ _ _ (by rfl) (by rfl) (by exact HAP2.out) ?_))
        all_goals
          go_wp2
          go_ret
          exact ⟨But.setB (But.of HB2.out) (p := ⟨b, 0, none⟩) rfl _, .inl ⟨_, HD2.out, rfl, ⟨_, heap_set HR2.out 0 _, own_set (by rw [HDR.out]; exact HO2.out) (by omega)⟩⟩⟩
    · have hqq : (q1 == (s.size : Int)) = false := by rw [beq_eq_false_iff_ne]; exact hq
      have HD2 : Hid (doB S im n s = none) := by show _ = _; rw [HD.out, one1_is HP1.out, if_neg hq]; rfl
      have hqn : (q1 != (s.size : Int)) = true := by rw [bne_iff_ne]; exact hq
      have hp0 : ¬ (p : Int) < 0 := by omega
      go_enter Tryz.func44, Tryz.ntmps44
      go_wp2_with fail
      refine (specText_yes HP1.out hs (by omega) (by omega)).mono ?_
      rintro e x ⟨rfl, hb⟩
      have HBx : Hid (Below w.heap.size w x) := hb
      clear hb
      have HXc : Hid ((x.alloc (.cells #[.string t1, .int .i64 q1, .int .i64 0] 61)).heap[x.heap.size]? = _) := heap_alloc_new x _
      have HBc : Hid (Below w.heap.size w (x.alloc (.cells #[.string t1, .int .i64 q1, .int .i64 0] 61))) := below_more HBx.out _
      have HRc : Hid ((x.alloc (.cells #[.string t1, .int .i64 q1, .int .i64 0] 61)).heap[b]? = _) := heap_keep HRw.out HBc.out
      have d0 := (three_cf HXc.out).1
      have g0 := row40 HRc.out
      go_wp2_with fail
      go_region_held3 (fun w' => w'.cell? ⟨b, 0, none⟩ = some (.slice a S.length cap) ∧ w'.cell? ⟨x.heap.size, 0, none⟩ = some (.string t1)) (exact ⟨row40 (by repeat (first | with_reducible exact HRc.out | with_reducible apply heap_drewn | with_reducible apply heap_more)), row30 (by repeat (first | with_reducible exact HXc.out | with_reducible apply heap_drewn | with_reducible apply heap_more))⟩) (first
        | (go_at_call 34; refine (l04Source_is HI.out (HR.out.below (by repeat (first | with_reducible exact HBc.out | with_reducible refine Below.drew ?_))) rfl (by omega)).mono ?_; rintro e z ⟨rfl, hb⟩; have HRc : Hid (_ = _) := heap_keep (by repeat (first | with_reducible exact HRc.out | with_reducible apply heap_drewn | with_reducible apply heap_more)) hb; have HXc : Hid (_ = _) := heap_keep (by repeat (first | with_reducible exact HXc.out | with_reducible apply heap_drewn | with_reducible apply heap_more)) hb; have HBc : Hid (Below w.heap.size w z) := below_call (by repeat (first | with_reducible exact HBc.out | with_reducible refine Below.drew ?_)) hb; clear hb))
      all_goals
        obtain ⟨e0, e1, e2, _⟩ := three_cf HXc.out
        go_wp2
        go_ret
        exact ⟨But.of HBc.out, .inr ⟨HD2.out, rfl, HL.out.call HBc.out⟩⟩
end Go.Proofs.YtnhehdobpibgkaaGreatDoor
