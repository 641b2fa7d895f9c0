/- What a record does, by the specification: a source is put. -/
import Derived.Test.YtnhehdobpibgkabGreatDoorRows
import Derived.WalkKit
import Derived.WalkSpells
import Derived.WalkLawsBesides
import Derived.Outline
import Derived.RegionTactic
import Derived.BigRegion
import Derived.Deep.RegionHeld3
import Derived.Deep.RegionLaw
import Derived.Test.YtnhehdobpibgkabGreatDoorBun0
import Derived.Test.YtnhehdobpibgkabGreatDoorBun1
import Derived.Test.YtnhehdobpibgkabGreatDoorBun10
import Derived.Test.YtnhehdobpibgkabGreatDoorHexRSZq
import Derived.Test.YtnhehdobpibgkabGreatDoorBun21
import Derived.Test.YtnhehdobpibgkabGreatDoorBun24
import Derived.Test.YtnhehdobpibgkabGreatDoorPutSZq
import Derived.Test.YtnhehdobpibgkabGreatDoorDoPZq
import Derived.Test.YtnhehdobpibgkabGreatDoorGoThPZq
import Derived.Test.YtnhehdobpibgkabGreatDoorDoS0Zq
namespace Go.Proofs.YtnhehdobpibgkabGreatDoor
open Go.RowKit
set_option linter.unusedVariables false

set_option maxRecDepth 100000 in
set_option maxHeartbeats 3200000 in
theorem l08Do_E (b : Nat) (S : List Src) (im : ByteArray) (n : Nat) (at_ : Int) (s : ByteArray) (w : World) (h : StIs w b (S, im, n) at_) (hr : rightT (S, im, n)) (hs : s.size ≤ 8000) (hn : n ≤ 1000000) (hpos : 0 < s.size) (hc : s[0].toNat = 69) (t1 : ByteArray) (q1 : Int) (hp1 : pT s 1 = some (t1, q1)) :
    Calls Tryz.prog 14 #[.pointer (some ⟨b, 0, none⟩), .string s] w (SD b (S, im, n) at_ (doB S im n s) w) := by
  have HL : Hid (StIs w b (S, im, n) at_) := h
  have HRT : Hid (rightT (S, im, n)) := hr
  have hl : S.length ≤ 20 := hr.2.1
  have hbw : b < w.heap.size := by obtain ⟨v, hv, _⟩ := h; exact heap_lt hv
  have hue := full_text hpos
  have hx0 : (0 : Int) < (s.size : Int) := by omega
  have HB0 : Hid (b0 s = ((69 : Nat) : Int)) := by show _ = _; rw [b0_at hpos, hc]
  have HP1 : Hid (pT s 1 = some (t1, q1)) := hp1
  have hbd1 := pT_bdI (by omega) (by omega) hp1
  have ht1 := hbd1.1
  have hq1a := hbd1.2.1
  have hq1b := hbd1.2.2
  clear h hr hp1 hbd1
  have HD : Hid (doB S im n s = (two2 s).bind fun x => putO S im n x) := do_69 hpos HB0.out
  have hc1 : ((s[0].toNat : Int) == 69) = true := by rw [hc]; rfl
  cases hp2 : pT s q1 with
  | none =>
    have HP2 : Hid (pT s q1 = none) := hp2
    have HD2 : Hid (doB S im n s = none) := by show _ = _; rw [HD.out, two2_no HP1.out hp2]; rfl
    clear hp2
    go_enter Tryz.func14, Tryz.ntmps14
    go_wp2_with fail
    refine (specText_yes HP1.out hs (by omega) (by omega)).mono ?_
    rintro e x ⟨rfl, hb⟩
    have HBx : Hid (Below w.heap.size w x) := hb
    clear hb
    go_wp2_with fail
    refine (specText_no HP2.out hs (by omega) (by omega)).mono ?_
    rintro e y ⟨⟨t, q, k, hk, rfl⟩, hb⟩
    have HBy : Hid (Below w.heap.size w y) := below_call (below_more HBx.out _) hb
    have hk2 : (k == 0) = false := by rw [beq_eq_false_iff_ne]; exact hk
    clear hb
    go_wp2
    go_ret
    exact ⟨But.of (below_more HBy.out _), .inr ⟨HD2.out, rfl, HL.out.call (below_more HBy.out _)⟩⟩
  | some tq =>
    obtain ⟨t2, q2⟩ := tq
    have HP2 : Hid (pT s q1 = some (t2, q2)) := hp2
    have ht2 := (pT_bdI (by omega) (by omega) hp2).1
    have HTW := two2_is HP1.out hp2
    clear hp2
    by_cases hq : q2 = (s.size : Int)
    · subst hq
      have hqq : ((s.size : Int) == (s.size : Int)) = true := by simp
      have HD2 : Hid (doB S im n s = putO S im n (t1, t2)) := by show _ = _; rw [HD.out, HTW, if_pos rfl]; rfl
      have HFT : Hid (∀ st ∈ putR S (t1, t2), fitsS st) := fun st hst => by
        rcases put_mem hst with rfl | hst
        · exact ⟨by show t1.size ≤ _; omega, by show t2.size ≤ _; omega⟩
        · have := HRT.out.2.2.1 st hst; exact ⟨by omega, by omega⟩
      have hlen : (putR S (t1, t2)).length ≤ 21 := by have := put_len S (t1, t2); omega
      clear HTW
      obtain ⟨v, hrow, hown⟩ := HL.out
      obtain ⟨a, cap, rfl, hR, hnn, hcap, hmm⟩ := hown.rows srcC_len
      have HRw : Hid (w.heap[b]? = _) := hrow
      have HOw : Hid (OwnR w (b + 1) (.slice a S.length cap) S) := hown
      have HR : Hid (RowIs 2 srcC w a S) := hR
      have HN : Hid (a = none → cap = 0) := hnn
      have HM : Hid (cap ≤ maxLen) := hmm
      clear hrow hown hR hnn hmm
      cases hsb : srcsB (putR S (t1, t2))
      · skip
        have HQ : Hid (srcsB (putR S (t1, t2)) = false) := hsb
        clear hsb
        go_enter Tryz.func14, Tryz.ntmps14
        go_wp2_with fail
        refine (specText_yes HP1.out hs (by omega) (by omega)).mono ?_
        rintro e x ⟨rfl, hb⟩
        have HBx : Hid (Below w.heap.size w x) := hb
        clear hb
        have HX1 : Hid ((x.alloc (.cells #[.string t1, .int .i64 q1, .int .i64 0] 36)).heap[x.heap.size]? = _) := heap_alloc_new x _
        go_wp2_with fail
        refine (specText_yes HP2.out hs (by omega) (by omega)).mono ?_
        rintro e y ⟨rfl, hb⟩
        have HXc : Hid ((y.alloc (.cells #[.string t2, .int .i64 (s.size : Int), .int .i64 0] 36)).heap[x.heap.size]? = _) := heap_more (heap_keep HX1.out hb) _
        have HYc : Hid ((y.alloc (.cells #[.string t2, .int .i64 (s.size : Int), .int .i64 0] 36)).heap[y.heap.size]? = _) := heap_alloc_new y _
        have HBc : Hid (Below w.heap.size w (y.alloc (.cells #[.string t2, .int .i64 (s.size : Int), .int .i64 0] 36))) := below_more (below_call (below_more HBx.out _) hb) _
        have HRc : Hid ((y.alloc (.cells #[.string t2, .int .i64 (s.size : Int), .int .i64 0] 36)).heap[b]? = _) := heap_keep HRw.out HBc.out
        clear hb
        obtain ⟨d0, d1, d2, _⟩ := three_cf HXc.out
        obtain ⟨f0, f1, f2, _⟩ := three_cf HYc.out
        have g0 := row40 HRc.out
        go_wp2_with fail
        go_region_held3 (fun w' => w'.cell? ⟨b, 0, none⟩ = some (.slice a S.length cap) ∧ w'.cell? ⟨x.heap.size, 0, none⟩ = some (.string t1) ∧ w'.cell? ⟨y.heap.size, 0, none⟩ = some (.string t2)) (exact ⟨row40 (by repeat (first | with_reducible exact HRc.out | with_reducible apply heap_drewn | with_reducible apply heap_more)), row30 (by repeat (first | with_reducible exact HXc.out | with_reducible apply heap_drewn | with_reducible apply heap_more)), row30 (by repeat (first | with_reducible exact HYc.out | with_reducible apply heap_drewn | with_reducible apply heap_more))⟩) (first
          | (go_at_call 21; refine (l08Put_any a S cap t1 t2 _ (HR.out.below (by repeat (first | with_reducible exact HBc.out | with_reducible refine Below.drew ?_))) hl hcap HM.out HN.out).mono ?_; rintro e z ⟨⟨vv, rfl, ho⟩, hb⟩; have HOc : Hid (OwnR z (b + 1) vv (putR S (t1, t2))) := ho.low (Nat.le_trans (show b + 1 ≤ w.heap.size by omega) HBc.out.size); obtain ⟨ar, cr, rfl, hRr, hnr, hcr, hmr⟩ := HOc.out.rows srcC_len; have HRr : Hid (RowIs 2 srcC z ar (putR S (t1, t2))) := hRr; have HRc : Hid (_ = _) := heap_keep (by repeat (first | with_reducible exact HRc.out | with_reducible apply heap_drewn | with_reducible apply heap_more)) hb; have HXc : Hid (_ = _) := heap_keep (by repeat (first | with_reducible exact HXc.out | with_reducible apply heap_drewn | with_reducible apply heap_more)) hb; have HYc : Hid (_ = _) := heap_keep (by repeat (first | with_reducible exact HYc.out | with_reducible apply heap_drewn | with_reducible apply heap_more)) hb; have HBc : Hid (Below w.heap.size w z) := below_call (by repeat (first | with_reducible exact HBc.out | with_reducible refine Below.drew ?_)) hb; clear hb ho hRr hnr hcr hmr))
        all_goals
          go_wp2_with fail
          refine (specSources_is HQ.out HRr.out rfl (by omega) HFT.out).mono ?_
          rintro e u ⟨rfl, hb⟩
          have HRu : Hid (u.heap[b]? = _) := heap_keep HRc.out hb
          have HBu : Hid (Below w.heap.size w u) := below_call HBc.out hb
          have HOu : Hid (OwnR u (b + 1) _ (putR S (t1, t2))) := HOc.out.call hb
          clear hb
          go_wp2
          go_ret
          exact ⟨But.of HBu.out, .inr ⟨by rw [HD2.out]; unfold putO; rw [if_neg (by rw [HQ.out]; simp)], rfl, ⟨_, HRu.out, HOw.out.call HBu.out⟩⟩⟩
      · skip
        have HQ : Hid (srcsB (putR S (t1, t2)) = true) := hsb
        clear hsb
        go_enter Tryz.func14, Tryz.ntmps14
        go_wp2_with fail
        refine (specText_yes HP1.out hs (by omega) (by omega)).mono ?_
        rintro e x ⟨rfl, hb⟩
        have HBx : Hid (Below w.heap.size w x) := hb
        clear hb
        have HX1 : Hid ((x.alloc (.cells #[.string t1, .int .i64 q1, .int .i64 0] 36)).heap[x.heap.size]? = _) := heap_alloc_new x _
        go_wp2_with fail
        refine (specText_yes HP2.out hs (by omega) (by omega)).mono ?_
        rintro e y ⟨rfl, hb⟩
        have HXc : Hid ((y.alloc (.cells #[.string t2, .int .i64 (s.size : Int), .int .i64 0] 36)).heap[x.heap.size]? = _) := heap_more (heap_keep HX1.out hb) _
        have HYc : Hid ((y.alloc (.cells #[.string t2, .int .i64 (s.size : Int), .int .i64 0] 36)).heap[y.heap.size]? = _) := heap_alloc_new y _
        have HBc : Hid (Below w.heap.size w (y.alloc (.cells #[.string t2, .int .i64 (s.size : Int), .int .i64 0] 36))) := below_more (below_call (below_more HBx.out _) hb) _
        have HRc : Hid ((y.alloc (.cells #[.string t2, .int .i64 (s.size : Int), .int .i64 0] 36)).heap[b]? = _) := heap_keep HRw.out HBc.out
        clear hb
        obtain ⟨d0, d1, d2, _⟩ := three_cf HXc.out
        obtain ⟨f0, f1, f2, _⟩ := three_cf HYc.out
        have g0 := row40 HRc.out
        go_wp2_with fail
        go_region_held3 (fun w' => w'.cell? ⟨b, 0, none⟩ = some (.slice a S.length cap) ∧ w'.cell? ⟨x.heap.size, 0, none⟩ = some (.string t1) ∧ w'.cell? ⟨y.heap.size, 0, none⟩ = some (.string t2)) (exact ⟨row40 (by repeat (first | with_reducible exact HRc.out | with_reducible apply heap_drewn | with_reducible apply heap_more)), row30 (by repeat (first | with_reducible exact HXc.out | with_reducible apply heap_drewn | with_reducible apply heap_more)), row30 (by repeat (first | with_reducible exact HYc.out | with_reducible apply heap_drewn | with_reducible apply heap_more))⟩) (first
          | (go_at_call 21; refine (l08Put_any a S cap t1 t2 _ (HR.out.below (by repeat (first | with_reducible exact HBc.out | with_reducible refine Below.drew ?_))) hl hcap HM.out HN.out).mono ?_; rintro e z ⟨⟨vv, rfl, ho⟩, hb⟩; have HOc : Hid (OwnR z (b + 1) vv (putR S (t1, t2))) := ho.low (Nat.le_trans (show b + 1 ≤ w.heap.size by omega) HBc.out.size); obtain ⟨ar, cr, rfl, hRr, hnr, hcr, hmr⟩ := HOc.out.rows srcC_len; have HRr : Hid (RowIs 2 srcC z ar (putR S (t1, t2))) := hRr; have HRc : Hid (_ = _) := heap_keep (by repeat (first | with_reducible exact HRc.out | with_reducible apply heap_drewn | with_reducible apply heap_more)) hb; have HXc : Hid (_ = _) := heap_keep (by repeat (first | with_reducible exact HXc.out | with_reducible apply heap_drewn | with_reducible apply heap_more)) hb; have HYc : Hid (_ = _) := heap_keep (by repeat (first | with_reducible exact HYc.out | with_reducible apply heap_drewn | with_reducible apply heap_more)) hb; have HBc : Hid (Below w.heap.size w z) := below_call (by repeat (first | with_reducible exact HBc.out | with_reducible refine Below.drew ?_)) hb; clear hb ho hRr hnr hcr hmr))
        all_goals
          go_wp2_with fail
          refine (specSources_is HQ.out HRr.out rfl (by omega) HFT.out).mono ?_
          rintro e u ⟨rfl, hb⟩
          have HRu : Hid (u.heap[b]? = _) := heap_keep HRc.out hb
          have HBu : Hid (Below w.heap.size w u) := below_call HBc.out hb
          have HOu : Hid (OwnR u (b + 1) _ (putR S (t1, t2))) := HOc.out.call hb
          clear hb
          have k0 := row40 HRu.out
          have k1 : u.frozen? ⟨b, 0, none⟩ = false := frozen_of_row _ _ _ _ _ HRu.out
          go_wp2
          go_ret
          exact ⟨But.setB (But.of HBu.out) (p := ⟨b, 0, none⟩) rfl _, .inl ⟨_, by rw [HD2.out]; unfold putO; rw [if_pos HQ.out], rfl, ⟨_, heap_set HRu.out 0 _, own_set HOu.out (by omega)⟩⟩⟩
    · have hqq : (q2 == (s.size : Int)) = false := by rw [beq_eq_false_iff_ne]; exact hq
      have HD2 : Hid (doB S im n s = none) := by show _ = _; rw [HD.out, HTW, if_neg hq]; rfl
      clear HTW
      go_enter Tryz.func14, Tryz.ntmps14
      go_wp2_with fail
      refine (specText_yes HP1.out hs (by omega) (by omega)).mono ?_
      rintro e x ⟨rfl, hb⟩
      have HBx : Hid (Below w.heap.size w x) := hb
      clear hb
      go_wp2_with fail
      refine (specText_yes HP2.out hs (by omega) (by omega)).mono ?_
      rintro e y ⟨rfl, hb⟩
      have HBy : Hid (Below w.heap.size w y) := below_call (below_more HBx.out _) hb
      clear hb
      go_wp2
      go_ret
      exact ⟨But.of (below_more HBy.out _), .inr ⟨HD2.out, rfl, HL.out.call (below_more HBy.out _)⟩⟩
end Go.Proofs.YtnhehdobpibgkabGreatDoor
