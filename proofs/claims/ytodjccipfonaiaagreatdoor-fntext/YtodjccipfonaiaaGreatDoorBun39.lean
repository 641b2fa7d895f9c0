/- A reader takes an Insn. -/
import Derived.Test.YtodjccipfonaiaaGreatDoorRows
import Derived.WalkKit
import Derived.WalkSpells
import Derived.WalkLawsBesides
import Derived.Outline
import Derived.RegionTactic
import Derived.BigRegion
import Derived.Deep.QuietTactic
import Derived.BigQuiet
import Derived.Deep.RegionHeld3
import Derived.Test.YtodjccipfonaiaaGreatDoorBun0
import Derived.Test.YtodjccipfonaiaaGreatDoorBun7
import Derived.Test.YtodjccipfonaiaaGreatDoorBun37
import Derived.Test.YtodjccipfonaiaaGreatDoorBun38
namespace Go.Proofs.YtodjccipfonaiaaGreatDoor
open Go.RowKit
set_option linter.unusedVariables false

set_option maxRecDepth 100000 in
set_option maxHeartbeats 6400000 in
theorem insn_any1 (w0 : World) (b g cap : Nat) (a : Option Addr) (L : List ByteArray) (w : World) (hR : Rd w b g a cap L) (hT0 : Tabs w0) (hP : Pow w0) (hF : Far w0 w b) (hc0 : opT L = none) : Calls Tryz.prog 34 #[.pointer (some ⟨b, 0, none⟩)] w (InsnPOut b g w L) := by
  have HT0 : Hid (Tabs w0) := hT0
  have HP : Hid (Pow w0) := hP
  have HF : Hid (Far w0 w b) := hF
  have hbw := heap_lt hR.row
  have hgw := hR.at'
  have hTb : w.heap.size ≠ b := by omega
  have hgT : g ≠ w.heap.size := by omega
  have htb : w.heap.size + 1 ≠ b := by omega
  have hgt : g ≠ w.heap.size + 1 := by omega
  have hTt : w.heap.size + 1 ≠ w.heap.size := by omega
  have HX0 : Hid (Rd ((w.alloc (.cells (z17 ⟨#[]⟩ false) 64)).alloc (.cells (z17 ⟨#[]⟩ false) 64)) b g a cap L) := (hR.alloc _).alloc _
  have HZ0 : Hid (_ = _) := heap_more (heap_alloc_new w (.cells (z17 ⟨#[]⟩ false) 64)) (.cells (z17 ⟨#[]⟩ false) 64)
  have HI0 : Hid (_ = _) := heap_new2 w (.cells (z17 ⟨#[]⟩ false) 64) (.cells (z17 ⟨#[]⟩ false) 64)
  have HB0 : Hid (But b w ((w.alloc (.cells (z17 ⟨#[]⟩ false) 64)).alloc (.cells (z17 ⟨#[]⟩ false) 64))) := ((But.refl b w).alloc _).alloc _
  have HTC : Hid (∀ x, But b w x → Tabs x) := fun x h => HT0.out.below (HF.out.but h).below
  have HC0 : Hid (_ = _) := hc0
  clear hR hT0 hP hF hc0
  go_enter Tryz.func34, Tryz.ntmps34
  go_wp2_with fail
  refine (op_any (fun p h => (hasB_iff p).1 h) w0 b g cap (w.heap.size + 1) a L _ HX0.out HT0.out (HF.out.but HB0.out) HI0.out htb hgt).mono ?_
  rintro e x1 ⟨k, ok, p, bl, a1, cap1, L1, rfl, hX1, hI1, hB1, hc⟩
  have HXc : Hid (Rd x1 b g a1 cap1 L1) := hX1
  have HIc : Hid (x1.heap[w.heap.size + 1]? = some (.cells (z17 p bl) 64 (0, 0))) := hI1
  have HZc : Hid (x1.heap[w.heap.size]? = some (.cells (z17 ⟨#[]⟩ false) 64 (0, 0))) := But2.keep HZ0.out hB1 hTb (fun h => hTt h.symm)
  have HBc : Hid (But b w x1) := But2.asBut HB0.out hB1 (by omega)
  clear hX1 hI1 hB1 HX0 HI0 HZ0 HB0
  rcases hc with ⟨rfl, hno⟩ | ⟨rfl, hyes, rfl, hin⟩
  · have HQ : Hid (insnT L = none) := by show _ = _; unfold insnT; rw [hno]
    clear hno
    obtain ⟨c0, c1, c2, c3, c4, c5, c6, c7, c8, c9, c10, c11, c12, c13, c14, c15, c16⟩ := cells17 HIc.out
    obtain ⟨p0, p1, p2, p3, p4, p5, p6, p7, p8, p9, p10, p11, p12, p13, p14, p15, p16⟩ := cells17 HZc.out
    obtain ⟨q0, q1, q2, q3, q4, q5, q6, q7, q8, q9, q10, q11, q12, q13, q14, q15, q16⟩ := frz17 HZc.out
    have hz1 := heap_lt HIc.out
    have hz2 := heap_lt HZc.out
    go_wp2
    exact bodyPost_ret (results_row1 Tryz.results34 _ _ w.heap.size 64 _ (0, 0) _ rfl (set_17 HZc.out) Tryz.underlying64 rfl (by kernel_rfl)) rfl ⟨_, false, a1, cap1, L1, rfl, ⟨_, _, _, _, _, _, _, _, _, _, _, _, _, _, _, _, _, rfl⟩, HXc.out.st17 hTb hgT _ _ _ _ _ _ _ _ _ _ _ _ _ _ _ _ _ , HBc.out.st17 (Nat.le_refl _) _ _ _ _ _ _ _ _ _ _ _ _ _ _ _ _ _ , .inl ⟨rfl, .inl HQ.out⟩⟩
  rw [HC0.out] at hyes; cases hyes
end Go.Proofs.YtodjccipfonaiaaGreatDoor
namespace Go.Proofs.YtodjccipfonaiaaGreatDoor
open Go.RowKit
set_option linter.unusedVariables false

set_option maxRecDepth 100000 in
set_option maxHeartbeats 6400000 in
theorem insn_any2 (w0 : World) (b g cap : Nat) (a : Option Addr) (L : List ByteArray) (w : World) (hR : Rd w b g a cap L) (hT0 : Tabs w0) (hP : Pow w0) (hF : Far w0 w b) (p0 : ByteArray) (bl0 : Bool) (L0 : List ByteArray) (hc0 : opT L = some ((p0, bl0), L0)) (hc1 : p0 = reti) : Calls Tryz.prog 34 #[.pointer (some ⟨b, 0, none⟩)] w (InsnPOut b g w L) := by
  have HT0 : Hid (Tabs w0) := hT0
  have HP : Hid (Pow w0) := hP
  have HF : Hid (Far w0 w b) := hF
  have hbw := heap_lt hR.row
  have hgw := hR.at'
  have hTb : w.heap.size ≠ b := by omega
  have hgT : g ≠ w.heap.size := by omega
  have htb : w.heap.size + 1 ≠ b := by omega
  have hgt : g ≠ w.heap.size + 1 := by omega
  have hTt : w.heap.size + 1 ≠ w.heap.size := by omega
  have HX0 : Hid (Rd ((w.alloc (.cells (z17 ⟨#[]⟩ false) 64)).alloc (.cells (z17 ⟨#[]⟩ false) 64)) b g a cap L) := (hR.alloc _).alloc _
  have HZ0 : Hid (_ = _) := heap_more (heap_alloc_new w (.cells (z17 ⟨#[]⟩ false) 64)) (.cells (z17 ⟨#[]⟩ false) 64)
  have HI0 : Hid (_ = _) := heap_new2 w (.cells (z17 ⟨#[]⟩ false) 64) (.cells (z17 ⟨#[]⟩ false) 64)
  have HB0 : Hid (But b w ((w.alloc (.cells (z17 ⟨#[]⟩ false) 64)).alloc (.cells (z17 ⟨#[]⟩ false) 64))) := ((But.refl b w).alloc _).alloc _
  have HTC : Hid (∀ x, But b w x → Tabs x) := fun x h => HT0.out.below (HF.out.but h).below
  have HC0 : Hid (_ = _) := hc0
  clear hR hT0 hP hF hc0
  go_enter Tryz.func34, Tryz.ntmps34
  go_wp2_with fail
  refine (op_any (fun p h => (hasB_iff p).1 h) w0 b g cap (w.heap.size + 1) a L _ HX0.out HT0.out (HF.out.but HB0.out) HI0.out htb hgt).mono ?_
  rintro e x1 ⟨k, ok, p, bl, a1, cap1, L1, rfl, hX1, hI1, hB1, hc⟩
  have HXc : Hid (Rd x1 b g a1 cap1 L1) := hX1
  have HIc : Hid (x1.heap[w.heap.size + 1]? = some (.cells (z17 p bl) 64 (0, 0))) := hI1
  have HZc : Hid (x1.heap[w.heap.size]? = some (.cells (z17 ⟨#[]⟩ false) 64 (0, 0))) := But2.keep HZ0.out hB1 hTb (fun h => hTt h.symm)
  have HBc : Hid (But b w x1) := But2.asBut HB0.out hB1 (by omega)
  clear hX1 hI1 hB1 HX0 HI0 HZ0 HB0
  rcases hc with ⟨rfl, hno⟩ | ⟨rfl, hyes, rfl, hin⟩
  · rw [HC0.out] at hno; cases hno
  obtain ⟨⟨rfl, rfl⟩, rfl⟩ : (p = p0 ∧ bl = bl0) ∧ L1 = L0 := by have h := HC0.out.symm.trans hyes; cases h; exact ⟨⟨rfl, rfl⟩, rfl⟩
  have HY : Hid (opT L = some ((p, bl), L1)) := hyes
  have HN : Hid (insnT L = if p = reti then some ((insOf p bl noO noO 0, ⟨#[]⟩, ⟨#[]⟩, ⟨#[]⟩), L1) else if (takeT ⟨#[32]⟩ L1).1 = true then argT p bl (takeT ⟨#[32]⟩ L1).2 else none) := by show _ = _; unfold insnT; rw [hyes]
  clear hyes hin
  have cop : x1.cell? ⟨w.heap.size + 1, 0, none⟩ = some (.string p) := cell_of_row _ _ 0 _ _ _ HIc.out
  by_cases hr : p = reti
  · have hr1 : (p.toList != [114, 101, 116, 105]) = false := by rw [hr]; decide +kernel
    have hr2 : (p.toList == [114, 101, 116, 105]) = true := by rw [hr]; decide +kernel
    have HQ : Hid (insnT L = some ((insOf p bl noO noO 0, ⟨#[]⟩, ⟨#[]⟩, ⟨#[]⟩), L1)) := by show _ = _; rw [HN.out, if_pos hr]
    have HIc : Hid (x1.heap[w.heap.size + 1]? = some (.cells #[(.string p), (.bool bl), (.int .i64 0), (.int .i64 0), (.int .i64 0), (.bool false), (.int .i64 0), (.int .i64 0), (.int .i64 0), (.bool false), (.int .i64 0), (.string ⟨#[]⟩), (.int .i64 0), (.string ⟨#[]⟩), (.int .i64 0), (.string ⟨#[]⟩), (.int .i64 0)] 64 (0, 0))) := HIc.out
    clear hr HN HY hc1
    go_wp2_with fail
    clear cop
    obtain ⟨c0, c1, c2, c3, c4, c5, c6, c7, c8, c9, c10, c11, c12, c13, c14, c15, c16⟩ := cells17 HIc.out
    obtain ⟨p0, p1, p2, p3, p4, p5, p6, p7, p8, p9, p10, p11, p12, p13, p14, p15, p16⟩ := cells17 HZc.out
    obtain ⟨q0, q1, q2, q3, q4, q5, q6, q7, q8, q9, q10, q11, q12, q13, q14, q15, q16⟩ := frz17 HZc.out
    have hz1 := heap_lt HIc.out
    have hz2 := heap_lt HZc.out
    go_wp2_with fail
    go_region_held3 (fun w' => w'.cell? ⟨w.heap.size + 1, 0, none⟩ = some (.string p) ∧ w'.cell? ⟨w.heap.size + 1, 1, none⟩ = some (.bool bl) ∧ w'.cell? ⟨w.heap.size + 1, 2, none⟩ = some (.int .i64 0) ∧ w'.cell? ⟨w.heap.size + 1, 3, none⟩ = some (.int .i64 0) ∧ w'.cell? ⟨w.heap.size + 1, 4, none⟩ = some (.int .i64 0) ∧ w'.cell? ⟨w.heap.size + 1, 5, none⟩ = some (.bool false) ∧ w'.cell? ⟨w.heap.size + 1, 6, none⟩ = some (.int .i64 0) ∧ w'.cell? ⟨w.heap.size + 1, 7, none⟩ = some (.int .i64 0) ∧ w'.cell? ⟨w.heap.size + 1, 8, none⟩ = some (.int .i64 0) ∧ w'.cell? ⟨w.heap.size + 1, 9, none⟩ = some (.bool false) ∧ w'.cell? ⟨w.heap.size + 1, 10, none⟩ = some (.int .i64 0) ∧ w'.cell? ⟨w.heap.size + 1, 11, none⟩ = some (.string ⟨#[]⟩) ∧ w'.cell? ⟨w.heap.size + 1, 12, none⟩ = some (.int .i64 0) ∧ w'.cell? ⟨w.heap.size + 1, 13, none⟩ = some (.string ⟨#[]⟩) ∧ w'.cell? ⟨w.heap.size + 1, 14, none⟩ = some (.int .i64 0) ∧ w'.cell? ⟨w.heap.size + 1, 15, none⟩ = some (.string ⟨#[]⟩) ∧ w'.cell? ⟨w.heap.size + 1, 16, none⟩ = some (.int .i64 0)) (exact cells17 (by repeat (first | with_reducible exact HIc.out | with_reducible apply heap_drewn | with_reducible apply far_17 hTt))) (first | (go_at_call 21; refine (implRight_any p bl 0 0 0 false 0 0 0 false 0 _ (HTC.out _ (by repeat (first | with_reducible exact HBc.out | with_reducible refine But.drew ?_ | with_reducible refine But.st17 ?_ (Nat.le_refl _) _ _ _ _ _ _ _ _ _ _ _ _ _ _ _ _ _ )))).mono ?_; rintro e xc ⟨rfl, hb⟩; have HZd : Hid (_ = _) := heap_keep (by repeat (first | with_reducible exact HZc.out | with_reducible apply heap_drewn | with_reducible apply set_17)) hb; have HIc : Hid (_ = _) := heap_keep (by repeat (first | with_reducible exact HIc.out | with_reducible apply heap_drewn | with_reducible apply far_17 hTt)) hb; have HXd : Hid (Rd xc b g a1 cap1 L1) := Rd.call (by repeat (first | with_reducible exact HXc.out | with_reducible refine Rd.drew ?_ | with_reducible refine Rd.st17 ?_ hTb hgT _ _ _ _ _ _ _ _ _ _ _ _ _ _ _ _ _ )) hb; have HBd : Hid (But b w xc) := But.call (by repeat (first | with_reducible exact HBc.out | with_reducible refine But.drew ?_ | with_reducible refine But.st17 ?_ (Nat.le_refl _) _ _ _ _ _ _ _ _ _ _ _ _ _ _ _ _ _ )) hb; clear hb; obtain ⟨p0, p1, p2, p3, p4, p5, p6, p7, p8, p9, p10, p11, p12, p13, p14, p15, p16⟩ := cells17 HZd.out; obtain ⟨q0, q1, q2, q3, q4, q5, q6, q7, q8, q9, q10, q11, q12, q13, q14, q15, q16⟩ := frz17 HZd.out))
    all_goals
      go_wp2
      exact bodyPost_ret (results_row1 Tryz.results34 _ _ w.heap.size 64 _ (0, 0) _ rfl (show (_ : World).heap[w.heap.size]? = some (.cells #[(.string p), (.bool bl), (.int .i64 0), (.int .i64 0), (.int .i64 0), (.bool false), (.int .i64 0), (.int .i64 0), (.int .i64 0), (.bool false), (.int .i64 0), (.string ⟨#[]⟩), (.int .i64 0), (.string ⟨#[]⟩), (.int .i64 0), (.string ⟨#[]⟩), (.int .i64 0)] 64 (0, 0)) from (by repeat (first | with_reducible exact HZd.out | with_reducible apply heap_drewn | with_reducible apply set_17))) Tryz.underlying64 rfl (by kernel_rfl)) rfl (insnP_mk _ _ _ _ a1 cap1 L1 0 0 0 HQ.out (by repeat (first | with_reducible exact HXd.out | with_reducible refine Rd.drew ?_ | with_reducible refine Rd.st17 ?_ hTb hgT _ _ _ _ _ _ _ _ _ _ _ _ _ _ _ _ _ )) (by repeat (first | with_reducible exact HBd.out | with_reducible refine But.drew ?_ | with_reducible refine But.st17 ?_ (Nat.le_refl _) _ _ _ _ _ _ _ _ _ _ _ _ _ _ _ _ _ )))
  exact absurd hc1 hr
end Go.Proofs.YtodjccipfonaiaaGreatDoor
