/- A reader takes an Insn. -/
import Derived.Test.YtodjccipfonaiaaGreatDoorRows
import Derived.WalkKit
import Derived.WalkSpells
import Derived.WalkLawsBesides
import Derived.Outline
import Derived.RegionTactic
import Derived.BigRegion
import Derived.Deep.QuietTactic
import Derived.BigQuiet
import Derived.Deep.RegionHeld3
import Derived.Test.YtodjccipfonaiaaGreatDoorBun0
import Derived.Test.YtodjccipfonaiaaGreatDoorBun7
import Derived.Test.YtodjccipfonaiaaGreatDoorBun37
import Derived.Test.YtodjccipfonaiaaGreatDoorBun44
import Derived.Test.YtodjccipfonaiaaGreatDoorBun45
import Derived.Test.YtodjccipfonaiaaGreatDoorBun10
import Derived.Test.YtodjccipfonaiaaGreatDoorBun14
namespace Go.Proofs.YtodjccipfonaiaaGreatDoor
open Go.RowKit
set_option linter.unusedVariables false

set_option maxRecDepth 100000 in
set_option maxHeartbeats 6400000 in
theorem insn_any5 (w0 : World) (b g cap : Nat) (a : Option Addr) (L : List ByteArray) (w : World) (hR : Rd w b g a cap L) (hT0 : Tabs w0) (hP : Pow w0) (hF : Far w0 w b) (p0 : ByteArray) (bl0 : Bool) (L0 : List ByteArray) (y0 : Wri × List ByteArray) (hc0 : opT L = some ((p0, bl0), L0)) (hc1 : ¬ p0 = reti) (hc2 : (takeT ⟨#[32]⟩ L0).1 = true) (hc3 : argT p0 bl0 (takeT ⟨#[32]⟩ L0).2 = some y0) : Calls Tryz.prog 34 #[.pointer (some ⟨b, 0, none⟩)] w (InsnPOut b g w L) := by
  have HT0 : Hid (Tabs w0) := hT0
  have HP : Hid (Pow w0) := hP
  have HF : Hid (Far w0 w b) := hF
  have hbw := heap_lt hR.row
  have hgw := hR.at'
  have hTb : w.heap.size ≠ b := by omega
  have hgT : g ≠ w.heap.size := by omega
  have htb : w.heap.size + 1 ≠ b := by omega
  have hgt : g ≠ w.heap.size + 1 := by omega
  have hTt : w.heap.size + 1 ≠ w.heap.size := by omega
  have HX0 : Hid (Rd ((w.alloc (.cells (z17 ⟨#[]⟩ false) 64)).alloc (.cells (z17 ⟨#[]⟩ false) 64)) b g a cap L) := (hR.alloc _).alloc _
  have HZ0 : Hid (_ = _) := heap_more (heap_alloc_new w (.cells (z17 ⟨#[]⟩ false) 64)) (.cells (z17 ⟨#[]⟩ false) 64)
  have HI0 : Hid (_ = _) := heap_new2 w (.cells (z17 ⟨#[]⟩ false) 64) (.cells (z17 ⟨#[]⟩ false) 64)
  have HB0 : Hid (But b w ((w.alloc (.cells (z17 ⟨#[]⟩ false) 64)).alloc (.cells (z17 ⟨#[]⟩ false) 64))) := ((But.refl b w).alloc _).alloc _
  have HTC : Hid (∀ x, But b w x → Tabs x) := fun x h => HT0.out.below (HF.out.but h).below
  have HC0 : Hid (_ = _) := hc0
  have HC2 : Hid (_ = _) := hc2
  have HC3 : Hid (_ = _) := hc3
  clear hR hT0 hP hF hc0 hc2 hc3
  go_enter Tryz.func34, Tryz.ntmps34
  go_wp2_with fail
  refine (op_any (fun p h => (hasB_iff p).1 h) w0 b g cap (w.heap.size + 1) a L _ HX0.out HT0.out (HF.out.but HB0.out) HI0.out htb hgt).mono ?_
  rintro e x1 ⟨k, ok, p, bl, a1, cap1, L1, rfl, hX1, hI1, hB1, hc⟩
  have HXc : Hid (Rd x1 b g a1 cap1 L1) := hX1
  have HIc : Hid (x1.heap[w.heap.size + 1]? = some (.cells (z17 p bl) 64 (0, 0))) := hI1
  have HZc : Hid (x1.heap[w.heap.size]? = some (.cells (z17 ⟨#[]⟩ false) 64 (0, 0))) := But2.keep HZ0.out hB1 hTb (fun h => hTt h.symm)
  have HBc : Hid (But b w x1) := But2.asBut HB0.out hB1 (by omega)
  clear hX1 hI1 hB1 HX0 HI0 HZ0 HB0
  rcases hc with ⟨rfl, hno⟩ | ⟨rfl, hyes, rfl, hin⟩
  · rw [HC0.out] at hno; cases hno
  obtain ⟨⟨rfl, rfl⟩, rfl⟩ : (p = p0 ∧ bl = bl0) ∧ L1 = L0 := by have h := HC0.out.symm.trans hyes; cases h; exact ⟨⟨rfl, rfl⟩, rfl⟩
  have HY : Hid (opT L = some ((p, bl), L1)) := hyes
  have HN : Hid (insnT L = if p = reti then some ((insOf p bl noO noO 0, ⟨#[]⟩, ⟨#[]⟩, ⟨#[]⟩), L1) else if (takeT ⟨#[32]⟩ L1).1 = true then argT p bl (takeT ⟨#[32]⟩ L1).2 else none) := by show _ = _; unfold insnT; rw [hyes]
  clear hyes hin
  have cop : x1.cell? ⟨w.heap.size + 1, 0, none⟩ = some (.string p) := cell_of_row _ _ 0 _ _ _ HIc.out
  by_cases hr : p = reti
  · exact absurd hr hc1
  have hr1 : (p.toList != [114, 101, 116, 105]) = true := by rw [bne_iff_ne]; intro e; have h := text_no [114, 101, 116, 105] (s := p) hr; rw [e] at h; exact absurd h (by decide)
  have hr2 : (p.toList == [114, 101, 116, 105]) = false := text_no [114, 101, 116, 105] hr
  have HM : Hid (insnT L = if (takeT ⟨#[32]⟩ L1).1 = true then argT p bl (takeT ⟨#[32]⟩ L1).2 else none) := by show _ = _; rw [HN.out, if_neg hr]
  clear hr HN HY
  go_wp2_with fail
  clear cop
  refine (mark_any ⟨#[32]⟩ b g cap1 a1 L1 _ HXc.out).mono ?_
  rintro e x2 ⟨a2, cap2, rfl, hX2, hB2⟩
  have HIc : Hid (x2.heap[w.heap.size + 1]? = _) := But.keep HIc.out hB2 htb
  have HZc : Hid (x2.heap[w.heap.size]? = _) := But.keep HZc.out hB2 hTb
  have HBc : Hid (But b w x2) := HBc.out.trans hB2
  have HXc : Hid (Rd x2 b g a2 cap2 (takeT ⟨#[32]⟩ L1).2) := hX2
  clear hX2 hB2
  clear hc1
  have ht1 := HC2.out
  generalize (takeT ⟨#[32]⟩ L1).1 = t1 at *
  generalize (takeT ⟨#[32]⟩ L1).2 = L2 at *
  cases t1
  · cases ht1
  have HM2 : Hid (insnT L = argT p bl L2) := by show _ = _; rw [HM.out, if_pos rfl]
  have hz0 := heap_lt HIc.out
  go_wp2_with fail
  refine (args_any p bl w0 b g cap2 (w.heap.size + 1) a2 L2 _ HXc.out HP.out (HF.out.but HBc.out) HIc.out htb hgt).mono ?_
  rintro e x3 ⟨cs, ok, a3, cap3, L3, rfl, hsz, hX3, hI3, hB3, hc⟩
  have HZc : Hid (x3.heap[w.heap.size]? = _) := But2.keep HZc.out hB3 hTb (fun h => hTt h.symm)
  have HBc : Hid (But b w x3) := But2.asBut HBc.out hB3 (by omega)
  have HXc : Hid (Rd x3 b g a3 cap3 L3) := hX3
  have HI3 : Hid (x3.heap[w.heap.size + 1]? = _) := hI3
  clear hX3 hI3 hB3 HIc
  rcases hc with ⟨rfl, hno⟩ | ⟨rfl, i, s, k1, d, k2, jn, k3, hyes, rfl⟩
  · have h := HC3.out.symm.trans hno; cases h
  · have HQ : Hid (insnT L = some ((i, s, d, jn), L3)) := by show _ = _; rw [HM2.out, hyes]
    obtain ⟨op, bl, m, r, n, l, m2, r2, n2, l2, j⟩ := i
    have HIc : Hid (x3.heap[w.heap.size + 1]? = some (.cells #[.string op, .bool bl, .int .i64 m, .int .i64 r, .int .i64 n, .bool l, .int .i64 m2, .int .i64 r2, .int .i64 n2, .bool l2, .int .i64 j, .string s, .int .i64 k1, .string d, .int .i64 k2, .string jn, .int .i64 k3] 64 (0, 0))) := HI3.out
    clear hyes hsz HI3 HM HM2
    obtain ⟨c0, c1, c2, c3, c4, c5, c6, c7, c8, c9, c10, c11, c12, c13, c14, c15, c16⟩ := cells17 HIc.out
    obtain ⟨p0, p1, p2, p3, p4, p5, p6, p7, p8, p9, p10, p11, p12, p13, p14, p15, p16⟩ := cells17 HZc.out
    obtain ⟨q0, q1, q2, q3, q4, q5, q6, q7, q8, q9, q10, q11, q12, q13, q14, q15, q16⟩ := frz17 HZc.out
    have hz1 := heap_lt HIc.out
    have hz2 := heap_lt HZc.out
    go_wp2_with fail
    go_region_held3 (fun w' => w'.cell? ⟨w.heap.size + 1, 0, none⟩ = some (.string op) ∧ w'.cell? ⟨w.heap.size + 1, 1, none⟩ = some (.bool bl) ∧ w'.cell? ⟨w.heap.size + 1, 2, none⟩ = some (.int .i64 m) ∧ w'.cell? ⟨w.heap.size + 1, 3, none⟩ = some (.int .i64 r) ∧ w'.cell? ⟨w.heap.size + 1, 4, none⟩ = some (.int .i64 n) ∧ w'.cell? ⟨w.heap.size + 1, 5, none⟩ = some (.bool l) ∧ w'.cell? ⟨w.heap.size + 1, 6, none⟩ = some (.int .i64 m2) ∧ w'.cell? ⟨w.heap.size + 1, 7, none⟩ = some (.int .i64 r2) ∧ w'.cell? ⟨w.heap.size + 1, 8, none⟩ = some (.int .i64 n2) ∧ w'.cell? ⟨w.heap.size + 1, 9, none⟩ = some (.bool l2) ∧ w'.cell? ⟨w.heap.size + 1, 10, none⟩ = some (.int .i64 j) ∧ w'.cell? ⟨w.heap.size + 1, 11, none⟩ = some (.string s) ∧ w'.cell? ⟨w.heap.size + 1, 12, none⟩ = some (.int .i64 k1) ∧ w'.cell? ⟨w.heap.size + 1, 13, none⟩ = some (.string d) ∧ w'.cell? ⟨w.heap.size + 1, 14, none⟩ = some (.int .i64 k2) ∧ w'.cell? ⟨w.heap.size + 1, 15, none⟩ = some (.string jn) ∧ w'.cell? ⟨w.heap.size + 1, 16, none⟩ = some (.int .i64 k3)) (exact cells17 (by repeat (first | with_reducible exact HIc.out | with_reducible apply heap_drewn | with_reducible apply far_17 hTt))) (first | (go_at_call 21; refine (implRight_any op bl m r n l m2 r2 n2 l2 j _ (HTC.out _ (by repeat (first | with_reducible exact HBc.out | with_reducible refine But.drew ?_ | with_reducible refine But.st17 ?_ (Nat.le_refl _) _ _ _ _ _ _ _ _ _ _ _ _ _ _ _ _ _ )))).mono ?_; rintro e xc ⟨rfl, hb⟩; have HZd : Hid (_ = _) := heap_keep (by repeat (first | with_reducible exact HZc.out | with_reducible apply heap_drewn | with_reducible apply set_17)) hb; have HIc : Hid (_ = _) := heap_keep (by repeat (first | with_reducible exact HIc.out | with_reducible apply heap_drewn | with_reducible apply far_17 hTt)) hb; have HXd : Hid (Rd xc b g a3 cap3 L3) := Rd.call (by repeat (first | with_reducible exact HXc.out | with_reducible refine Rd.drew ?_ | with_reducible refine Rd.st17 ?_ hTb hgT _ _ _ _ _ _ _ _ _ _ _ _ _ _ _ _ _ )) hb; have HBd : Hid (But b w xc) := But.call (by repeat (first | with_reducible exact HBc.out | with_reducible refine But.drew ?_ | with_reducible refine But.st17 ?_ (Nat.le_refl _) _ _ _ _ _ _ _ _ _ _ _ _ _ _ _ _ _ )) hb; clear hb; obtain ⟨p0, p1, p2, p3, p4, p5, p6, p7, p8, p9, p10, p11, p12, p13, p14, p15, p16⟩ := cells17 HZd.out; obtain ⟨q0, q1, q2, q3, q4, q5, q6, q7, q8, q9, q10, q11, q12, q13, q14, q15, q16⟩ := frz17 HZd.out))
    all_goals
      go_wp2
      exact bodyPost_ret (results_row1 Tryz.results34 _ _ w.heap.size 64 _ (0, 0) _ rfl (show (_ : World).heap[w.heap.size]? = some (.cells #[(.string op), (.bool bl), (.int .i64 m), (.int .i64 r), (.int .i64 n), (.bool l), (.int .i64 m2), (.int .i64 r2), (.int .i64 n2), (.bool l2), (.int .i64 j), (.string s), (.int .i64 k1), (.string d), (.int .i64 k2), (.string jn), (.int .i64 k3)] 64 (0, 0)) from (by repeat (first | with_reducible exact HZd.out | with_reducible apply heap_drewn | with_reducible apply set_17))) Tryz.underlying64 rfl (by kernel_rfl)) rfl (insnP_mk _ _ _ _ a3 cap3 L3 k1 k2 k3 HQ.out (by repeat (first | with_reducible exact HXd.out | with_reducible refine Rd.drew ?_ | with_reducible refine Rd.st17 ?_ hTb hgT _ _ _ _ _ _ _ _ _ _ _ _ _ _ _ _ _ )) (by repeat (first | with_reducible exact HBd.out | with_reducible refine But.drew ?_ | with_reducible refine But.st17 ?_ (Nat.le_refl _) _ _ _ _ _ _ _ _ _ _ _ _ _ _ _ _ _ )))
end Go.Proofs.YtodjccipfonaiaaGreatDoor
namespace Go.Proofs.YtodjccipfonaiaaGreatDoor
open Go.RowKit
set_option linter.unusedVariables false

theorem insn_any (w0 : World) (b g cap : Nat) (a : Option Addr) (L : List ByteArray) (w : World) (hR : Rd w b g a cap L) (hT0 : Tabs w0) (hP : Pow w0) (hF : Far w0 w b) : Calls Tryz.prog 34 #[.pointer (some ⟨b, 0, none⟩)] w (InsnPOut b g w L) := by
  cases h0 : opT L with
  | none => exact insn_any1 w0 b g cap a L w hR hT0 hP hF h0
  | some y =>
    obtain ⟨⟨p, bl⟩, L1⟩ := y
    by_cases hr : p = reti
    · exact insn_any2 w0 b g cap a L w hR hT0 hP hF p bl L1 h0 hr
    · cases h1 : (takeT ⟨#[32]⟩ L1).1 with
      | false => exact insn_any3 w0 b g cap a L w hR hT0 hP hF p bl L1 h0 hr h1
      | true =>
        cases h2 : argT p bl (takeT ⟨#[32]⟩ L1).2 with
        | none => exact insn_any4 w0 b g cap a L w hR hT0 hP hF p bl L1 h0 hr h1 h2
        | some y => exact insn_any5 w0 b g cap a L w hR hT0 hP hF p bl L1 y h0 hr h1 h2
end Go.Proofs.YtodjccipfonaiaaGreatDoor
namespace Go.Proofs.YtodjccipfonaiaaGreatDoor
open Go.RowKit
set_option linter.unusedVariables false

def outK : Option (Wri × List ByteArray) → Ins × Int × Int
  | some ((i, s, d, j), []) => if okI i = true ∧ s = ⟨#[]⟩ ∧ d = ⟨#[]⟩ ∧ j = ⟨#[]⟩ then (i, lenI i, 0) else (zeroI, 0, 3)
  | _ => (zeroI, 0, 3)
def outQ (t : ByteArray) : Ins × Int × Int := if 8000 < t.size then (zeroI, 0, 2) else outK (insnT (piecesL t))
def InsQOut (t : ByteArray) (w : World) (e : Ending) (w' : World) : Prop := ∃ (i : Ins) (k c : Int), e = .returned (.agg #[.string i.op, .bool i.b, .int .i64 i.m, .int .i64 i.r, .int .i64 i.n, .bool i.l, .int .i64 i.m2, .int .i64 i.r2, .int .i64 i.n2, .bool i.l2, .int .i64 i.j, .int .i64 k, .int .i64 c]) ∧ outQ t = (i, k, c) ∧ Below w.heap.size w w'
theorem outK_no {x : Option (Wri × List ByteArray)} (h : x = none ∨ ∃ y L, x = some (y, L) ∧ okI y.1 = false) : outK x = (zeroI, 0, 3) := by
  rcases h with rfl | ⟨⟨i, s, d, j⟩, L, rfl, h⟩
  · rfl
  · cases L with
    | nil =>
      show (if okI i = true ∧ s = ⟨#[]⟩ ∧ d = ⟨#[]⟩ ∧ j = ⟨#[]⟩ then (i, lenI i, 0) else (zeroI, 0, 3)) = _
      have h' : okI i = false := h
      rw [if_neg (fun k => by rw [h'] at k; cases k.1)]
    | cons => rfl
theorem empty_yes {s : ByteArray} (h : s.toList.isEmpty = true) : s = ⟨#[]⟩ := by
  rw [ByteArray.toList_eq] at h
  exact ba_list (List.isEmpty_iff.1 h)
theorem cells17a {W : World} {B : Nat} {z0 z1 z2 z3 z4 z5 z6 z7 z8 z9 z10 z11 z12 z13 z14 z15 z16 : Value} {t : TypeId} {fr : Nat × Nat} (h : W.heap[B]? = some (.cells #[z0, z1, z2, z3, z4, z5, z6, z7, z8, z9, z10, z11, z12, z13, z14, z15, z16] t fr)) :
    W.cell? ⟨B, 0, none⟩ = some z0 ∧ W.cell? ⟨B, 1, none⟩ = some z1 ∧ W.cell? ⟨B, 2, none⟩ = some z2 ∧ W.cell? ⟨B, 3, none⟩ = some z3 ∧ W.cell? ⟨B, 4, none⟩ = some z4 ∧ W.cell? ⟨B, 5, none⟩ = some z5 ∧ W.cell? ⟨B, 6, none⟩ = some z6 ∧ W.cell? ⟨B, 7, none⟩ = some z7 ∧ W.cell? ⟨B, 8, none⟩ = some z8 ∧ W.cell? ⟨B, 9, none⟩ = some z9 ∧ W.cell? ⟨B, 10, none⟩ = some z10 :=
  ⟨cell_of_row W B 0 _ t fr h, cell_of_row W B 1 _ t fr h, cell_of_row W B 2 _ t fr h, cell_of_row W B 3 _ t fr h, cell_of_row W B 4 _ t fr h, cell_of_row W B 5 _ t fr h, cell_of_row W B 6 _ t fr h, cell_of_row W B 7 _ t fr h, cell_of_row W B 8 _ t fr h, cell_of_row W B 9 _ t fr h, cell_of_row W B 10 _ t fr h⟩
end Go.Proofs.YtodjccipfonaiaaGreatDoor
namespace Go.Proofs.YtodjccipfonaiaaGreatDoor
open Go.RowKit
set_option linter.unusedVariables false

set_option maxRecDepth 100000 in
set_option maxHeartbeats 6400000 in
theorem implInsnRead1 (t : ByteArray) (w : World) (ht : t.size ≤ maxLen) (hT : Tabs w) (hP : Pow w) (h8 : ¬ 8000 < t.size) (hc0 : insnT (piecesL t) = none ∨ ∃ y L2, insnT (piecesL t) = some (y, L2) ∧ okI y.1 = false) : Calls Tryz.prog 11 #[.string t] w (InsQOut t w) := by
  unfold maxLen at ht
  have h8' : ¬ (8000 : Int) < (t.size : Int) := by omega
  have HO : Hid (outQ t = outK (insnT (piecesL t))) := by show _ = _; unfold outQ; rw [if_neg h8]
  have HT : Hid (Tabs w) := hT
  have HP : Hid (Pow w) := hP
  clear hT hP
  have HC0 : Hid (_) := hc0
  clear hc0
  go_enter Tryz.func11, Tryz.ntmps11
  go_wp2_with fail
  refine (piecesOf_any t _ (by omega)).mono ?_
  rintro e x1 ⟨v, rfl, hO, hb⟩
  have HV1 : Hid (x1.heap[w.heap.size]? = _) := heap_keep (heap_alloc_new w _) hb
  have HB1 : Hid (Below w.heap.size w x1) := below_call (below_new _ _) hb
  clear hb
  have hs1 := heap_lt HV1.out
  obtain ⟨g, a, cap, rfl, hR⟩ := Rd.make hO (by have := pieces_len t; omega) (fun p hp => by have := pieces_size t p hp; omega) (by omega)
  have HR : Hid (_) := hR
  have HF : Hid (Far w (x1.alloc (.cells #[.slice a (piecesL t).length cap] 62)) x1.heap.size) := ⟨below_more HB1.out _, by omega⟩
  clear hR hO
  generalize hL : piecesL t = L at *
  clear hL
  go_wp2_with fail
  refine (insn_any w x1.heap.size g cap a L _ HR.out HT.out HP.out HF.out).mono ?_
  rintro e x2 ⟨cs, ok, a2, cap2, L2, rfl, hsz, hR2, hB2, hc⟩
  have HV2 : Hid (x2.heap[w.heap.size]? = _) := But.keep (heap_more HV1.out _) hB2 (by omega)
  have HB2 : Hid (Below w.heap.size w x2) := But.below (below_more HB1.out _) hB2 (by omega) (by simp; omega)
  have HR2 : Hid (_) := hR2
  have hs2 := heap_lt HV2.out
  have hne : w.heap.size ≠ x2.heap.size := Nat.ne_of_lt hs2
  have hne2 : x2.heap.size ≠ w.heap.size := Nat.ne_of_gt hs2
  clear HR hR2 hB2 HV1 HB1 HF
  rcases hc with ⟨rfl, hno⟩ | ⟨rfl, i, s, k1, d, k2, jn, k3, hyes, hok, hcs⟩
  · have HQ : Hid (outQ t = (zeroI, 0, 3)) := by show _ = _; rw [HO.out, outK_no hno]
    obtain ⟨v0, v1, v2, v3, v4, v5, v6, v7, v8, v9, v10, v11, v12, v13, v14, v15, v16, rfl⟩ := hsz
    clear hno HO
    have c0 := cell_of_row _ _ 0 _ _ _ HV2.out
    have c1 := cell_of_row _ _ 1 _ _ _ HV2.out
    have c2 := cell_of_row _ _ 2 _ _ _ HV2.out
    have c3 := cell_of_row _ _ 3 _ _ _ HV2.out
    have c4 := cell_of_row _ _ 4 _ _ _ HV2.out
    have c5 := cell_of_row _ _ 5 _ _ _ HV2.out
    have c6 := cell_of_row _ _ 6 _ _ _ HV2.out
    have c7 := cell_of_row _ _ 7 _ _ _ HV2.out
    have c8 := cell_of_row _ _ 8 _ _ _ HV2.out
    have c9 := cell_of_row _ _ 9 _ _ _ HV2.out
    have c10 := cell_of_row _ _ 10 _ _ _ HV2.out
    have c11 := cell_of_row _ _ 11 _ _ _ HV2.out
    have c12 := cell_of_row _ _ 12 _ _ _ HV2.out
    have z0 := frozen_of_row _ _ 0 _ _ HV2.out
    have z1 := frozen_of_row _ _ 1 _ _ HV2.out
    have z2 := frozen_of_row _ _ 2 _ _ HV2.out
    have z3 := frozen_of_row _ _ 3 _ _ HV2.out
    have z4 := frozen_of_row _ _ 4 _ _ HV2.out
    have z5 := frozen_of_row _ _ 5 _ _ HV2.out
    have z6 := frozen_of_row _ _ 6 _ _ HV2.out
    have z7 := frozen_of_row _ _ 7 _ _ HV2.out
    have z8 := frozen_of_row _ _ 8 _ _ HV2.out
    have z9 := frozen_of_row _ _ 9 _ _ HV2.out
    have z10 := frozen_of_row _ _ 10 _ _ HV2.out
    have z11 := frozen_of_row _ _ 11 _ _ HV2.out
    have z12 := frozen_of_row _ _ 12 _ _ HV2.out
    go_wp2
    exact bodyPost_ret (results_cell_row Tryz.results11 _ _ w.heap.size 34 _ (0, 0) _ rfl (heap_more (set_thirteen HV2.out) _) Tryz.underlying34 rfl (by kernel_rfl)) rfl ⟨zeroI, 0, 3, rfl, HQ.out, (below_more (below_thirteen (Nat.le_refl _) HB2.out) _)⟩
  exfalso
  rcases HC0.out with h | ⟨y, L3, h, h2⟩
  · rw [h] at hyes; cases hyes
  · rw [h] at hyes; cases hyes; rw [hok] at h2; cases h2
end Go.Proofs.YtodjccipfonaiaaGreatDoor
