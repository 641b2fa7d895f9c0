/- Instructions: Decode of the program, what is told. -/
import Derived.Test.YtknielpkmablkaaDoorRows
import Derived.WalkKit
import Derived.WalkSpells
import Derived.WalkLawsBesides
import Derived.Outline
import Derived.Test.YtknielpkmablkaaDoorBun0
import Derived.Test.YtknielpkmablkaaDoorBun1
import Derived.Test.YtknielpkmablkaaDoorBun10
import Derived.Test.YtknielpkmablkaaDoorBun11
import Derived.Test.YtknielpkmablkaaDoorBun15
import Derived.Test.YtknielpkmablkaaDoorIsaD12X
import Derived.Test.YtknielpkmablkaaDoorBun25
import Derived.LoopN
namespace Go.Proofs.YtknielpkmablkaaDoor
open Go.RowKit
set_option linter.unusedVariables false

def decOut (i : Ins) (L : List Int) : Array Value :=
  if (asI i.m i.r i.n i.l).2.2 = true then
    if L.length = 1 then outV zeroIns.vals 0 4
    else if (asI i.m2 i.r2 i.n2 i.l2).2.2 = true then
      if L.length = 2 then outV zeroIns.vals 0 4
      else outV (Ins.vals { i with n := L.getD 1 0, l := (i.m == 5 && (shortI (L.getD 1 0)).2.2), n2 := L.getD 2 0, l2 := (i.m2 == 5 && (shortI (L.getD 2 0)).2.2) }) 3 0
    else outV (Ins.vals { i with n := L.getD 1 0, l := (i.m == 5 && (shortI (L.getD 1 0)).2.2) }) 2 0
  else if (asI i.m2 i.r2 i.n2 i.l2).2.2 = true then
    if L.length = 1 then outV zeroIns.vals 0 4
    else outV (Ins.vals { i with n2 := L.getD 1 0, l2 := (i.m2 == 5 && (shortI (L.getD 1 0)).2.2) }) 2 0
  else outV i.vals 1 0
theorem ret_agg {A B : Array Value} (h : A = B) : Ending.returned (.agg A) = .returned (.agg B) := by rw [h]
theorem ptr_i0 (a b : Value) (W : World) : (Instr.index 69 (.agg #[a, b]) (.int .i64 0)).run Tryd.prog W = .ok a W := by kernel_rfl
theorem ptr_i1 (a b : Value) (W : World) : (Instr.index 69 (.agg #[a, b]) (.int .i64 1)).run Tryd.prog W = .ok b W := by kernel_rfl
theorem tab_ne0 {w x : World} (h : Tabs w) (hb : Below w.heap.size w x) : 0 ≠ x.heap.size := by
  obtain ⟨t, fr, g⟩ := h.ops
  exact Nat.ne_of_lt (Nat.lt_of_lt_of_le (heap_lt g) hb.size)
theorem tab_ne1 {w x : World} (h : Tabs w) (hb : Below w.heap.size w x) : 1 ≠ x.heap.size := by
  obtain ⟨t, fr, g⟩ := h.shorts
  exact Nat.ne_of_lt (Nat.lt_of_lt_of_le (heap_lt g) hb.size)
set_option maxRecDepth 100000 in
set_option maxHeartbeats 6400000 in
theorem implDec_yes (a : Option Addr) (L : List Int) (x : Int) (op : ByteArray) (b : Bool) (m r n : Int) (l : Bool) (m2 r2 n2 : Int) (l2 : Bool) (j : Int) (cap : Nat) (w : World) (hl : L.length ≤ 400) (h0 : 0 < L.length) (hx : L[0]? = some x) (hR : ReadI w a L) (hw : wordsB L = true) (hT : Tabs w) (hi : insI x = ⟨op, b, m, r, n, l, m2, r2, n2, l2, j⟩) (HN : Hid (insnB op b m r n l m2 r2 n2 l2 j = true)) (f0 : 0 ≤ m) (f5 : m ≤ 5) (g0 : 0 ≤ m2) (g5 : m2 ≤ 5) :
    Calls Tryd.prog 30 #[.slice a L.length cap] w fun e w' => e = .returned (.agg (decOut ⟨op, b, m, r, n, l, m2, r2, n2, l2, j⟩ L)) ∧ Below w.heap.size w w' := by
  obtain ⟨hx0, hx1⟩ := words_at hw hx
  have HW : Hid (_ = _) := hw
  have HT : Hid (Tabs w) := hT
  obtain ⟨p, rfl, hp, hc⟩ := hR h0
  have HR : Hid (ReadI w (some p) L) := hR
  have hc1 : w.cell? p = some (.int .i64 x) := by
    have h := hc 0 h0
    rw [List.getElem?_eq_getElem h0] at hx
    rw [Option.some.inj hx] at h
    rw [add0] at h
    exact h
  have HC : Hid (∀ o, (w.alloc o).cell? p = some (.int .i64 x)) := fun o => ((below_new w o).cell hp).trans hc1
  have HI : Hid (∀ W, Tabs W → Calls Tryd.prog 40 #[.int .i64 x] W fun e w' => e = .returned (.agg #[.string op, .bool b, .int .i64 m, .int .i64 r, .int .i64 n, .bool l, .int .i64 m2, .int .i64 r2, .int .i64 n2, .bool l2, .int .i64 j]) ∧ Below W.heap.size W w') := fun W hW => by
    have h := insnOf_any x W hx0 hx1 hW
    rw [hi] at h
    exact h
  clear hw hR hT hc hc1 hi hx
  have hl' : ¬ (400 : Int) < (L.length : Int) := by omega
  have hl2 : ((L.length : Int) == 0) = false := by rw [beq_eq_false_iff_ne]; omega
  have hl3 : (0 : Int) < (L.length : Int) := by omega
  go_enter Tryd.func30, Tryd.ntmps30
  go_wp2_with fail
  refine (areWords_any (some p) L cap _ (HR.out.alloc _) (by omega)).mono ?_
  rintro e w1 ⟨rfl, rfl⟩
  rw [HW.out]
  have hc0 := HC.out (.cells #[.string ⟨#[]⟩, .bool false, .int .i64 0, .int .i64 0, .int .i64 0, .bool false, .int .i64 0, .int .i64 0, .int .i64 0, .bool false, .int .i64 0, .int .i64 0, .int .i64 0] 47)
  go_wp2_with fail
  refine (HI.out _ (HT.out.alloc _)).mono ?_
  rintro e x1 ⟨rfl, hb⟩
  have HR1 : Hid (_ = _) := heap_keep (heap_alloc_new w _) hb
  have HB1 : Hid (Below w.heap.size w x1) := below_call (below_new _ _) hb
  clear hb hc0
  go_wp2_with fail
  refine (implRight_any op b m r n l m2 r2 n2 l2 j _ ((HT.out.below HB1.out).alloc _)).mono ?_
  rintro e x2 ⟨rfl, hb⟩
  rw [HN.out]
  have HR2 : Hid (_ = _) := heap_keep (heap_more HR1.out _) hb
  have HV2 : Hid (_ = _) := heap_keep (heap_alloc_new x1 _) hb
  have HB2 : Hid (Below w.heap.size w x2) := below_call (below_more HB1.out _) hb
  clear hb
  have hp0 := fun a b W => ptr_i0 a b W
  have hp1 := fun a b W => ptr_i1 a b W
  obtain ⟨d0, d1, d2, d3, d4, d5, d6, d7, d8, d9, d10⟩ := cells11 HV2.out
  go_wp2_with fail
  refine wp_loop_rounds 3 ?_
  rw [rounds_succ]
  go_wp2_with fail
  refine (hasWord_any m r n l _ f0 f5 (HT.out.below HB2.out)).mono ?_
  rintro e x3 ⟨rfl, hb⟩
  have HR3 : Hid (_ = _) := heap_keep HR2.out hb
  have HV3 : Hid (_ = _) := heap_keep HV2.out hb
  have HB3 : Hid (Below w.heap.size w x3) := below_call HB2.out hb
  clear hb d0 d1 d2 d3 d4 d5 d6 d7 d8 d9 d10
  cases hn : (asI m r n l).2.2
  · have HNN : Hid (_ = _) := hn
    clear hn
    have hm0' := HB3.out.size
    obtain ⟨d0, d1, d2, d3, d4, d5, d6, d7, d8, d9, d10⟩ := cells11 HV3.out
    go_wp2_with fail
    rw [rounds_succ]
    go_wp2_with fail
    refine (hasWord_any m2 r2 n2 l2 _ g0 g5 (HT.out.below HB3.out)).mono ?_
    rintro e yy3 ⟨rfl, hb⟩
    have HR3b : Hid (_ = _) := heap_keep HR3.out hb
    have HV3b : Hid (_ = _) := heap_keep HV3.out hb
    have HB3b : Hid (Below w.heap.size w yy3) := below_call HB3.out hb
    clear hb d0 d1 d2 d3 d4 d5 d6 d7 d8 d9 d10
    cases hm : (asI m2 r2 n2 l2).2.2
    · obtain ⟨d0, d1, d2, d3, d4, d5, d6, d7, d8, d9, d10⟩ := cells11 HV3b.out
      have HM : Hid (_ = _) := hm
      clear hm
      go_wp2_with fail
      rw [rounds_succ]
      obtain ⟨q0, q1, q2, q3, q4, q5, q6, q7, q8, q9, q10, q11, q12⟩ := cellsD HR3b.out
      have y0 := frozen_of_row _ _ 0 _ _ HR3b.out
      have y1 := frozen_of_row _ _ 1 _ _ HR3b.out
      have y2 := frozen_of_row _ _ 2 _ _ HR3b.out
      have y3 := frozen_of_row _ _ 3 _ _ HR3b.out
      have y4 := frozen_of_row _ _ 4 _ _ HR3b.out
      have y5 := frozen_of_row _ _ 5 _ _ HR3b.out
      have y6 := frozen_of_row _ _ 6 _ _ HR3b.out
      have y7 := frozen_of_row _ _ 7 _ _ HR3b.out
      have y8 := frozen_of_row _ _ 8 _ _ HR3b.out
      have y9 := frozen_of_row _ _ 9 _ _ HR3b.out
      have y10 := frozen_of_row _ _ 10 _ _ HR3b.out
      have y11 := frozen_of_row _ _ 11 _ _ HR3b.out
      have y12 := frozen_of_row _ _ 12 _ _ HR3b.out
      go_wp2
      exact bodyPost_ret (results_cell_row Tryd.results30 _ _ w.heap.size 47 _ (0, 0) _ rfl (set_thirteen HR3b.out) Tryd.underlying47 rfl (by kernel_rfl)) rfl ⟨ret_agg (by unfold decOut; (try rw [← HN1.out]); rw [if_neg (by show ¬ (asI m r n l).2.2 = true; rw [HNN.out]; simp)]; rw [if_neg (by show ¬ (asI m2 r2 n2 l2).2.2 = true; rw [HM.out]; simp)]; rfl), below_thirteen (Nat.le_refl _) HB3b.out⟩
    · have HM : Hid (_ = _) := hm
      clear hm
      by_cases hk : L.length = 1
      · have hk' : ((1 : Int) == (L.length : Int)) = true := by rw [beq_iff_eq]; omega
        obtain ⟨d0, d1, d2, d3, d4, d5, d6, d7, d8, d9, d10⟩ := cells11 HV3b.out
        obtain ⟨q0, q1, q2, q3, q4, q5, q6, q7, q8, q9, q10, q11, q12⟩ := cellsD HR3b.out
        have y0 := frozen_of_row _ _ 0 _ _ HR3b.out
        have y1 := frozen_of_row _ _ 1 _ _ HR3b.out
        have y2 := frozen_of_row _ _ 2 _ _ HR3b.out
        have y3 := frozen_of_row _ _ 3 _ _ HR3b.out
        have y4 := frozen_of_row _ _ 4 _ _ HR3b.out
        have y5 := frozen_of_row _ _ 5 _ _ HR3b.out
        have y6 := frozen_of_row _ _ 6 _ _ HR3b.out
        have y7 := frozen_of_row _ _ 7 _ _ HR3b.out
        have y8 := frozen_of_row _ _ 8 _ _ HR3b.out
        have y9 := frozen_of_row _ _ 9 _ _ HR3b.out
        have y10 := frozen_of_row _ _ 10 _ _ HR3b.out
        have y11 := frozen_of_row _ _ 11 _ _ HR3b.out
        have y12 := frozen_of_row _ _ 12 _ _ HR3b.out
        go_wp2
        exact bodyPost_ret (results_cell_row Tryd.results30 _ _ w.heap.size 47 _ (0, 0) _ rfl (set_thirteen HR3b.out) Tryd.underlying47 rfl (by kernel_rfl)) rfl ⟨ret_agg (by unfold decOut; (try rw [← HN1.out]); rw [if_neg (by show ¬ (asI m r n l).2.2 = true; rw [HNN.out]; simp)]; rw [if_pos (by show (asI m2 r2 n2 l2).2.2 = true; exact HM.out), if_pos hk]; rfl), below_thirteen (Nat.le_refl _) HB3b.out⟩
      · have hk' : ((1 : Int) == (L.length : Int)) = false := by rw [beq_eq_false_iff_ne]; omega
        have hk2 : (1 : Int) < (L.length : Int) := by omega
        have hcw := read_at (HR.out.below HB3b.out) 1 (by omega)
        generalize hN : L.getD 1 0 = N2 at *
        have HN2 : Hid (_ = _) := hN
        clear hN
        have hcw2 : yy3.cell? ⟨p.block, p.off + 1, none⟩ = some (.int .i64 N2) := hcw
        go_wp2_with fail
        refine (takeWord_dst x1.heap.size _ _ _ _ _ _ _ m2 r2 n2 N2 l2 _ HV3b.out (tab_ne0 HT.out HB1.out) (tab_ne1 HT.out HB1.out) (HT.out.below HB3b.out)).mono ?_
        rintro e zz3 ⟨rfl, hv, hb⟩
        have HV3c : Hid (_ = _) := hv
        have HR3c : Hid (_ = _) := (hb.block w.heap.size (heap_lt HR1.out)).trans HR3b.out
        have HB3c : Hid (Below w.heap.size w zz3) := HB3b.out.trans (hb.mono HB1.out.size)
        clear hb hv hcw hcw2
        obtain ⟨d0, d1, d2, d3, d4, d5, d6, d7, d8, d9, d10⟩ := cells11 HV3c.out
        go_wp2_with fail
        rw [rounds_succ]
        obtain ⟨q0, q1, q2, q3, q4, q5, q6, q7, q8, q9, q10, q11, q12⟩ := cellsD HR3c.out
        have y0 := frozen_of_row _ _ 0 _ _ HR3c.out
        have y1 := frozen_of_row _ _ 1 _ _ HR3c.out
        have y2 := frozen_of_row _ _ 2 _ _ HR3c.out
        have y3 := frozen_of_row _ _ 3 _ _ HR3c.out
        have y4 := frozen_of_row _ _ 4 _ _ HR3c.out
        have y5 := frozen_of_row _ _ 5 _ _ HR3c.out
        have y6 := frozen_of_row _ _ 6 _ _ HR3c.out
        have y7 := frozen_of_row _ _ 7 _ _ HR3c.out
        have y8 := frozen_of_row _ _ 8 _ _ HR3c.out
        have y9 := frozen_of_row _ _ 9 _ _ HR3c.out
        have y10 := frozen_of_row _ _ 10 _ _ HR3c.out
        have y11 := frozen_of_row _ _ 11 _ _ HR3c.out
        have y12 := frozen_of_row _ _ 12 _ _ HR3c.out
        go_wp2
        exact bodyPost_ret (results_cell_row Tryd.results30 _ _ w.heap.size 47 _ (0, 0) _ rfl (set_thirteen HR3c.out) Tryd.underlying47 rfl (by kernel_rfl)) rfl ⟨ret_agg (by unfold decOut; (try rw [← HN1.out]); rw [if_neg (by show ¬ (asI m r n l).2.2 = true; rw [HNN.out]; simp)]; rw [if_pos (by show (asI m2 r2 n2 l2).2.2 = true; exact HM.out), if_neg hk]; rw [← HN2.out]; rfl), below_thirteen (Nat.le_refl _) HB3c.out⟩
  · have HNN : Hid (_ = _) := hn
    clear hn
    by_cases hk1 : L.length = 1
    · have hk' : ((1 : Int) == (L.length : Int)) = true := by rw [beq_iff_eq]; omega
      obtain ⟨d0, d1, d2, d3, d4, d5, d6, d7, d8, d9, d10⟩ := cells11 HV3.out
      obtain ⟨q0, q1, q2, q3, q4, q5, q6, q7, q8, q9, q10, q11, q12⟩ := cellsD HR3.out
      have y0 := frozen_of_row _ _ 0 _ _ HR3.out
      have y1 := frozen_of_row _ _ 1 _ _ HR3.out
      have y2 := frozen_of_row _ _ 2 _ _ HR3.out
      have y3 := frozen_of_row _ _ 3 _ _ HR3.out
      have y4 := frozen_of_row _ _ 4 _ _ HR3.out
      have y5 := frozen_of_row _ _ 5 _ _ HR3.out
      have y6 := frozen_of_row _ _ 6 _ _ HR3.out
      have y7 := frozen_of_row _ _ 7 _ _ HR3.out
      have y8 := frozen_of_row _ _ 8 _ _ HR3.out
      have y9 := frozen_of_row _ _ 9 _ _ HR3.out
      have y10 := frozen_of_row _ _ 10 _ _ HR3.out
      have y11 := frozen_of_row _ _ 11 _ _ HR3.out
      have y12 := frozen_of_row _ _ 12 _ _ HR3.out
      go_wp2
      exact bodyPost_ret (results_cell_row Tryd.results30 _ _ w.heap.size 47 _ (0, 0) _ rfl (set_thirteen HR3.out) Tryd.underlying47 rfl (by kernel_rfl)) rfl ⟨ret_agg (by unfold decOut; rw [if_pos (by show (asI m r n l).2.2 = true; exact HNN.out), if_pos hk1]; rfl), below_thirteen (Nat.le_refl _) HB3.out⟩
    · have hk' : ((1 : Int) == (L.length : Int)) = false := by rw [beq_eq_false_iff_ne]; omega
      have hk2' : (1 : Int) < (L.length : Int) := by omega
      have hcw := read_at (HR.out.below HB3.out) 1 (by omega)
      generalize hNN : L.getD 1 0 = N1 at *
      have HN1 : Hid (_ = _) := hNN
      clear hNN
      have hcw2 : x3.cell? ⟨p.block, p.off + 1, none⟩ = some (.int .i64 N1) := hcw
      go_wp2_with fail
      refine (takeWord_src x1.heap.size _ _ _ _ _ _ _ m r n N1 l _ HV3.out (tab_ne0 HT.out HB1.out) (tab_ne1 HT.out HB1.out) (HT.out.below HB3.out)).mono ?_
      rintro e x4 ⟨rfl, hv, hb⟩
      have HV4 : Hid (_ = _) := hv
      have HR4 : Hid (_ = _) := (hb.block w.heap.size (heap_lt HR1.out)).trans HR3.out
      have HB4 : Hid (Below w.heap.size w x4) := HB3.out.trans (hb.mono HB1.out.size)
      clear hb hv hcw hcw2
      have hm0' := HB4.out.size
      obtain ⟨d0, d1, d2, d3, d4, d5, d6, d7, d8, d9, d10⟩ := cells11 HV4.out
      go_wp2_with fail
      rw [rounds_succ]
      go_wp2_with fail
      refine (hasWord_any m2 r2 n2 l2 _ g0 g5 (HT.out.below HB4.out)).mono ?_
      rintro e yy4 ⟨rfl, hb⟩
      have HR4b : Hid (_ = _) := heap_keep HR4.out hb
      have HV4b : Hid (_ = _) := heap_keep HV4.out hb
      have HB4b : Hid (Below w.heap.size w yy4) := below_call HB4.out hb
      clear hb d0 d1 d2 d3 d4 d5 d6 d7 d8 d9 d10
      cases hm : (asI m2 r2 n2 l2).2.2
      · obtain ⟨d0, d1, d2, d3, d4, d5, d6, d7, d8, d9, d10⟩ := cells11 HV4b.out
        have HM : Hid (_ = _) := hm
        clear hm
        go_wp2_with fail
        rw [rounds_succ]
        obtain ⟨q0, q1, q2, q3, q4, q5, q6, q7, q8, q9, q10, q11, q12⟩ := cellsD HR4b.out
        have y0 := frozen_of_row _ _ 0 _ _ HR4b.out
        have y1 := frozen_of_row _ _ 1 _ _ HR4b.out
        have y2 := frozen_of_row _ _ 2 _ _ HR4b.out
        have y3 := frozen_of_row _ _ 3 _ _ HR4b.out
        have y4 := frozen_of_row _ _ 4 _ _ HR4b.out
        have y5 := frozen_of_row _ _ 5 _ _ HR4b.out
        have y6 := frozen_of_row _ _ 6 _ _ HR4b.out
        have y7 := frozen_of_row _ _ 7 _ _ HR4b.out
        have y8 := frozen_of_row _ _ 8 _ _ HR4b.out
        have y9 := frozen_of_row _ _ 9 _ _ HR4b.out
        have y10 := frozen_of_row _ _ 10 _ _ HR4b.out
        have y11 := frozen_of_row _ _ 11 _ _ HR4b.out
        have y12 := frozen_of_row _ _ 12 _ _ HR4b.out
        go_wp2
        exact bodyPost_ret (results_cell_row Tryd.results30 _ _ w.heap.size 47 _ (0, 0) _ rfl (set_thirteen HR4b.out) Tryd.underlying47 rfl (by kernel_rfl)) rfl ⟨ret_agg (by unfold decOut; (try rw [← HN1.out]); rw [if_pos (by show (asI m r n l).2.2 = true; exact HNN.out), if_neg hk1]; rw [if_neg (by show ¬ (asI m2 r2 n2 l2).2.2 = true; rw [HM.out]; simp)]; rfl), below_thirteen (Nat.le_refl _) HB4b.out⟩
      · have HM : Hid (_ = _) := hm
        clear hm
        by_cases hk : L.length = 2
        · have hk' : ((2 : Int) == (L.length : Int)) = true := by rw [beq_iff_eq]; omega
          obtain ⟨d0, d1, d2, d3, d4, d5, d6, d7, d8, d9, d10⟩ := cells11 HV4b.out
          obtain ⟨q0, q1, q2, q3, q4, q5, q6, q7, q8, q9, q10, q11, q12⟩ := cellsD HR4b.out
          have y0 := frozen_of_row _ _ 0 _ _ HR4b.out
          have y1 := frozen_of_row _ _ 1 _ _ HR4b.out
          have y2 := frozen_of_row _ _ 2 _ _ HR4b.out
          have y3 := frozen_of_row _ _ 3 _ _ HR4b.out
          have y4 := frozen_of_row _ _ 4 _ _ HR4b.out
          have y5 := frozen_of_row _ _ 5 _ _ HR4b.out
          have y6 := frozen_of_row _ _ 6 _ _ HR4b.out
          have y7 := frozen_of_row _ _ 7 _ _ HR4b.out
          have y8 := frozen_of_row _ _ 8 _ _ HR4b.out
          have y9 := frozen_of_row _ _ 9 _ _ HR4b.out
          have y10 := frozen_of_row _ _ 10 _ _ HR4b.out
          have y11 := frozen_of_row _ _ 11 _ _ HR4b.out
          have y12 := frozen_of_row _ _ 12 _ _ HR4b.out
          go_wp2
          exact bodyPost_ret (results_cell_row Tryd.results30 _ _ w.heap.size 47 _ (0, 0) _ rfl (set_thirteen HR4b.out) Tryd.underlying47 rfl (by kernel_rfl)) rfl ⟨ret_agg (by unfold decOut; (try rw [← HN1.out]); rw [if_pos (by show (asI m r n l).2.2 = true; exact HNN.out), if_neg hk1]; rw [if_pos (by show (asI m2 r2 n2 l2).2.2 = true; exact HM.out), if_pos hk]; rfl), below_thirteen (Nat.le_refl _) HB4b.out⟩
        · have hk' : ((2 : Int) == (L.length : Int)) = false := by rw [beq_eq_false_iff_ne]; omega
          have hk2 : (2 : Int) < (L.length : Int) := by omega
          have hcw := read_at (HR.out.below HB4b.out) 2 (by omega)
          generalize hN : L.getD 2 0 = N2 at *
          have HN2 : Hid (_ = _) := hN
          clear hN
          have hcw2 : yy4.cell? ⟨p.block, p.off + 2, none⟩ = some (.int .i64 N2) := hcw
          go_wp2_with fail
          refine (takeWord_dst x1.heap.size _ _ _ _ _ _ _ m2 r2 n2 N2 l2 _ HV4b.out (tab_ne0 HT.out HB1.out) (tab_ne1 HT.out HB1.out) (HT.out.below HB4b.out)).mono ?_
          rintro e zz4 ⟨rfl, hv, hb⟩
          have HV4c : Hid (_ = _) := hv
          have HR4c : Hid (_ = _) := (hb.block w.heap.size (heap_lt HR1.out)).trans HR4b.out
          have HB4c : Hid (Below w.heap.size w zz4) := HB4b.out.trans (hb.mono HB1.out.size)
          clear hb hv hcw hcw2
          obtain ⟨d0, d1, d2, d3, d4, d5, d6, d7, d8, d9, d10⟩ := cells11 HV4c.out
          go_wp2_with fail
          rw [rounds_succ]
          obtain ⟨q0, q1, q2, q3, q4, q5, q6, q7, q8, q9, q10, q11, q12⟩ := cellsD HR4c.out
          have y0 := frozen_of_row _ _ 0 _ _ HR4c.out
          have y1 := frozen_of_row _ _ 1 _ _ HR4c.out
          have y2 := frozen_of_row _ _ 2 _ _ HR4c.out
          have y3 := frozen_of_row _ _ 3 _ _ HR4c.out
          have y4 := frozen_of_row _ _ 4 _ _ HR4c.out
          have y5 := frozen_of_row _ _ 5 _ _ HR4c.out
          have y6 := frozen_of_row _ _ 6 _ _ HR4c.out
          have y7 := frozen_of_row _ _ 7 _ _ HR4c.out
          have y8 := frozen_of_row _ _ 8 _ _ HR4c.out
          have y9 := frozen_of_row _ _ 9 _ _ HR4c.out
          have y10 := frozen_of_row _ _ 10 _ _ HR4c.out
          have y11 := frozen_of_row _ _ 11 _ _ HR4c.out
          have y12 := frozen_of_row _ _ 12 _ _ HR4c.out
          go_wp2
          exact bodyPost_ret (results_cell_row Tryd.results30 _ _ w.heap.size 47 _ (0, 0) _ rfl (set_thirteen HR4c.out) Tryd.underlying47 rfl (by kernel_rfl)) rfl ⟨ret_agg (by unfold decOut; (try rw [← HN1.out]); rw [if_pos (by show (asI m r n l).2.2 = true; exact HNN.out), if_neg hk1]; rw [if_pos (by show (asI m2 r2 n2 l2).2.2 = true; exact HM.out), if_neg hk]; rw [← HN2.out]; rfl), below_thirteen (Nat.le_refl _) HB4c.out⟩
end Go.Proofs.YtknielpkmablkaaDoor
