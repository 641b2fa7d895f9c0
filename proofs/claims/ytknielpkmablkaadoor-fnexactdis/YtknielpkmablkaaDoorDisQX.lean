/- Taking apart, the program's side: the iterator. -/
import Derived.Test.YtknielpkmablkaaDoorRows
import Derived.RangeFuncNested
import Derived.RangeFuncBound
import Derived.RangeFuncCalls
import Derived.RangeFuncLeaves
import Derived.Shelf.Abstract
import Derived.Shelf.RegionOpen
import Derived.WalkKit
import Derived.OwnWalkIn
import Derived.TacticsInMore
import Derived.LoopNIn
import Derived.LoopIn
import Derived.WalkSpells
import Derived.WalkLawsBesides
import Derived.Test.YtknielpkmablkaaDoorBun0
import Derived.Test.YtknielpkmablkaaDoorBun1
import Derived.Test.YtknielpkmablkaaDoorBun3
import Derived.Test.YtknielpkmablkaaDoorBun42
import Derived.Test.YtknielpkmablkaaDoorBun49
import Derived.Test.YtknielpkmablkaaDoorBun45
import Derived.Test.YtknielpkmablkaaDoorIsaD16X
import Derived.Test.YtknielpkmablkaaDoorBun44
import Derived.Test.YtknielpkmablkaaDoorDisSX
import Derived.Test.YtknielpkmablkaaDoorDisLX
namespace Go.Proofs.YtknielpkmablkaaDoor
open Go.RowKit Go.Shelf
attribute [local go_sem] Oper.semAt_some
set_option linter.unusedVariables false

theorem IsDis.total : ∀ (n : Nat) (at_ : Int) (L : List Int), L.length ≤ n → ∃ rs, IsDis at_ L rs
  | 0, _, L, h => ⟨[], List.eq_nil_of_length_eq_zero (by omega)⟩
  | n + 1, at_, L, h => by
    by_cases hL : L = []
    · exact ⟨[], hL⟩
    · obtain ⟨t, k, hk⟩ : ∃ t k, RowOf L t k := by
        rcases row_of L hL with ⟨i, k, _, _, _, _, hr⟩ | ⟨c, _, _, hr⟩
        · exact ⟨_, _, hr⟩
        · cases L with
          | nil => exact absurd rfl hL
          | cons x L => exact ⟨_, _, hr x rfl⟩
      have h1 := hk.ne
      obtain ⟨rs, hrs⟩ := IsDis.total n ((at_ + 2 * (k : Int)) % 65536) (L.drop k) (by simp; omega)
      exact ⟨(at_, t) :: rs, k, hk, rfl, hrs⟩
theorem DisTo.pre {base : Int} {L : List Int} {rs : List rowE} {i : Nat} (h : DisTo base L rs i) : ∃ all, IsDis base L all ∧ rs <+: all := by
  obtain ⟨rest, hr⟩ := IsDis.total _ ((base + 2 * (i : Int)) % 65536) (L.drop i) (Nat.le_refl _)
  exact ⟨_, h rest hr, List.prefix_append _ _⟩
def DisPre (base : Int) (L : List Int) (pre : List rowE) : Prop := ∃ all, DisRes base L all ∧ pre <+: all
theorem grown_of {w w' : World} (hb : Below w.heap.size w w') : w.grownBy w' none := ⟨hb.os, hb.tape, hb.output, hb.size, fun i hi _ => hb.block i hi⟩
theorem abide {B : Nat} {J : List rowE → World → Prop} (hJ : AbidesFrom B J) {pre : List rowE} {W W' : World} (h : J pre W) (hb : Below W.heap.size W W') : J pre W' := hJ pre W W' none h (grown_of hb) (fun r e => by cases e)
theorem ReadI.rest {w : World} {x : Addr} {L : List Int} {cap : Nat} (h : ReadI w (some x) L) (hc : L.length ≤ cap) (i : Nat) : ReadI w (some (if cap = i then x else x.add i)) (L.drop i) := by
  by_cases hi : cap = i
  · intro hl
    simp at hl
    omega
  · rw [if_neg hi]
    exact h.drop i
set_option maxRecDepth 100000 in
set_option maxHeartbeats 1600000 in
theorem eachRow_any (p : Option Addr) (n cap : Nat) (b : Int) (w : World) :
    Calls Tryd.prog 18 #[.slice p n cap, .int .i64 b] w fun e w' => e = .returned (.func (.func 27) #[] #[.pointer (some ⟨w.heap.size, 0, none⟩), .pointer (some ⟨w.heap.size + 1, 0, none⟩)]) ∧ w' = (w.alloc (.cells #[.slice p n cap] 22)).alloc (.cells #[.int .i64 b] 2) := by
  go_enter Tryd.func18, Tryd.ntmps18
  go_wp2
  go_ret
  exact ⟨by simp, rfl⟩
theorem implDecode_is {a : Option Addr} {L : List Int} {n cap : Nat} {w : World} {V : Array Value} (hn : L.length = n) (hl : n ≤ 400) (hR : ReadI w a L) (hT : Tabs w) (hV : decAll L = V) :
    Calls Tryd.prog 30 #[.slice a n cap] w fun e w' => e = .returned (.agg V) ∧ Below w.heap.size w w' := by
  subst hn
  rw [← hV]
  exact implDecode_any a L cap w (by unfold maxLen; omega) hR hT
set_option maxRecDepth 100000 in
set_option maxHeartbeats 3200000 in
theorem eachRow1_in (n : Nat) (hn : 1 ≤ n) (l Bw Bb cap : Nat) (a : Option Addr) (L : List Int) (base : Int) (w0 : World) (hR : ReadI w0 a L) (hT : Tabs w0) (hP : Pow w0) (hl : L.length ≤ 2000000) (hcap : L.length ≤ cap) (B : Nat) (J Jx : List rowE → World → Prop) (hJ : AbidesFrom B J)
    (hY : ∀ pre x W, J pre W → pre.length < 400 → x.2.size ≤ 60 → YieldAt Fence.wide (n - 1) Tryd.prog l #[.agg #[.int .i64 x.1, .string x.2]] W fun e W' =>
      (e = .returned (.bool true) ∧ J (pre ++ [x]) W' ∧ Below w0.heap.size W W') ∨ (e = .returned (.bool false) ∧ Jx (pre ++ [x]) W'))
    (W : World) (hW : Below w0.heap.size w0 W) (hBw : W.cell? ⟨Bw, 0, none⟩ = some (.slice a L.length cap)) (hBb : W.cell? ⟨Bb, 0, none⟩ = some (.int .i64 base)) (h0 : J [] W) :
    CallsIn Fence.wide n Tryd.prog 27 #[.func (.yield l) #[] #[], .pointer (some ⟨Bw, 0, none⟩), .pointer (some ⟨Bb, 0, none⟩)] W fun e W' => (∃ v, e = .returned v) ∧
      ((∃ ys, DisRes base L ys ∧ J ys W') ∨ (∃ pre, DisPre base L pre ∧ Jx pre W')) := by
  have HR : Hid (ReadI w0 a L) := hR
  have HT : Hid (Tabs w0) := hT
  have HP : Hid (Pow w0) := hP
  have HY : Hid (∀ pre x W, J pre W → pre.length < 400 → x.2.size ≤ 60 → YieldAt Fence.wide (n - 1) Tryd.prog l #[.agg #[.int .i64 x.1, .string x.2]] W fun e W' =>
      (e = .returned (.bool true) ∧ J (pre ++ [x]) W' ∧ Below w0.heap.size W W') ∨ (e = .returned (.bool false) ∧ Jx (pre ++ [x]) W')) := hY
  have HJ : Hid (AbidesFrom B J) := hJ
  have HW : Hid (Below w0.heap.size w0 W) := hW
  have HJ0 : Hid (J [] W) := h0
  clear hR hT hP hY hJ hW h0
  refine callsIn_of_wp Tryd.func27 rfl trivial ?_ rfl
  simp only [Tryd.ntmps27, List.size_toArray, List.length_cons, List.length_nil, Nat.reduceAdd, Nat.reduceSub, Array.replicate_succ, Array.replicate_zero, List.push_toArray, List.append_toArray, List.nil_append, List.cons_append]
  by_cases h4 : L.length ≤ 400
  · have h4' : ¬ (400 : Int) < (L.length : Int) := by omega
    cases hw : wordsB L
    · have HWB : Hid (wordsB L = false) := hw
      have HD : Hid (disB base L = false) := by show _ = _; unfold disB; rw [hw]; rfl
      clear hw
      gi_wp2_with fail
      refine ⟨trivial, (callsIn_wide.2 (areWords_any a L cap W (HR.out.below HW.out) (by omega))).mono ?_⟩
      rintro e w' ⟨rfl, rfl⟩
      rw [HWB.out]
      gi_wp2_with fail
      refine ⟨trivial, ?_⟩
      gi_wp2
      refine bodyPost_ret (results_none rfl _ _ _) rfl ?_
      exact ⟨⟨_, rfl⟩, .inl ⟨[], .inr ⟨HD.out, rfl⟩, HJ0.out⟩⟩
    · have HWB : Hid (wordsB L = true) := hw
      clear hw
      gi_wp2_with fail
      refine ⟨trivial, (callsIn_wide.2 (areWords_any a L cap W (HR.out.below HW.out) (by omega))).mono ?_⟩
      rintro e w' ⟨rfl, rfl⟩
      rw [HWB.out]
      gi_wp2_with fail
      refine ⟨trivial, (callsIn_wide.2 (isBase_any base w')).mono ?_⟩
      rintro e w'' ⟨rfl, rfl⟩
      cases hbb : baseB base
      · have HD : Hid (disB base L = false) := by show _ = _; unfold disB; rw [hbb]; simp
        clear hbb
        gi_wp2
        refine bodyPost_ret (results_none rfl _ _ _) rfl ?_
        exact ⟨⟨_, rfl⟩, .inl ⟨[], .inr ⟨HD.out, rfl⟩, HJ0.out⟩⟩
      have HDB : Hid (disB base L = true) := by show _ = _; unfold disB; rw [hbb, HWB.out, decide_eq_true h4]; rfl
      obtain ⟨b0, b1, _⟩ := base_ok hbb
      clear hbb
      gi_wp2
      gi_region
      gi_wp2
      gi_loopw [4, 5] (fun av lv wr => ∃ (i : Nat) (at_ : Int) (y : Option Addr) (c : Nat) (rs : List rowE), i ≤ L.length ∧ av = .int .i64 at_ ∧ lv = .slice y (L.length - i) c ∧ L.length - i ≤ c ∧ Hid ((base + 2 * (i : Int)) % 65536 = at_) ∧ Hid (ReadI w0 y (L.drop i)) ∧ rs.length ≤ i ∧ Hid (DisTo base L rs i) ∧ Hid (J rs wr) ∧ Hid (Below w0.heap.size w0 wr)) (fun _ lv _ => lenV lv)
      case atStart => exact ⟨0, base, a, cap, [], by omega, rfl, by simp, by omega, by show _ = _; omega, by show ReadI w0 a (L.drop 0); rw [List.drop_zero]; exact HR.out, by simp, DisTo.start b0 b1 L, abide HJ.out HJ0.out (Below.drew (Below.refl _ _)), Below.drew HW.out⟩
      case round =>
        obtain ⟨i, at_, y, c, rs, hil, rfl, rfl, hic, HA, HRY, hrs, HD, HJr, HB⟩ := hrel
        have HLN : Hid ((L.drop i).length = L.length - i) := List.length_drop
        have a0 : 0 ≤ at_ := by have := HA.out; omega
        have a1 : at_ ≤ 65535 := by have := HA.out; omega
        by_cases hlt : i < L.length
        · obtain ⟨x, hyx, hx, hc⟩ := HRY.out (by rw [HLN.out]; omega)
          subst hyx
          have hn0 : (0 : Int) < ((L.length - i : Nat) : Int) := by omega
          have hc0 := hc 0 (by rw [HLN.out]; omega)
          rw [add0] at hc0
          have HL0 : Hid ((L.drop i)[0]? = some L[i]) := by show _ = _; rw [List.getElem?_drop]; simp [hlt]
          have he0 : (L.drop i)[0]'(by rw [HLN.out]; omega) = L[i] := by simp
          rw [he0] at hc0
          have HC : Hid (w0.cell? x = some (.int .i64 L[i])) := hc0
          clear hc hc0 he0
          obtain ⟨g0, g1⟩ := isB_iff.1 (List.all_eq_true.1 HWB.out _ (List.getElem_mem hlt))
          have hne : L.drop i ≠ [] := fun h => by have := congrArg List.length h; rw [HLN.out] at this; simp at this; omega
          have HRO := row_of (L.drop i) hne
          clear hne
          generalize L[i] = wd at *
          rcases HRO with HRO | HRO
          · obtain ⟨⟨op, b, m, r, n1, l1, m2, r2, n2, l2, j⟩, k, hd, hr, h1k, hkl, hrow⟩ := HRO
            have HROW : Hid (RowOf (L.drop i) (insT op b m r n1 l1 m2 r2 n2 l2 j) k) := hrow
            have hV : decAll (L.drop i) = #[.string op, .bool b, .int .i64 m, .int .i64 r, .int .i64 n1, .bool l1, .int .i64 m2, .int .i64 r2, .int .i64 n2, .bool l2, .int .i64 j, .int .i64 (k : Int), .int .i64 0] := hd
            have HRT : Hid (insnB op b m r n1 l1 m2 r2 n2 l2 j = true) := hr
            clear hrow hd hr
            rw [HLN.out] at hkl
            have hmx : max (1 : Int) (k : Int) = (k : Int) := by omega
            gi_wp2_with fail
            refine ⟨trivial, (callsIn_wide.2 (implDecode_is HLN.out (by omega) (HRY.out.below HB.out) (HT.out.below HB.out) hV)).mono ?_⟩
            rintro e x1 ⟨rfl, hb⟩
            have HK1 : Hid (Below wr.heap.size wr x1) := hb
            clear hb hV
            have HD2 : Hid ((x1.alloc (.cells #[.string op, .bool b, .int .i64 m, .int .i64 r, .int .i64 n1, .bool l1, .int .i64 m2, .int .i64 r2, .int .i64 n2, .bool l2, .int .i64 j, .int .i64 (k : Int), .int .i64 0] 47)).heap[x1.heap.size]? = some (.cells #[.string op, .bool b, .int .i64 m, .int .i64 r, .int .i64 n1, .bool l1, .int .i64 m2, .int .i64 r2, .int .i64 n2, .bool l2, .int .i64 j, .int .i64 (k : Int), .int .i64 0] 47 (0, 0))) := heap_alloc_new _ _
            have HK2 : Hid (Below wr.heap.size wr (x1.alloc (.cells #[.string op, .bool b, .int .i64 m, .int .i64 r, .int .i64 n1, .bool l1, .int .i64 m2, .int .i64 r2, .int .i64 n2, .bool l2, .int .i64 j, .int .i64 (k : Int), .int .i64 0] 47))) := below_more HK1.out _
            obtain ⟨c0', c1, c2, c3, c4, c5, c6, c7, c8, c9, c10, c11, c12⟩ := cellsD HD2.out
            gi_wp2_with fail
            refine ⟨trivial, (callsIn_wide.2 (cut_any x (L.length - i) c k _ (by omega) hic)).mono ?_⟩
            rintro e x2 ⟨rfl, hb⟩
            have HD3 : Hid (x2.heap[x1.heap.size]? = some (.cells #[.string op, .bool b, .int .i64 m, .int .i64 r, .int .i64 n1, .bool l1, .int .i64 m2, .int .i64 r2, .int .i64 n2, .bool l2, .int .i64 j, .int .i64 (k : Int), .int .i64 0] 47 (0, 0))) := heap_keep HD2.out hb
            have HK3 : Hid (Below wr.heap.size wr x2) := below_call HK2.out hb
            clear hb c0' c1 c2 c3 c4 c5 c6 c7 c8 c9 c10 c11 c12
            obtain ⟨c0', c1, c2, c3, c4, c5, c6, c7, c8, c9, c10, c11, c12⟩ := cellsD HD3.out
            obtain ⟨y, hy2⟩ : ∃ y, (if c = k then x else x.add k) = y := ⟨_, rfl⟩
            have HRZ : Hid (ReadI w0 (some y) (L.drop (i + k))) := by
              have h := ReadI.rest HRY.out (cap := c) (by rw [HLN.out]; exact hic) k
              rw [hy2, List.drop_drop] at h
              exact h
            rw [hy2]
            clear hy2
            gi_wp2_with fail
            refine ⟨trivial, (callsIn_wide.2 (rowText_insn op b m r n1 l1 m2 r2 n2 l2 j k _ _ (HT.out.below (below_call HB.out HK3.out)) (HP.out.below (below_call HB.out HK3.out)) HRT.out)).mono ?_⟩
            rintro e x3 ⟨rfl, hb⟩
            have HK4 : Hid (Below wr.heap.size wr x3) := below_call HK3.out hb
            have HB4 : Hid (Below w0.heap.size w0 x3) := below_call HB.out HK4.out
            clear hb
            obtain ⟨t, ht⟩ : ∃ t, insT op b m r n1 l1 m2 r2 n2 l2 j = t := ⟨_, rfl⟩
            have HDM : Hid (DisTo base L (rs ++ [(at_, t)]) (i + k)) := by
              have h := HD.out.more HROW.out
              rw [HA.out, ht] at h
              exact h
            have hts : t.size ≤ 60 := by
              rw [← ht]
              exact HROW.out.le (words_drop HWB.out i)
            rw [ht]
            clear ht
            obtain ⟨fn, tmps, assign, body, hy, hRR⟩ := HY.out rs (at_, t) x3 (abide HJ.out HJr.out HK4.out) (by omega) hts
            dsimp only at hy
            gi_wp2
            refine hRR.mono ?_
            rintro e W3 (⟨rfl, hJ3, hk3⟩ | ⟨rfl, hJx3⟩)
            · have HB5 : Hid (Below w0.heap.size w0 W3) := HB4.out.trans hk3
              have HJ3 : Hid (J (rs ++ [(at_, t)]) W3) := hJ3
              have hq : (at_ + 2 * (k : Int)).tmod 65536 = (at_ + 2 * (k : Int)) % 65536 := Int.tmod_eq_emod_of_nonneg (by omega)
              obtain ⟨q, hq2⟩ : ∃ q, (at_ + 2 * (k : Int)) % 65536 = q := ⟨_, rfl⟩
              have HA2 : Hid ((base + 2 * ((i + k : Nat) : Int)) % 65536 = q) := by
                have := HA.out
                show _ = _
                omega
              rw [hq2] at hq
              clear hq2 hJ3 hk3
              gi_wp2
              go_roundw
              case rel => exact ⟨i + k, q, some y, c - k, rs ++ [(at_, t)], by omega, rfl, by rw [Nat.sub_sub], by omega, HA2.out, HRZ.out, by simp; omega, HDM.out, HJ3.out, HB5.out⟩
              case measure => simp [lenV]; omega
            · have HJx3 : Hid (Jx (rs ++ [(at_, t)]) W3) := hJx3
              clear hJx3
              gi_wp2
              refine bodyPost_ret (results_none rfl _ _ _) rfl ?_
              obtain ⟨all, hal, hpre⟩ := HDM.out.pre
              exact ⟨⟨_, rfl⟩, .inr ⟨rs ++ [(at_, t)], ⟨all, .inl ⟨HDB.out, hal⟩, hpre⟩, HJx3.out⟩⟩
          · obtain ⟨c0, hcn, hd, hrow⟩ := HRO
            have HROW : Hid (RowOf (L.drop i) (wordP ++ dg wd) 1) := hrow _ HL0.out
            have hV : decAll (L.drop i) = #[.string ⟨#[]⟩, .bool false, .int .i64 0, .int .i64 0, .int .i64 0, .bool false, .int .i64 0, .int .i64 0, .int .i64 0, .bool false, .int .i64 0, .int .i64 0, .int .i64 c0] := hd
            clear hrow hd
            gi_wp2_with fail
            refine ⟨trivial, (callsIn_wide.2 (implDecode_is HLN.out (by omega) (HRY.out.below HB.out) (HT.out.below HB.out) hV)).mono ?_⟩
            rintro e x1 ⟨rfl, hb⟩
            have HK1 : Hid (Below wr.heap.size wr x1) := hb
            clear hb hV
            have HD2 : Hid ((x1.alloc (.cells #[.string ⟨#[]⟩, .bool false, .int .i64 0, .int .i64 0, .int .i64 0, .bool false, .int .i64 0, .int .i64 0, .int .i64 0, .bool false, .int .i64 0, .int .i64 0, .int .i64 c0] 47)).heap[x1.heap.size]? = some (.cells #[.string ⟨#[]⟩, .bool false, .int .i64 0, .int .i64 0, .int .i64 0, .bool false, .int .i64 0, .int .i64 0, .int .i64 0, .bool false, .int .i64 0, .int .i64 0, .int .i64 c0] 47 (0, 0))) := heap_alloc_new _ _
            have HK2 : Hid (Below wr.heap.size wr (x1.alloc (.cells #[.string ⟨#[]⟩, .bool false, .int .i64 0, .int .i64 0, .int .i64 0, .bool false, .int .i64 0, .int .i64 0, .int .i64 0, .bool false, .int .i64 0, .int .i64 0, .int .i64 c0] 47))) := below_more HK1.out _
            obtain ⟨c0', c1, c2, c3, c4, c5, c6, c7, c8, c9, c10, c11, c12⟩ := cellsD HD2.out
            gi_wp2_with fail
            refine ⟨trivial, (callsIn_wide.2 (cut_any x (L.length - i) c 1 _ (by omega) hic)).mono ?_⟩
            rintro e x2 ⟨rfl, hb⟩
            have HD3 : Hid (x2.heap[x1.heap.size]? = some (.cells #[.string ⟨#[]⟩, .bool false, .int .i64 0, .int .i64 0, .int .i64 0, .bool false, .int .i64 0, .int .i64 0, .int .i64 0, .bool false, .int .i64 0, .int .i64 0, .int .i64 c0] 47 (0, 0))) := heap_keep HD2.out hb
            have HK3 : Hid (Below wr.heap.size wr x2) := below_call HK2.out hb
            clear hb c0' c1 c2 c3 c4 c5 c6 c7 c8 c9 c10 c11 c12
            obtain ⟨c0', c1, c2, c3, c4, c5, c6, c7, c8, c9, c10, c11, c12⟩ := cellsD HD3.out
            obtain ⟨y, hy2⟩ : ∃ y, (if c = 1 then x else x.add 1) = y := ⟨_, rfl⟩
            have HRZ : Hid (ReadI w0 (some y) (L.drop (i + 1))) := by
              have h := ReadI.rest HRY.out (cap := c) (by rw [HLN.out]; exact hic) 1
              rw [hy2, List.drop_drop] at h
              exact h
            rw [hy2]
            clear hy2
            gi_wp2_with fail
            refine ⟨trivial, (callsIn_wide.2 (rowText_word ⟨#[]⟩ false 0 0 0 false 0 0 0 false 0 0 c0 x 1 1 wd _ (HP.out.below (below_call HB.out HK3.out)) hcn (Nat.le_refl _) (Nat.lt_of_lt_of_le hx (below_call HB.out HK3.out).size) (((below_call HB.out HK3.out).cell hx).trans HC.out) g0 g1)).mono ?_⟩
            rintro e x3 ⟨rfl, hb⟩
            have HK4 : Hid (Below wr.heap.size wr x3) := below_call HK3.out hb
            have HB4 : Hid (Below w0.heap.size w0 x3) := below_call HB.out HK4.out
            clear hb
            obtain ⟨t, ht⟩ : ∃ t, wordP ++ dg wd = t := ⟨_, rfl⟩
            have HDM : Hid (DisTo base L (rs ++ [(at_, t)]) (i + 1)) := by
              have h := HD.out.more HROW.out
              rw [HA.out, ht] at h
              exact h
            have hts : t.size ≤ 60 := by
              rw [← ht]
              exact HROW.out.le (words_drop HWB.out i)
            rw [ht]
            clear ht
            obtain ⟨fn, tmps, assign, body, hy, hRR⟩ := HY.out rs (at_, t) x3 (abide HJ.out HJr.out HK4.out) (by omega) hts
            dsimp only at hy
            gi_wp2
            refine hRR.mono ?_
            rintro e W3 (⟨rfl, hJ3, hk3⟩ | ⟨rfl, hJx3⟩)
            · have HB5 : Hid (Below w0.heap.size w0 W3) := HB4.out.trans hk3
              have HJ3 : Hid (J (rs ++ [(at_, t)]) W3) := hJ3
              have hq : (at_ + 2).tmod 65536 = (at_ + 2) % 65536 := Int.tmod_eq_emod_of_nonneg (by omega)
              obtain ⟨q, hq2⟩ : ∃ q, (at_ + 2) % 65536 = q := ⟨_, rfl⟩
              have HA2 : Hid ((base + 2 * ((i + 1 : Nat) : Int)) % 65536 = q) := by
                have := HA.out
                show _ = _
                omega
              rw [hq2] at hq
              clear hq2 hJ3 hk3
              gi_wp2
              go_roundw
              case rel => exact ⟨i + 1, q, some y, c - 1, rs ++ [(at_, t)], by omega, rfl, by rw [Nat.sub_sub], by omega, HA2.out, HRZ.out, by simp; omega, HDM.out, HJ3.out, HB5.out⟩
              case measure => simp [lenV]; omega
            · have HJx3 : Hid (Jx (rs ++ [(at_, t)]) W3) := hJx3
              clear hJx3
              gi_wp2
              refine bodyPost_ret (results_none rfl _ _ _) rfl ?_
              obtain ⟨all, hal, hpre⟩ := HDM.out.pre
              exact ⟨⟨_, rfl⟩, .inr ⟨rs ++ [(at_, t)], ⟨all, .inl ⟨HDB.out, hal⟩, hpre⟩, HJx3.out⟩⟩
        · obtain rfl : i = L.length := by omega
          have hn0 : ¬ (0 : Int) < ((L.length - L.length : Nat) : Int) := by omega
          gi_wp2
          go_end0
          exact ⟨⟨_, rfl⟩, .inl ⟨rs, .inl ⟨HDB.out, HD.out.done (Nat.le_refl _)⟩, HJr.out⟩⟩
  · have h4' : (400 : Int) < (L.length : Int) := by omega
    have HD : Hid (disB base L = false) := by show _ = _; unfold disB; rw [decide_eq_false h4]; simp
    gi_wp2_with fail
    refine ⟨trivial, ?_⟩
    gi_wp2_with fail
    refine ⟨trivial, ?_⟩
    gi_wp2
    refine bodyPost_ret (results_none rfl _ _ _) rfl ?_
    exact ⟨⟨_, rfl⟩, .inl ⟨[], .inr ⟨HD.out, rfl⟩, HJ0.out⟩⟩
end Go.Proofs.YtknielpkmablkaaDoor
