/- Dis of the specification. -/
import Derived.Test.YtknielpkmablkaaDoorRows
import Derived.WalkKit
import Derived.WalkSpells
import Derived.WalkLawsBesides
import Derived.Outline
import Derived.Deep.AppendLies
import Derived.Test.YtknielpkmablkaaDoorBun0
import Derived.Test.YtknielpkmablkaaDoorBun1
import Derived.Test.YtknielpkmablkaaDoorBun45
import Derived.Test.YtknielpkmablkaaDoorBun3
import Derived.Test.YtknielpkmablkaaDoorBun4
import Derived.Test.YtknielpkmablkaaDoorBun15
import Derived.Test.YtknielpkmablkaaDoorIsaD16X
import Derived.Test.YtknielpkmablkaaDoorTextOX
import Derived.Test.YtknielpkmablkaaDoorLawInsnTX
import Derived.Test.YtknielpkmablkaaDoorBun44
namespace Go.Proofs.YtknielpkmablkaaDoor
open Go.RowKit
set_option linter.unusedVariables false

theorem infoRow : (Tryd.prog.info? 34).map (fun i => (i.zero, i.size, i.bytes)) = some (some (.agg #[.int .i64 0, .string ⟨#[]⟩]), 2, 24) := by kernel_rfl
theorem row_one (s : rowE) : ∀ u ∈ rowC s, u.oneCell' = true := by
  intro u hu
  simp only [rowC, List.mem_cons, List.not_mem_nil, or_false] at hu
  rcases hu with rfl | rfl <;> rfl
theorem cutI (x : Addr) (n cap i : Nat) (h : i < n) (hk : n ≤ cap) (W : World) : (Instr.slice 22 (.slice (some x) n cap) (some (.int .i64 (i : Int))) none none).run Tryd.prog W = .ok (.slice (some (x.add i)) (n - i) (cap - i)) W := by
  obtain ⟨i0, hi, hz0, hz1, hz2⟩ := info_parts infoI
  have h2 : ¬ cap = i := by omega
  have h3 : (i : Int) ≤ (n : Int) := by omega
  simp [Instr.slice, run_underlying Tryd.underlying22, Instr.sliceBounds, Instr.sliceBound, asIntOf, sizeOf, typeInfo, hi, hz1, h2]
  omega
theorem ReadI.drop {w : World} {x : Addr} {L : List Int} (h : ReadI w (some x) L) (i : Nat) : ReadI w (some (x.add i)) (L.drop i) := fun hl => by
  have hlt : i < L.length := by simp at hl; omega
  obtain ⟨y, hy, hb, hc⟩ := h (by omega)
  cases hy
  refine ⟨_, rfl, by rw [add_blockI]; exact hb, fun q hq => ?_⟩
  have hq2 : i + q < L.length := by simp at hq; omega
  rw [Addr.add_add, hc (i + q) hq2]
  simp
theorem l02Decode_is {a : Option Addr} {L : List Int} {n cap : Nat} {w : World} {V : Array Value} (hn : L.length = n) (hl : n ≤ 400) (hR : ReadI w a L) (hw : wordsB L = true) (hV : decAll L = V) :
    Calls Tryd.prog 23 #[.slice a n cap] w fun e w' => e = .returned (.agg V) ∧ Below w.heap.size w w' := by
  have e : decAll L = specOut L := by
    unfold decAll specAll
    rw [if_neg (by omega), if_pos hw]
  rw [← hV, e]
  subst hn
  exact l02Decode_any a L cap w hl hR hw
theorem words_drop {L : List Int} (h : wordsB L = true) (i : Nat) : wordsB (L.drop i) = true := by
  unfold wordsB at *
  rw [List.all_eq_true] at *
  exact fun x hx => h x (List.mem_of_mem_drop hx)
set_option maxRecDepth 100000 in
set_option maxHeartbeats 1600000 in
theorem l06Words_any (a : Option Addr) (L : List Int) (cap : Nat) (base : Int) (w : World) (hR : ReadI w a L) (hl : L.length ≤ 2000000) :
    Calls Tryd.prog 15 #[.slice a L.length cap, .int .i64 base] w fun e w' => e = .returned (.bool (disB base L)) ∧ w' = w := by
  have HR : Hid (ReadI w a L) := hR
  clear hR
  go_enter Tryd.func15, Tryd.ntmps15
  go_wp2
  go_loop [5] (fun i => ∃ k : Nat, k ≤ L.length ∧ i = .int .i64 k ∧ Hid (wordsB (L.take k) = true)) (fun i => L.length - (intOf i).toNat)
  case atStart => exact ⟨0, by omega, rfl, rfl⟩
  case round =>
    obtain ⟨k, hk, rfl, HW⟩ := hrel
    by_cases hlt : k < L.length
    · obtain ⟨x, rfl, hx, hc⟩ := HR.out (by omega)
      have c0 := hc k hlt
      have HNO : Hid (isB L[k] 0 65535 = false → wordsB L = false) := fun h => by
        cases hw : wordsB L
        · rfl
        · have := List.all_eq_true.1 hw _ (List.getElem_mem hlt)
          rw [h] at this; cases this
      have HYES : Hid (isB L[k] 0 65535 = true → wordsB (L.take (k + 1)) = true) := fun h => by
        have h1 := HW.out
        unfold wordsB at *
        rw [List.take_succ_eq_append_getElem hlt, List.all_append, h1]
        simpa using h
      clear hc
      generalize L[k] = wd at *
      have hi0 : (0 : Int) ≤ (k : Int) := by omega
      have hi1 : (k : Int) < (L.length : Int) := by omega
      cases hwb : isB wd 0 65535
      · have HWB : Hid (_ = _) := hwb
        have HD : Hid (disB base L = false) := by show _ = _; unfold disB; rw [HNO.out hwb]; rfl
        clear hwb
        go_wp2_with fail
        refine (l02Word_any wd _).mono ?_
        rintro e w' ⟨rfl, rfl⟩
        rw [HWB.out]
        go_wp2
        go_ret
        exact ⟨ret_bool HD.out.symm, rfl⟩
      · have HWB : Hid (_ = _) := hwb
        have HY : Hid (_ = _) := HYES.out hwb
        clear hwb
        go_wp2_with fail
        refine (l02Word_any wd _).mono ?_
        rintro e w' ⟨rfl, rfl⟩
        rw [HWB.out]
        go_wp2
        exact ⟨⟨k + 1, by omega, by go_num, HY.out⟩, by simp [intOf]; omega⟩
    · obtain rfl : k = L.length := by omega
      have HWW : Hid (wordsB L = true) := by have := HW.out; rwa [List.take_length] at this
      by_cases h4 : L.length ≤ 400
      · have h4' : (L.length : Int) ≤ 400 := by omega
        have HD : Hid (disB base L = baseB base) := by show _ = _; unfold disB; rw [HWW.out, decide_eq_true h4]; rfl
        go_wp2_with fail
        refine (base_spec base _).mono ?_
        rintro e w' ⟨rfl, rfl⟩
        go_wp2
        go_ret
        exact ⟨ret_bool HD.out.symm, rfl⟩
      · have h4' : ¬ (L.length : Int) ≤ 400 := by omega
        have HD : Hid (disB base L = false) := by show _ = _; unfold disB; rw [decide_eq_false h4]; simp
        go_wp2
        go_ret
        exact ⟨ret_bool HD.out.symm, rfl⟩
def DisOut (base : Int) (L : List Int) (w : World) (e : Ending) (w' : World) : Prop := ∃ v rs, e = .returned v ∧ OwnX 34 2 rowC w' w.heap.size v rs ∧ IsDis base L rs ∧ Below w.heap.size w w'
set_option maxRecDepth 100000 in
set_option maxHeartbeats 6400000 in
theorem l06Dis_any (a : Option Addr) (L : List Int) (cap : Nat) (base : Int) (w : World) (hR : ReadI w a L) (hl : L.length ≤ 400) (hcap : L.length ≤ cap) (hw : wordsB L = true) (h0 : 0 ≤ base) (h1 : base ≤ 65534) :
    Calls Tryd.prog 16 #[.slice a L.length cap, .int .i64 base] w (DisOut base L w) := by
  have HR : Hid (ReadI w a L) := hR
  have HW : Hid (wordsB L = true) := hw
  clear hR hw
  obtain ⟨i0, hi, hz0, hz1, hz2⟩ := info_parts infoRow
  go_enter Tryd.func16, Tryd.ntmps16
  go_wp2
  go_loopw [5, 6] (fun v iv wr => ∃ (i : Nat) (rs : List rowE), i ≤ L.length ∧ iv = .int .i64 i ∧ Hid (OwnX 34 2 rowC wr w.heap.size v rs) ∧ rs.length ≤ i ∧ Hid (DisTo base L rs i) ∧ Hid (Below w.heap.size w wr)) (fun _ iv _ => L.length - (intOf iv).toNat)
  case atStart => exact ⟨0, [], by omega, rfl, World.ownsRow_lit _ _ 0 (Nat.le_refl _) (by simp [maxLen]) rfl, by simp, DisTo.start h0 h1 L, below_new _ _⟩
  case round =>
    obtain ⟨i, rs, hil, rfl, HO, hrs, HD, HB⟩ := hrel
    have hsz := HB.out.size
    obtain ⟨bo, kb, rfl, _⟩ := HO.out.is rowC_len
    by_cases hlt : i < L.length
    · obtain ⟨x, rfl, hx, hc⟩ := HR.out (by omega)
      have HC : Hid (∀ W, Below w.heap.size w W → W.cell? (x.add i) = some (.int .i64 L[i])) := fun W h => (h.cell (by rw [add_blockI]; exact hx)).trans (hc i hlt)
      have HL0 : Hid ((L.drop i)[0]? = some L[i]) := by show _ = _; rw [List.getElem?_drop]; simp [hlt]
      have hwi : isB L[i] 0 65535 = true := List.all_eq_true.1 HW.out _ (List.getElem_mem hlt)
      obtain ⟨g0, g1⟩ := isB_iff.1 hwi
      have hne : L.drop i ≠ [] := fun h => by have := congrArg List.length h; simp at this; omega
      have HRO := row_of (L.drop i) hne
      have hsl := cutI x L.length cap i hlt hcap
      have HLN : Hid ((L.drop i).length = L.length - i) := List.length_drop
      have hq : (base + 2 * (i : Int)).tmod 65536 = (base + 2 * (i : Int)) % 65536 := Int.tmod_eq_emod_of_nonneg (by omega)
      obtain ⟨at_, hat⟩ : ∃ at_, (base + 2 * (i : Int)) % 65536 = at_ := ⟨_, rfl⟩
      have HAT : Hid ((base + 2 * (i : Int)) % 65536 = at_) := hat
      rw [hat] at hq
      clear hc hne hat hwi
      generalize L[i] = wd at *
      have hi0 : (0 : Int) ≤ (i : Int) := by omega
      have hi1 : (i : Int) < (L.length : Int) := by omega
      have HN0 : Hid ((wr.alloc (.cells #[.int .i64 at_, .string ⟨#[]⟩] 34)).heap[wr.heap.size]? = some (.cells #[.int .i64 at_, .string ⟨#[]⟩] 34 (0, 0))) := heap_alloc_new _ _
      have HO0 : Hid (OwnX 34 2 rowC (wr.alloc (.cells #[.int .i64 at_, .string ⟨#[]⟩] 34)) w.heap.size _ rs) := HO.out.alloc _
      have HB0 : Hid (Below w.heap.size w (wr.alloc (.cells #[.int .i64 at_, .string ⟨#[]⟩] 34))) := below_more HB.out _
      have hown : ∀ q, Value.ownBlock _ = some q → q < wr.heap.size := fun q e => (HO.out.blk q e).2
      have HOW : Hid (∀ q, Value.ownBlock _ = some q → q < wr.heap.size) := hown
      clear hown
      go_wp2_with fail
      rcases HRO with HRO | HRO
      · obtain ⟨⟨op, b, m, r, n, l, m2, r2, n2, l2, j⟩, k, hd, hr, h1k, hkl, hrow⟩ := HRO
        have HROW : Hid (RowOf (L.drop i) (insT op b m r n l m2 r2 n2 l2 j) k) := hrow
        have hV : decAll (L.drop i) = #[.string op, .bool b, .int .i64 m, .int .i64 r, .int .i64 n, .bool l, .int .i64 m2, .int .i64 r2, .int .i64 n2, .bool l2, .int .i64 j, .int .i64 (k : Int), .int .i64 0] := hd
        have HRT : Hid (insnB op b m r n l m2 r2 n2 l2 j = true) := hr
        clear hrow hd hr
        have hkl2 : k ≤ L.length - i := by rwa [HLN.out] at hkl
        have hk0 : (0 : Int) ≤ (k : Int) := by omega
        have hk4 : (i : Int) + (k : Int) ≤ 400 := by omega
        clear hkl
        refine (l02Decode_is HLN.out (by omega) ((HR.out.drop i).below HB0.out) (words_drop HW.out i) hV).mono ?_
        rintro e x1 ⟨rfl, hb⟩
        clear hV
        have HN1 : Hid (x1.heap[wr.heap.size]? = some (.cells #[.int .i64 at_, .string ⟨#[]⟩] 34 (0, 0))) := heap_keep HN0.out hb
        have HO1 : Hid (OwnX 34 2 rowC x1 w.heap.size (.slice bo rs.length kb) rs) := HO0.out.call hb
        have HB1 : Hid (Below w.heap.size w x1) := below_call HB0.out hb
        have hsz1 : wr.heap.size < x1.heap.size := heap_lt HN1.out
        clear hb
        have HN2 : Hid ((x1.alloc (.cells #[.string op, .bool b, .int .i64 m, .int .i64 r, .int .i64 n, .bool l, .int .i64 m2, .int .i64 r2, .int .i64 n2, .bool l2, .int .i64 j, .int .i64 (k : Int), .int .i64 0] 47)).heap[wr.heap.size]? = some (.cells #[.int .i64 at_, .string ⟨#[]⟩] 34 (0, 0))) := heap_more HN1.out _
        have HO2 : Hid (OwnX 34 2 rowC (x1.alloc (.cells #[.string op, .bool b, .int .i64 m, .int .i64 r, .int .i64 n, .bool l, .int .i64 m2, .int .i64 r2, .int .i64 n2, .bool l2, .int .i64 j, .int .i64 (k : Int), .int .i64 0] 47)) w.heap.size (.slice bo rs.length kb) rs) := HO1.out.alloc _
        have HB2 : Hid (Below w.heap.size w (x1.alloc (.cells #[.string op, .bool b, .int .i64 m, .int .i64 r, .int .i64 n, .bool l, .int .i64 m2, .int .i64 r2, .int .i64 n2, .bool l2, .int .i64 j, .int .i64 (k : Int), .int .i64 0] 47))) := below_more HB1.out _
        have HD2 : Hid ((x1.alloc (.cells #[.string op, .bool b, .int .i64 m, .int .i64 r, .int .i64 n, .bool l, .int .i64 m2, .int .i64 r2, .int .i64 n2, .bool l2, .int .i64 j, .int .i64 (k : Int), .int .i64 0] 47)).heap[x1.heap.size]? = some (.cells #[.string op, .bool b, .int .i64 m, .int .i64 r, .int .i64 n, .bool l, .int .i64 m2, .int .i64 r2, .int .i64 n2, .bool l2, .int .i64 j, .int .i64 (k : Int), .int .i64 0] 47 (0, 0))) := heap_alloc_new _ _
        obtain ⟨c0, c1, c2, c3, c4, c5, c6, c7, c8, c9, c10, c11, c12⟩ := cellsD HD2.out
        go_wp2_with fail
        refine (l03Text_any op b m r n l m2 r2 n2 l2 j _ HRT.out).mono ?_
        rintro e x2 ⟨rfl, hb⟩
        have HN3 : Hid (x2.heap[wr.heap.size]? = some (.cells #[.int .i64 at_, .string ⟨#[]⟩] 34 (0, 0))) := heap_keep HN2.out hb
        have HD3 : Hid (x2.heap[x1.heap.size]? = some (.cells #[.string op, .bool b, .int .i64 m, .int .i64 r, .int .i64 n, .bool l, .int .i64 m2, .int .i64 r2, .int .i64 n2, .bool l2, .int .i64 j, .int .i64 (k : Int), .int .i64 0] 47 (0, 0))) := heap_keep HD2.out hb
        have HO3 : Hid (OwnX 34 2 rowC x2 w.heap.size (.slice bo rs.length kb) rs) := HO2.out.call hb
        have HB3 : Hid (Below w.heap.size w x2) := below_call HB2.out hb
        clear hb c0 c1 c2 c3 c4 c5 c6 c7 c8 c9 c10 c11 c12
        obtain ⟨t, ht⟩ : ∃ t, insT op b m r n l m2 r2 n2 l2 j = t := ⟨_, rfl⟩
        have HT : Hid (insT op b m r n l m2 r2 n2 l2 j = t) := ht
        have m1 : x2.cell? ⟨wr.heap.size, 1, none⟩ = some (.string ⟨#[]⟩) := cell_of_row _ _ 1 _ _ _ HN3.out
        have n1 : x2.frozen? ⟨wr.heap.size, 1, none⟩ = false := frozen_of_row _ _ _ _ _ HN3.out
        have HN4 : Hid ((x2.setCell ⟨wr.heap.size, 1, none⟩ (.string t)).heap[wr.heap.size]? = some (.cells #[.int .i64 at_, .string t] 34 (0, 0))) := heap_set HN3.out 1 _
        have HD4 : Hid ((x2.setCell ⟨wr.heap.size, 1, none⟩ (.string t)).heap[x1.heap.size]? = some (.cells #[.string op, .bool b, .int .i64 m, .int .i64 r, .int .i64 n, .bool l, .int .i64 m2, .int .i64 r2, .int .i64 n2, .bool l2, .int .i64 j, .int .i64 (k : Int), .int .i64 0] 47 (0, 0))) := set_far (Nat.ne_of_gt hsz1) HD3.out
        have HO4 : Hid (OwnX 34 2 rowC (x2.setCell ⟨wr.heap.size, 1, none⟩ (.string t)) w.heap.size (.slice bo rs.length kb) rs) := HO3.out.stays fun q _ e => Go.heap_setCell_other _ _ _ _ (by have := HOW.out q e; simp only; omega)
        have HB4 : Hid (Below w.heap.size w (x2.setCell ⟨wr.heap.size, 1, none⟩ (.string t))) := below_set hsz HB3.out
        have hsz4 := HB4.out.size
        obtain ⟨c0, c1, c2, c3, c4, c5, c6, c7, c8, c9, c10, c11, c12⟩ := cellsD HD4.out
        have e0 : (x2.setCell ⟨wr.heap.size, 1, none⟩ (.string t)).cell? ⟨wr.heap.size, 0, none⟩ = some (.int .i64 at_) := cell_of_row _ _ 0 _ _ _ HN4.out
        have e1 : (x2.setCell ⟨wr.heap.size, 1, none⟩ (.string t)).cell? ⟨wr.heap.size, 1, none⟩ = some (.string t) := cell_of_row _ _ 1 _ _ _ HN4.out
        have HDM : Hid (DisTo base L (rs ++ [(at_, t)]) (i + k)) := by
          have h := HD.out.more HROW.out
          rw [HAT.out, HT.out] at h
          exact h
        rw [ht]
        clear ht
        go_wp2_with (at_builtin; refine wpList_append_lies _ rfl (.tmp 44) (.tmp 46) 23 rfl w.heap.size 34 i0 (.agg #[.int .i64 0, .string ⟨#[]⟩]) 2 24 Tryd.underlying23 hi hz0 hz1 hz2 rfl (by decide) _ rs.length (rs.flatMap rowC) rfl (HO4.out.alloc _) ⟨x2.heap.size, 0, none⟩ 1 1 (rowC (at_, t)) rfl rfl (newsY (set_size _ _ _) _ _) (row_one _) (by omega) (by unfold maxLen; omega) (by omega) (Nat.le_trans hsz4 (by simp)) _ rfl ?_; intro gg cap2 z hown1 hgrow hat hlt2; have HKz : Hid (∀ k, k < (x2.setCell ⟨wr.heap.size, 1, none⟩ (.string t)).heap.size → some k ≠ (Value.slice bo rs.length kb).ownBlock → z.heap[k]? = (x2.setCell ⟨wr.heap.size, 1, none⟩ (.string t)).heap[k]?) := fun k hk hne => (hgrow.block k (Nat.lt_of_lt_of_le hk (by simp)) hne).trans (Go.heap_alloc_old (x2.setCell ⟨wr.heap.size, 1, none⟩ (.string t)) _ hk))
        have HBz : Hid (Below w.heap.size w z) := ⟨hgrow.os.trans (below_more HB4.out _).os, hgrow.tape.trans (below_more HB4.out _).tape, hgrow.output.trans (below_more HB4.out _).output, Nat.le_trans (below_more HB4.out _).size hgrow.size, fun q hq => (HKz.out q (by omega) (fun e => absurd (HO4.out.blk _ e.symm).1 (by omega))).trans (HB4.out.block q hq)⟩
        exact ⟨⟨i + k, rs ++ [(at_, t)], by omega, by go_num, OwnX.more hown1, by simp; omega, HDM.out, HBz.out⟩, by simp [intOf]; omega⟩
      · obtain ⟨c, hc0, hd, hrow⟩ := HRO
        obtain ⟨u, hu⟩ : ∃ u, dg wd = u := ⟨_, rfl⟩
        obtain ⟨t, ht⟩ : ∃ t : ByteArray, ⟨#[46, 119, 111, 114, 100, 32]⟩ ++ u = t := ⟨_, rfl⟩
        have hus : u.size ≤ 7 := by
          rw [← hu]
          exact dg_size wd (by omega) (by omega)
        have k0 := addS (⟨#[46, 119, 111, 114, 100, 32]⟩) u (by decide) (by omega)
        rw [ht] at k0
        have HROW : Hid (RowOf (L.drop i) t 1) := by
          have h := hrow _ HL0.out
          rw [hu] at h
          rw [← ht]
          exact h
        clear ht
        have HU : Hid (dg wd = u) := hu
        clear hu
        have hV : decAll (L.drop i) = #[.string ⟨#[]⟩, .bool false, .int .i64 0, .int .i64 0, .int .i64 0, .bool false, .int .i64 0, .int .i64 0, .int .i64 0, .bool false, .int .i64 0, .int .i64 0, .int .i64 c] := hd
        clear hrow hd
        have hi4 : (i : Int) + 1 ≤ 400 := by omega
        refine (l02Decode_is HLN.out (by omega) ((HR.out.drop i).below HB0.out) (words_drop HW.out i) hV).mono ?_
        rintro e x1 ⟨rfl, hb⟩
        clear hV
        have HN1 : Hid (x1.heap[wr.heap.size]? = some (.cells #[.int .i64 at_, .string ⟨#[]⟩] 34 (0, 0))) := heap_keep HN0.out hb
        have HO1 : Hid (OwnX 34 2 rowC x1 w.heap.size (.slice bo rs.length kb) rs) := HO0.out.call hb
        have HB1 : Hid (Below w.heap.size w x1) := below_call HB0.out hb
        have hsz1 : wr.heap.size < x1.heap.size := heap_lt HN1.out
        clear hb
        have HN2 : Hid ((x1.alloc (.cells #[.string ⟨#[]⟩, .bool false, .int .i64 0, .int .i64 0, .int .i64 0, .bool false, .int .i64 0, .int .i64 0, .int .i64 0, .bool false, .int .i64 0, .int .i64 0, .int .i64 c] 47)).heap[wr.heap.size]? = some (.cells #[.int .i64 at_, .string ⟨#[]⟩] 34 (0, 0))) := heap_more HN1.out _
        have HO2 : Hid (OwnX 34 2 rowC (x1.alloc (.cells #[.string ⟨#[]⟩, .bool false, .int .i64 0, .int .i64 0, .int .i64 0, .bool false, .int .i64 0, .int .i64 0, .int .i64 0, .bool false, .int .i64 0, .int .i64 0, .int .i64 c] 47)) w.heap.size (.slice bo rs.length kb) rs) := HO1.out.alloc _
        have HB2 : Hid (Below w.heap.size w (x1.alloc (.cells #[.string ⟨#[]⟩, .bool false, .int .i64 0, .int .i64 0, .int .i64 0, .bool false, .int .i64 0, .int .i64 0, .int .i64 0, .bool false, .int .i64 0, .int .i64 0, .int .i64 c] 47))) := below_more HB1.out _
        have HD2 : Hid ((x1.alloc (.cells #[.string ⟨#[]⟩, .bool false, .int .i64 0, .int .i64 0, .int .i64 0, .bool false, .int .i64 0, .int .i64 0, .int .i64 0, .bool false, .int .i64 0, .int .i64 0, .int .i64 c] 47)).heap[x1.heap.size]? = some (.cells #[.string ⟨#[]⟩, .bool false, .int .i64 0, .int .i64 0, .int .i64 0, .bool false, .int .i64 0, .int .i64 0, .int .i64 0, .bool false, .int .i64 0, .int .i64 0, .int .i64 c] 47 (0, 0))) := heap_alloc_new _ _
        obtain ⟨c0, c1, c2, c3, c4, c5, c6, c7, c8, c9, c10, c11, c12⟩ := cellsD HD2.out
        have cw := HC.out _ HB2.out
        go_wp2_with fail
        refine (dgS_any wd _ (by omega) (by omega)).mono ?_
        rintro e x2 ⟨rfl, hb⟩
        rw [HU.out]
        have HN3 : Hid (x2.heap[wr.heap.size]? = some (.cells #[.int .i64 at_, .string ⟨#[]⟩] 34 (0, 0))) := heap_keep HN2.out hb
        have HD3 : Hid (x2.heap[x1.heap.size]? = some (.cells #[.string ⟨#[]⟩, .bool false, .int .i64 0, .int .i64 0, .int .i64 0, .bool false, .int .i64 0, .int .i64 0, .int .i64 0, .bool false, .int .i64 0, .int .i64 0, .int .i64 c] 47 (0, 0))) := heap_keep HD2.out hb
        have HO3 : Hid (OwnX 34 2 rowC x2 w.heap.size (.slice bo rs.length kb) rs) := HO2.out.call hb
        have HB3 : Hid (Below w.heap.size w x2) := below_call HB2.out hb
        clear hb c0 c1 c2 c3 c4 c5 c6 c7 c8 c9 c10 c11 c12
        have m1 : x2.cell? ⟨wr.heap.size, 1, none⟩ = some (.string ⟨#[]⟩) := cell_of_row _ _ 1 _ _ _ HN3.out
        have n1 : x2.frozen? ⟨wr.heap.size, 1, none⟩ = false := frozen_of_row _ _ _ _ _ HN3.out
        have HN4 : Hid ((x2.setCell ⟨wr.heap.size, 1, none⟩ (.string t)).heap[wr.heap.size]? = some (.cells #[.int .i64 at_, .string t] 34 (0, 0))) := heap_set HN3.out 1 _
        have HD4 : Hid ((x2.setCell ⟨wr.heap.size, 1, none⟩ (.string t)).heap[x1.heap.size]? = some (.cells #[.string ⟨#[]⟩, .bool false, .int .i64 0, .int .i64 0, .int .i64 0, .bool false, .int .i64 0, .int .i64 0, .int .i64 0, .bool false, .int .i64 0, .int .i64 0, .int .i64 c] 47 (0, 0))) := set_far (Nat.ne_of_gt hsz1) HD3.out
        have HO4 : Hid (OwnX 34 2 rowC (x2.setCell ⟨wr.heap.size, 1, none⟩ (.string t)) w.heap.size (.slice bo rs.length kb) rs) := HO3.out.stays fun q _ e => Go.heap_setCell_other _ _ _ _ (by have := HOW.out q e; simp only; omega)
        have HB4 : Hid (Below w.heap.size w (x2.setCell ⟨wr.heap.size, 1, none⟩ (.string t))) := below_set hsz HB3.out
        have hsz4 := HB4.out.size
        obtain ⟨c0, c1, c2, c3, c4, c5, c6, c7, c8, c9, c10, c11, c12⟩ := cellsD HD4.out
        have e0 : (x2.setCell ⟨wr.heap.size, 1, none⟩ (.string t)).cell? ⟨wr.heap.size, 0, none⟩ = some (.int .i64 at_) := cell_of_row _ _ 0 _ _ _ HN4.out
        have e1 : (x2.setCell ⟨wr.heap.size, 1, none⟩ (.string t)).cell? ⟨wr.heap.size, 1, none⟩ = some (.string t) := cell_of_row _ _ 1 _ _ _ HN4.out
        have HDM : Hid (DisTo base L (rs ++ [(at_, t)]) (i + 1)) := by
          have h := HD.out.more HROW.out
          rw [HAT.out] at h
          exact h
        go_wp2_with (at_builtin; refine wpList_append_lies _ rfl (.tmp 44) (.tmp 46) 23 rfl w.heap.size 34 i0 (.agg #[.int .i64 0, .string ⟨#[]⟩]) 2 24 Tryd.underlying23 hi hz0 hz1 hz2 rfl (by decide) _ rs.length (rs.flatMap rowC) rfl (HO4.out.alloc _) ⟨x2.heap.size, 0, none⟩ 1 1 (rowC (at_, t)) rfl rfl (newsY (set_size _ _ _) _ _) (row_one _) (by omega) (by unfold maxLen; omega) (by omega) (Nat.le_trans hsz4 (by simp)) _ rfl ?_; intro gg cap2 z hown1 hgrow hat hlt2; have HKz : Hid (∀ k, k < (x2.setCell ⟨wr.heap.size, 1, none⟩ (.string t)).heap.size → some k ≠ (Value.slice bo rs.length kb).ownBlock → z.heap[k]? = (x2.setCell ⟨wr.heap.size, 1, none⟩ (.string t)).heap[k]?) := fun k hk hne => (hgrow.block k (Nat.lt_of_lt_of_le hk (by simp)) hne).trans (Go.heap_alloc_old (x2.setCell ⟨wr.heap.size, 1, none⟩ (.string t)) _ hk))
        have HBz : Hid (Below w.heap.size w z) := ⟨hgrow.os.trans (below_more HB4.out _).os, hgrow.tape.trans (below_more HB4.out _).tape, hgrow.output.trans (below_more HB4.out _).output, Nat.le_trans (below_more HB4.out _).size hgrow.size, fun q hq => (HKz.out q (by omega) (fun e => absurd (HO4.out.blk _ e.symm).1 (by omega))).trans (HB4.out.block q hq)⟩
        exact ⟨⟨i + 1, rs ++ [(at_, t)], by omega, by go_num, OwnX.more hown1, by simp; omega, HDM.out, HBz.out⟩, by simp [intOf]; omega⟩
    · obtain rfl : i = L.length := by omega
      go_wp2
      go_ret
      exact ⟨_, rs, rfl, HO.out, HD.out.done (Nat.le_refl _), HB.out⟩
end Go.Proofs.YtknielpkmablkaaDoor
