/- The draws of FnInsn: an Insn, and words; lwWords of the laws. -/
import Derived.Test.YtdokiccfjbieiaaDoorRows
import Derived.WalkKit
import Derived.WalkSpells
import Derived.WalkLawsBesides
import Derived.Outline
import Derived.RegionTactic
import Derived.BigRegion
import Derived.Deep.QuietTactic
import Derived.BigQuiet
import Derived.Deep.RegionHeld3
import Derived.Test.YtdokiccfjbieiaaDoorBun0
import Derived.Test.YtdokiccfjbieiaaDoorBun1
import Derived.Test.YtdokiccfjbieiaaDoorIsaD4X
import Derived.Test.YtdokiccfjbieiaaDoorIsaE4X
import Derived.Test.YtdokiccfjbieiaaDoorIsaN4X
import Derived.Test.YtdokiccfjbieiaaDoorIsaZ1X
import Derived.Test.YtdokiccfjbieiaaDoorDrawI2X
namespace Go.Proofs.YtdokiccfjbieiaaDoor
open Go.RowKit
set_option linter.unusedVariables false

theorem add_zero0 (g i : Nat) : (⟨g, 0, none⟩ : Addr).add i = ⟨g, i, none⟩ := by
  cases i with
  | zero => rfl
  | succ i => simp [Addr.add]
theorem own_read {w : World} {B : Nat} {v : Value} {L : List Int} (h : OwnI w B v L) : ∃ a c, v = .slice a L.length c ∧ ReadI w a L := by
  rcases h.form with ⟨rfl, rfl⟩ | ⟨g, cap, cur, rfl, hB, hg, h4, h5, h6, h7⟩
  · exact ⟨none, 0, rfl, fun h => by simp at h⟩
  · refine ⟨some ⟨g, 0, none⟩, cap, rfl, fun hl => ⟨_, rfl, heap_lt hg, fun i hi => ?_⟩⟩
    rw [add_zero0, cell_of_row w g i _ _ _ hg]
    exact h7 i hi
theorem OwnI.grown {w w' : World} {B g : Nat} {v : Value} {L : List Int} (h : OwnI w B v L) (hG : w.grownBy w' (some g)) (hg : g < B) : OwnI w' B v L := by
  obtain ⟨h1, h2⟩ := h
  refine ⟨h1, ?_⟩
  rcases h2 with h2 | ⟨q, cap, cur, hv, hB, hq, rest⟩
  · exact .inl h2
  · exact .inr ⟨q, cap, cur, hv, hB, heap_grown hq hG (by omega), rest⟩
theorem ReadI.grown {w w' : World} {a : Option Addr} {L : List Int} {g : Nat} (h : ReadI w a L) (hG : w.grownBy w' (some g)) (hg : ∀ x, a = some x → x.block ≠ g) : ReadI w' a L := fun hl => by
  obtain ⟨x, rfl, hx, hc⟩ := h hl
  exact ⟨x, rfl, Nat.lt_of_lt_of_le hx hG.size, fun i hi => hG.cell (hc i hi) (by rw [add_blockI]; simpa using hg x rfl)⟩
theorem OwnI.take {w : World} {B : Nat} {a : Option Addr} {n cap : Nat} {L : List Int} (h : OwnI w B (.slice a n cap) L) (k : Nat) (hk : k ≤ n) : OwnI w B (.slice a k cap) (L.take k) := by
  rcases h.form with ⟨e, rfl⟩ | ⟨g, c, cur, e, hB, hg, h4, h5, h6, h7⟩
  · cases e
    obtain rfl : k = 0 := by omega
    exact OwnI.nil _ _
  · cases e
    have hl : (L.take k).length = k := by simp; omega
    have := OwnI.mk (L := L.take k) hB hg (by omega) h5 h6 (fun i hi => by
      have hi' : i < L.length := by omega
      rw [h7 i hi']; simp)
    rwa [hl] at this
theorem cutI (a : Option Addr) (n cap k : Nat) (h : k ≤ cap) (hn : a = none → k = 0) (W : World) : (Instr.slice 39 (.slice a n cap) none (some (.int .i64 (k : Int))) none).run Tryd.prog W = .ok (.slice a k cap) W := by
  obtain ⟨i0, hi, hz0, hz1, hz2⟩ := info_parts infoI
  cases a with
  | none =>
    obtain rfl := hn rfl
    simp [Instr.slice, run_underlying Tryd.underlying39, Instr.sliceBounds, Instr.sliceBound, asIntOf, sizeOf, typeInfo, hi]
  | some x =>
    simp [Instr.slice, run_underlying Tryd.underlying39, Instr.sliceBounds, Instr.sliceBound, asIntOf, sizeOf, typeInfo, hi, h, Addr.add]
set_option maxRecDepth 100000 in
set_option maxHeartbeats 1600000 in
theorem lwWords_any (a1 a2 : Option Addr) (c1 c2 : Nat) (L1 L2 : List Int) (w : World) (h1 : ReadI w a1 L1) (h2 : ReadI w a2 L2) (hs : L1.length ≤ 2000000) (hs2 : L2.length ≤ 2000000) :
    Calls Tryd.prog 15 #[.slice a1 L1.length c1, .slice a2 L2.length c2] w fun e w' => e = .returned (.bool (decide (L1 = L2))) ∧ Below w.heap.size w w' := by
  have HF1 : Hid (ReadI w a1 L1) := h1
  have HF2 : Hid (ReadI w a2 L2) := h2
  clear h1 h2
  by_cases hl : L1.length = L2.length
  · have HL : Hid (_ = _) := hl
    have hlb : ((L1.length : Int) != (L2.length : Int)) = false := by simp [hl]
    clear hl
    go_enter Tryd.func15, Tryd.ntmps15
    go_wp2
    go_loopw [5] (fun i wr => ∃ k : Nat, k ≤ L1.length ∧ i = .int .i64 k ∧ Hid (Below w.heap.size w wr) ∧ Hid (L1 = L2 ↔ L1.drop k = L2.drop k)) (fun i _ => L1.length - (intOf i).toNat)
    case atStart => exact ⟨0, by omega, rfl, Below.refl _ _, Iff.rfl⟩
    case round =>
      obtain ⟨k, hk, rfl, HB, HE⟩ := hrel
      by_cases hlt : k < L1.length
      · have hlt2 : k < L2.length := by have := HL.out; omega
        obtain ⟨g1, rfl, _, hc1⟩ := (HF1.out.below HB.out) (by omega)
        obtain ⟨g2, rfl, _, hc2⟩ := (HF2.out.below HB.out) (by omega)
        have hw1 := hc1 k hlt
        have hw2 := hc2 k hlt2
        clear hc1 hc2
        have hi0 : (0 : Int) ≤ (k : Int) := by omega
        have hi1 : (k : Int) < (L1.length : Int) := by omega
        have hi2 : (k : Int) < (L2.length : Int) := by omega
        have HS : Hid (∀ he : L1[k] = L2[k], (L1.drop k = L2.drop k ↔ L1.drop (k + 1) = L2.drop (k + 1))) := fun he => eq_step HL.out k hlt he
        have HN : Hid (¬ L1[k] = L2[k] → ¬ L1 = L2) := fun he => eq_stop k hlt hlt2 he
        generalize hx : L1[k] = x at *
        generalize hy : L2[k] = y at *
        clear hx hy
        by_cases he : x = y
        · subst he
          have hne : (x != x) = false := by simp
          go_wp2
          go_quiet (fail)
          go_wp2
          go_roundw
          case rel => exact ⟨k + 1, by omega, by go_num, below_drewN HB.out _, HE.out.trans (HS.out trivial)⟩
          case measure => simp [intOf]; omega
        · have hne : (x != y) = true := by simpa using he
          go_wp2
          go_quiet (fail)
          go_wp2
          go_ret
          exact ⟨ret_bool (by simp [HN.out he]), below_drewN HB.out _⟩
      · have HD : Hid (L1 = L2) := HE.out.2 (by rw [List.drop_of_length_le (by omega), List.drop_of_length_le (by have := HL.out; omega)])
        go_wp2
        go_ret
        exact ⟨ret_bool (by simp [HD.out]), HB.out⟩
  · have HD : Hid (¬ L1 = L2) := fun e => hl (by rw [e])
    have hlb : ((L1.length : Int) != (L2.length : Int)) = true := by simpa using (fun e => hl (by omega) : ¬ (L1.length : Int) = L2.length)
    clear hl
    go_enter Tryd.func15, Tryd.ntmps15
    go_wp2
    go_ret
    exact ⟨ret_bool (by simp [HD.out]), Below.refl _ _⟩
set_option maxRecDepth 100000 in
set_option maxHeartbeats 1600000 in
theorem drawEncode_any (a : Option Addr) (len cap : Nat) (w : World) (h : Arg w a len cap) :
    Calls Tryd.prog 13 #[.slice a len cap] w fun e w' => ∃ i : Ins, e = .returned (.agg i.vals) ∧ Below w.heap.size w w' := by
  go_enter Tryd.func13, Tryd.ntmps13
  go_wp2_with fail
  refine (source_any a len cap _ (h.below (below_new _ _))).mono ?_
  rintro e x1 ⟨rfl, hD1, hB1⟩
  have hg : w.heap.size < (w.alloc (.cells #[.string ⟨#[]⟩, .bool false, .int .i64 0, .int .i64 0, .int .i64 0, .bool false, .int .i64 0, .int .i64 0, .int .i64 0, .bool false, .int .i64 0] 37)).heap.size := by simp
  have HR1 : Hid (_ = _) := heap_keep (heap_alloc_new w _) hB1
  have HB1 : Hid (Below w.heap.size w x1) := below_call (below_new _ _) hB1
  have HD1 : Hid (Dr x1 _ a len cap) := hD1
  clear hB1 hD1
  generalize (w.alloc (.cells #[.string ⟨#[]⟩, .bool false, .int .i64 0, .int .i64 0, .int .i64 0, .bool false, .int .i64 0, .int .i64 0, .int .i64 0, .bool false, .int .i64 0] 37)).heap.size = g at *
  go_wp2_with fail
  refine (drawInsn_any g a len cap _ HD1.out).mono ?_
  rintro e x2 ⟨op, b, m, r, n, l, m2, r2, n2, l2, j, rfl, hD2, hG2⟩
  have HR2 : Hid (_ = _) := heap_grown HR1.out hG2 (by omega)
  have HB2 : Hid (Below w.heap.size w x2) := HB1.out.trans (Dr.low hG2 (by omega) HD1.out.lt)
  clear hG2 hD2
  obtain ⟨r0, r1, r2', r3, r4, r5, r6, r7, r8, r9, r10⟩ := cells11 HR2.out
  have y0 := frozen_of_row _ _ 0 _ _ HR2.out
  have y1 := frozen_of_row _ _ 1 _ _ HR2.out
  have y2 := frozen_of_row _ _ 2 _ _ HR2.out
  have y3 := frozen_of_row _ _ 3 _ _ HR2.out
  have y4 := frozen_of_row _ _ 4 _ _ HR2.out
  have y5 := frozen_of_row _ _ 5 _ _ HR2.out
  have y6 := frozen_of_row _ _ 6 _ _ HR2.out
  have y7 := frozen_of_row _ _ 7 _ _ HR2.out
  have y8 := frozen_of_row _ _ 8 _ _ HR2.out
  have y9 := frozen_of_row _ _ 9 _ _ HR2.out
  have y10 := frozen_of_row _ _ 10 _ _ HR2.out
  go_wp2
  exact bodyPost_ret (results_cell_row Tryd.results13 _ _ w.heap.size 37 _ (0, 0) _ rfl (set_eleven HR2.out) Tryd.underlying37 rfl (by kernel_rfl)) rfl ⟨⟨op, b, m, r, n, l, m2, r2, n2, l2, j⟩, rfl, below_eleven (Nat.le_refl _) HB2.out⟩
theorem all_len (op : ByteArray) (b : Bool) (m r n : Int) (l : Bool) (m2 r2 n2 : Int) (l2 : Bool) (j : Int) : (allI op b m r n l m2 r2 n2 l2 j).length ≤ 3 := by
  unfold allI
  split
  · exact (enc_len ⟨op, b, m, r, n, l, m2, r2, n2, l2, j⟩).2
  · simp
set_option maxRecDepth 100000 in
set_option maxHeartbeats 8000000 in
theorem drawDecode_any (a : Option Addr) (len cap : Nat) (w : World) (h : Arg w a len cap) :
    Calls Tryd.prog 22 #[.slice a len cap] w fun e w' => ∃ (v : Value) (L : List Int), e = .returned v ∧ OwnI w' w.heap.size v L ∧ L.length ≤ 10 ∧ Below w.heap.size w w' := by
  obtain ⟨i0, hi, hz0, hz1', hz2'⟩ := info_parts infoI
  go_enter Tryd.func22, Tryd.ntmps22
  go_wp2_with fail
  refine (source_any a len cap _ h).mono ?_
  rintro e x1 ⟨rfl, hD, hB⟩
  have HB1 : Hid (Below w.heap.size w x1) := hB
  have HD1 : Hid (DrI x1 x1 w.heap.size a len cap) := DrI.start hD
  have hz1 := hD.lt
  clear hB hD
  go_wp2_with fail
  refine (drawInsn_any w.heap.size a len cap _ HD1.out.d).mono ?_
  rintro e x2 ⟨op, b, m, r, n, l, m2, r2, n2, l2, j, rfl, hD, hG⟩
  have HD2 : Hid (DrI x1 x2 w.heap.size a len cap) := HD1.out.call hD hG
  clear hD hG HD1
  go_wp2_with fail
  refine (specEncode_any op b m r n l m2 r2 n2 l2 j _).mono ?_
  rintro e x3 ⟨v, rfl, ho, hb⟩
  have HD3 : Hid (DrI x1 x3 w.heap.size a len cap) := HD2.out.below hb
  have HO3 : Hid (OwnI x3 x1.heap.size v (allI op b m r n l m2 r2 n2 l2 j)) := ho.low HD2.out.size
  have hL := all_len op b m r n l m2 r2 n2 l2 j
  clear hb ho HD2
  generalize allI op b m r n l m2 r2 n2 l2 j = L at *
  go_wp2_with fail
  refine (one_any w.heap.size a len cap 2 _ HD3.out.d (by omega) (by omega)).mono ?_
  rintro e x4 ⟨bb, rfl, hD, hG⟩
  have HD4 : Hid (DrI x1 x4 w.heap.size a len cap) := HD3.out.call hD hG
  have HO4 : Hid (OwnI x4 x1.heap.size v L) := HO3.out.grown hG (by omega)
  clear hD hG HD3 HO3
  cases bb
  · go_wp2_with fail
    refine (n_any w.heap.size a len cap 8 _ HD4.out.d (by omega) (by omega)).mono ?_
    rintro e x5 ⟨v8, rfl, hv0, hv1, hD, hG⟩
    have HD5 : Hid (DrI x1 x5 w.heap.size a len cap) := HD4.out.call hD hG
    have HO5 : Hid (OwnI x5 x1.heap.size v L) := HO4.out.grown hG (by omega)
    have hs5 := HD5.out.size
    clear hD hG
    by_cases c0 : v8 = 0
    · subst c0
      go_wp2_with fail
      refine (l02N_any w.heap.size a len cap _ HD5.out.d).mono ?_
      rintro e x6 ⟨u, rfl, hu0, hu1, hD, hG⟩
      have HD6 : Hid (DrI x1 x6 w.heap.size a len cap) := HD5.out.call hD hG
      have HO6 : Hid (OwnI x6 x1.heap.size v L) := HO5.out.grown hG (by omega)
      have hs6 := HD6.out.size
      clear hD hG
      have hlen : L.length < 1000000 := by omega
      go_wp2_with (at_builtin; refine wpList_append_own _ rfl (.tmp 27) (.tmp 30) 39 rfl x1.heap.size 2 i0 (.int .i64 0) 1 8 Tryd.underlying39 hi hz0 hz1' hz2' rfl (by decide) _ _ _ rfl (HO6.out.alloc _) ⟨x6.heap.size, 0, none⟩ 1 1 [.int .i64 u] rfl rfl (cell_one_new _ _ _) (one_cellI _) (len_small _ hlen) (by omega) (by simp; omega) ?_; intro v2 w2 hown2 hgrow2 _)
      go_ret
      exact ⟨_, _, rfl, (OwnI.more hown2).low (Nat.le_of_lt hz1), (by simp; omega), (HB1.out.trans (Dr.low (HD6.out.alloc _).gr (Nat.le_refl _) hz1)).grown hgrow2 (by simp; omega) (fun q hq => Nat.le_trans (Nat.le_of_lt hz1) (HO6.out.lt q hq).1)⟩
    have d0 : (v8 == 0) = false := by rw [beq_eq_false_iff_ne]; exact c0
    by_cases c1 : v8 = 1
    · subst c1
      obtain ⟨va, vc, rfl, hR⟩ := own_read HO5.out
      clear hR
      have hvn : va = none → L.length = 0 := fun e => by
        rcases HO5.out.form with ⟨_, e2⟩ | ⟨g2, c2, _, e2, _⟩
        · rw [e2]; rfl
        · subst e; cases e2
      have hcp : L.length ≤ vc := by
        rcases HO5.out.form with ⟨e1, e2⟩ | ⟨g2, c2, _, e2, _, _, h4, _⟩
        · subst e2; simp
        · cases e2; exact h4
      go_wp2_with fail
      refine (n_any w.heap.size a len cap ((L.length : Int) + 1) _ HD5.out.d (by omega) (by omega)).mono ?_
      rintro e x6 ⟨u, rfl, hu0, hu1, hD, hG⟩
      have HD6 : Hid (DrI x1 x6 w.heap.size a len cap) := HD5.out.call hD hG
      have HO6 : Hid (OwnI x6 x1.heap.size (.slice va L.length vc) L) := HO5.out.grown hG (by omega)
      clear hD hG
      obtain ⟨U, rfl⟩ := Int.eq_ofNat_of_zero_le hu0
      have hU : U ≤ L.length := by omega
      have hcut := cutI va L.length vc U (by omega) (fun e => by have := hvn e; omega)
      have HT : Hid (OwnI x6 x1.heap.size (.slice va U vc) (L.take U)) := HO6.out.take U hU
      clear hvn hcp
      go_wp2
      go_ret
      exact ⟨_, _, rfl, HT.out.low (Nat.le_of_lt hz1), (by simp; omega), HB1.out.trans (Dr.low HD6.out.gr (Nat.le_refl _) hz1)⟩
    have d1 : (v8 == 1) = false := by rw [beq_eq_false_iff_ne]; exact c1
    by_cases c2 : v8 = 2
    · subst c2
      go_wp2_with fail
      refine (n_any w.heap.size a len cap 2 _ (HD5.out.alloc _).d (by omega) (by omega)).mono ?_
      rintro e x6 ⟨u, rfl, hu0, hu1, hD, hG⟩
      have HD6 : Hid (DrI x1 x6 w.heap.size a len cap) := (HD5.out.alloc _).call hD hG
      have HO6 : Hid (OwnI x6 x1.heap.size v L) := (HO5.out.alloc _).grown hG (by omega)
      have hs6 := HD6.out.size
      obtain ⟨V, rfl⟩ := Int.eq_ofNat_of_zero_le hu0
      have hV : V < 2 := by omega
      obtain ⟨y, hy, hyc⟩ := tab_cell (t := 2) [-1, 65536] V hV x6 hG (by omega)
      have hi0 : (0 : Int) ≤ (V : Int) := by omega
      have hi1 : (V : Int) < 2 := by omega
      clear hD hG hy hu1
      have hlen : L.length < 1000000 := by omega
      go_wp2_with (at_builtin; refine wpList_append_own _ rfl (.tmp 43) (.tmp 49) 39 rfl x1.heap.size 2 i0 (.int .i64 0) 1 8 Tryd.underlying39 hi hz0 hz1' hz2' rfl (by decide) _ _ _ rfl (HO6.out.alloc _) ⟨x6.heap.size, 0, none⟩ 1 1 [.int .i64 y] rfl rfl (cell_one_new _ _ _) (one_cellI _) (len_small _ hlen) (by omega) (by simp; omega) ?_; intro v2 w2 hown2 hgrow2 _)
      go_ret
      exact ⟨_, _, rfl, (OwnI.more hown2).low (Nat.le_of_lt hz1), (by simp; omega), (HB1.out.trans (Dr.low (HD6.out.alloc _).gr (Nat.le_refl _) hz1)).grown hgrow2 (by simp; omega) (fun q hq => Nat.le_trans (Nat.le_of_lt hz1) (HO6.out.lt q hq).1)⟩
    have d2 : (v8 == 2) = false := by rw [beq_eq_false_iff_ne]; exact c2
    go_wp2
    go_ret
    exact ⟨_, _, rfl, HO5.out.low (Nat.le_of_lt hz1), (by omega), HB1.out.trans (Dr.low HD5.out.gr (Nat.le_refl _) hz1)⟩
  · go_wp2_with fail
    refine (n_any w.heap.size a len cap 65536 _ HD4.out.d (by omega) (by omega)).mono ?_
    rintro e x7 ⟨u1, rfl, _, _, hD, hG⟩
    have HD7 : Hid (DrI x1 x7 w.heap.size a len cap) := HD4.out.call hD hG
    clear hD hG HD4 HO4
    go_wp2_with fail
    refine (l02N_any w.heap.size a len cap _ HD7.out.d).mono ?_
    rintro e x8 ⟨u2, rfl, _, _, hD, hG⟩
    have HD8 : Hid (DrI x1 x8 w.heap.size a len cap) := HD7.out.call hD hG
    clear hD hG HD7
    go_wp2_with fail
    refine (l02N_any w.heap.size a len cap _ HD8.out.d).mono ?_
    rintro e x9 ⟨u3, rfl, _, _, hD, hG⟩
    have HD9 : Hid (DrI x1 x9 w.heap.size a len cap) := HD8.out.call hD hG
    have hs9 := HD9.out.size
    clear hD hG HD8
    go_wp2_with fail
    refine (n_any w.heap.size a len cap 3 _ (HD9.out.alloc _).d (by omega) (by omega)).mono ?_
    rintro e y4 ⟨u, rfl, hu0, hu1, hD, hG⟩
    have HDy : Hid (DrI x1 y4 w.heap.size a len cap) := (HD9.out.alloc _).call hD hG
    have HIy : Hid (_ = _) := heap_grown (heap_alloc_new x9 _) hG (by omega)
    obtain ⟨U, rfl⟩ := Int.eq_ofNat_of_zero_le hu0
    have hU : 1 + U ≤ 3 := by omega
    have HOy : Hid (OwnI y4 x1.heap.size (.slice (some ⟨x9.heap.size, 0, none⟩) (1 + U) 3) ([u1, u2, u3].take (1 + U))) := OwnI.take (n := 3) (OwnI.mk (L := [u1, u2, u3]) hs9 HIy.out (by simp) (by simp [maxLen]) rfl (fun i hi => by match i, hi with | 0, _ => rfl | 1, _ => rfl | 2, _ => rfl)) (1 + U) hU
    have hcut := cutI (some ⟨x9.heap.size, 0, none⟩) 3 3 (1 + U) hU (fun e => by cases e)
    rw [show ((1 + U : Nat) : Int) = 1 + (U : Int) by omega] at hcut
    have hL2 : ([u1, u2, u3].take (1 + U)).length ≤ 3 := by simp; omega
    clear hD hG hu1 HIy hL
    generalize ([u1, u2, u3].take (1 + U)) = L at *
    generalize hvv : Value.slice (some ⟨x9.heap.size, 0, none⟩) (1 + U) 3 = v at *
    clear hvv
    go_wp2_with fail
    refine (n_any w.heap.size a len cap 8 _ HDy.out.d (by omega) (by omega)).mono ?_
    rintro e x5 ⟨v8, rfl, hv0, hv1, hD, hG⟩
    have HD5 : Hid (DrI x1 x5 w.heap.size a len cap) := HDy.out.call hD hG
    have HO5 : Hid (OwnI x5 x1.heap.size v L) := HOy.out.grown hG (by omega)
    have hs5 := HD5.out.size
    clear hD hG
    by_cases c0 : v8 = 0
    · subst c0
      go_wp2_with fail
      refine (l02N_any w.heap.size a len cap _ HD5.out.d).mono ?_
      rintro e x6 ⟨u, rfl, hu0, hu1, hD, hG⟩
      have HD6 : Hid (DrI x1 x6 w.heap.size a len cap) := HD5.out.call hD hG
      have HO6 : Hid (OwnI x6 x1.heap.size v L) := HO5.out.grown hG (by omega)
      have hs6 := HD6.out.size
      clear hD hG
      have hlen : L.length < 1000000 := by omega
      go_wp2_with (at_builtin; refine wpList_append_own _ rfl (.tmp 27) (.tmp 30) 39 rfl x1.heap.size 2 i0 (.int .i64 0) 1 8 Tryd.underlying39 hi hz0 hz1' hz2' rfl (by decide) _ _ _ rfl (HO6.out.alloc _) ⟨x6.heap.size, 0, none⟩ 1 1 [.int .i64 u] rfl rfl (cell_one_new _ _ _) (one_cellI _) (len_small _ hlen) (by omega) (by simp; omega) ?_; intro v2 w2 hown2 hgrow2 _)
      go_ret
      exact ⟨_, _, rfl, (OwnI.more hown2).low (Nat.le_of_lt hz1), (by simp; omega), (HB1.out.trans (Dr.low (HD6.out.alloc _).gr (Nat.le_refl _) hz1)).grown hgrow2 (by simp; omega) (fun q hq => Nat.le_trans (Nat.le_of_lt hz1) (HO6.out.lt q hq).1)⟩
    have d0 : (v8 == 0) = false := by rw [beq_eq_false_iff_ne]; exact c0
    by_cases c1 : v8 = 1
    · subst c1
      obtain ⟨va, vc, rfl, hR⟩ := own_read HO5.out
      clear hR
      have hvn : va = none → L.length = 0 := fun e => by
        rcases HO5.out.form with ⟨_, e2⟩ | ⟨g2, c2, _, e2, _⟩
        · rw [e2]; rfl
        · subst e; cases e2
      have hcp : L.length ≤ vc := by
        rcases HO5.out.form with ⟨e1, e2⟩ | ⟨g2, c2, _, e2, _, _, h4, _⟩
        · subst e2; simp
        · cases e2; exact h4
      go_wp2_with fail
      refine (n_any w.heap.size a len cap ((L.length : Int) + 1) _ HD5.out.d (by omega) (by omega)).mono ?_
      rintro e x6 ⟨u, rfl, hu0, hu1, hD, hG⟩
      have HD6 : Hid (DrI x1 x6 w.heap.size a len cap) := HD5.out.call hD hG
      have HO6 : Hid (OwnI x6 x1.heap.size (.slice va L.length vc) L) := HO5.out.grown hG (by omega)
      clear hD hG
      obtain ⟨U, rfl⟩ := Int.eq_ofNat_of_zero_le hu0
      have hU : U ≤ L.length := by omega
      have hcut := cutI va L.length vc U (by omega) (fun e => by have := hvn e; omega)
      have HT : Hid (OwnI x6 x1.heap.size (.slice va U vc) (L.take U)) := HO6.out.take U hU
      clear hvn hcp
      go_wp2
      go_ret
      exact ⟨_, _, rfl, HT.out.low (Nat.le_of_lt hz1), (by simp; omega), HB1.out.trans (Dr.low HD6.out.gr (Nat.le_refl _) hz1)⟩
    have d1 : (v8 == 1) = false := by rw [beq_eq_false_iff_ne]; exact c1
    by_cases c2 : v8 = 2
    · subst c2
      go_wp2_with fail
      refine (n_any w.heap.size a len cap 2 _ (HD5.out.alloc _).d (by omega) (by omega)).mono ?_
      rintro e x6 ⟨u, rfl, hu0, hu1, hD, hG⟩
      have HD6 : Hid (DrI x1 x6 w.heap.size a len cap) := (HD5.out.alloc _).call hD hG
      have HO6 : Hid (OwnI x6 x1.heap.size v L) := (HO5.out.alloc _).grown hG (by omega)
      have hs6 := HD6.out.size
      obtain ⟨V, rfl⟩ := Int.eq_ofNat_of_zero_le hu0
      have hV : V < 2 := by omega
      obtain ⟨y, hy, hyc⟩ := tab_cell (t := 2) [-1, 65536] V hV x6 hG (by omega)
      have hi0 : (0 : Int) ≤ (V : Int) := by omega
      have hi1 : (V : Int) < 2 := by omega
      clear hD hG hy hu1
      have hlen : L.length < 1000000 := by omega
      go_wp2_with (at_builtin; refine wpList_append_own _ rfl (.tmp 43) (.tmp 49) 39 rfl x1.heap.size 2 i0 (.int .i64 0) 1 8 Tryd.underlying39 hi hz0 hz1' hz2' rfl (by decide) _ _ _ rfl (HO6.out.alloc _) ⟨x6.heap.size, 0, none⟩ 1 1 [.int .i64 y] rfl rfl (cell_one_new _ _ _) (one_cellI _) (len_small _ hlen) (by omega) (by simp; omega) ?_; intro v2 w2 hown2 hgrow2 _)
      go_ret
      exact ⟨_, _, rfl, (OwnI.more hown2).low (Nat.le_of_lt hz1), (by simp; omega), (HB1.out.trans (Dr.low (HD6.out.alloc _).gr (Nat.le_refl _) hz1)).grown hgrow2 (by simp; omega) (fun q hq => Nat.le_trans (Nat.le_of_lt hz1) (HO6.out.lt q hq).1)⟩
    have d2 : (v8 == 2) = false := by rw [beq_eq_false_iff_ne]; exact c2
    go_wp2
    go_ret
    exact ⟨_, _, rfl, HO5.out.low (Nat.le_of_lt hz1), (by omega), HB1.out.trans (Dr.low HD5.out.gr (Nat.le_refl _) hz1)⟩
end Go.Proofs.YtdokiccfjbieiaaDoor
