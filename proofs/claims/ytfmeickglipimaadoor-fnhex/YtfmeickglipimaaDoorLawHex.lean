/- The walk of FnHex. -/
import Derived.Test.YtfmeickglipimaaDoorRows
import Derived.WalkKit
import Derived.WalkSpells
import Derived.WalkLawsBesides
import Derived.Outline
import Derived.Deep.RegionWith
import Derived.Deep.RegionHeld3
import Derived.Test.YtfmeickglipimaaDoorBase
import Derived.Test.YtfmeickglipimaaDoorRes2
import Derived.Test.YtfmeickglipimaaDoorOwn
import Derived.Test.YtfmeickglipimaaDoorHexS
import Derived.Test.YtfmeickglipimaaDoorHexT
import Derived.Test.YtfmeickglipimaaDoorHexRP
import Derived.Test.YtfmeickglipimaaDoorEqHex
import Derived.Test.YtfmeickglipimaaDoorLawHexR
import Derived.Test.YtfmeickglipimaaDoorHexD
import Derived.Test.YtfmeickglipimaaDoorDrawHex
import Derived.Test.YtfmeickglipimaaDoorDrawHexR
import Derived.Test.YtfmeickglipimaaDoorLwAt
import Derived.Test.YtfmeickglipimaaDoorLwW
import Derived.Test.YtfmeickglipimaaDoorLwD
import Derived.Test.YtfmeickglipimaaDoorTurnB
import Derived.Test.YtfmeickglipimaaDoorArgRow
namespace Go.Proofs.YtfmeickglipimaaDoor
open Go.RowKit
set_option linter.unusedVariables false

theorem field_hex (a b c : Value) (W : World) : (Instr.field 28 (.agg #[a, b, c]) 2).run Tryd.prog W = .ok c W := by kernel_rfl
set_option maxRecDepth 100000 in
set_option maxHeartbeats 16000000 in
theorem lawHex_walk (a0 a1 : Option Addr) (len0 cap0 len1 cap1 : Nat) (w : World) (m0 : len0 ≤ maxLen) (m1 : len1 ≤ maxLen) (h0 : len0 ≤ 1048576 → Arg w a0 len0 cap0) (h1 : len1 ≤ 1048576 → Arg w a1 len1 cap1) (hE : ErrV w) :
    Calls Tryd.prog 3 #[.slice a0 len0 cap0, .slice a1 len1 cap1] w fun e w' => e = .returned (.bool true) ∧ Below w.heap.size w w' := by
  unfold maxLen at m0 m1
  by_cases hb0 : 1048576 < len0
  · go_enter Tryd.func3, Tryd.ntmps3
    go_wp2
    go_ret
    exact ⟨rfl, Below.refl _ _⟩
  by_cases hb1 : 1048576 < len1
  · go_enter Tryd.func3, Tryd.ntmps3
    go_wp2
    go_ret
    exact ⟨rfl, Below.refl _ _⟩
  have HA0 : Hid (Arg w a0 len0 cap0) := h0 (by omega)
  have HA1 : Hid (Arg w a1 len1 cap1) := h1 (by omega)
  have HE : Hid (ErrV w) := hE
  clear h0 h1 hE
  go_enter Tryd.func3, Tryd.ntmps3
  go_wp2_with fail
  refine (drawHexText_any a0 len0 cap0 _ HA0.out).mono ?_
  rintro e x1 ⟨⟨b, L, v, rfl, ho, hL, hbl, hbh⟩, hb⟩
  obtain ⟨e1, k1, rfl, hr1, hk1, hk1m⟩ := own_readI ho
  have HR1 : Hid (ReadI x1 e1 L) := hr1
  have HB1 : Hid (Below w.heap.size w x1) := hb
  clear ho hr1 hb
  go_wp2_with fail
  refine (implHex_any b e1 L k1 _ HR1.out (by omega) hk1 hk1m).mono ?_
  rintro e x2 ⟨rfl, hb⟩
  have HR2 : Hid (ReadI x2 e1 L) := HR1.out.below hb
  have HB2 : Hid (Below w.heap.size w x2) := below_call HB1.out hb
  clear hb HR1 HB1
  go_wp2_with fail
  refine (specHex_any b e1 L k1 _ HR2.out (by omega)).mono ?_
  rintro e x3 ⟨rfl, hb⟩
  have HR3 : Hid (ReadI x3 e1 L) := HR2.out.below hb
  have HB3 : Hid (Below w.heap.size w x3) := below_call HB2.out hb
  clear hb HR2 HB2
  have heq : ((hexT b L).toList == (hexT b L).toList) = true := by simp
  cases hB : hexB b L
  · rw [hexT_no hB]
    clear heq hB
    have HBX : Hid (Below w.heap.size w x3) := HB3.out
    go_wp2_with fail
    refine (drawHexRead_any a1 len1 cap1 _ (HA1.out.below HBX.out)).mono ?_
    rintro e y1 ⟨⟨u, rfl, hu⟩, hb⟩
    have HY1 : Hid (Below w.heap.size w y1) := below_call HBX.out hb
    clear hb
    have hum : u.size ≤ maxLen := by unfold maxLen; omega
    go_wp2_with fail
    refine (implHexRead_any u _ hum (HE.out.below HY1.out)).mono ?_
    rintro e y2 ⟨⟨v2, rfl, ho⟩, hb⟩
    obtain ⟨e2, k2, rfl, hr2, hk2, hk2m⟩ := own_readI ho
    have HR2 : Hid (ReadI y2 e2 (rdL u)) := hr2
    have HY2 : Hid (Below w.heap.size w y2) := below_call HY1.out hb
    clear ho hr2 hb
    go_wp2_with fail
    refine (specHexRead_same u _ hum).mono ?_
    rintro e y3 ⟨⟨v3, rfl, ho⟩, hb⟩
    obtain ⟨e3, k3, rfl, hr3, hk3, hk3m⟩ := own_readI ho
    have HR3 : Hid (ReadI y3 e3 (rdL u)) := hr3
    have HR2' : Hid (ReadI y3 e2 (rdL u)) := (HR2.out.alloc _).below hb
    have HY3 : Hid (Below w.heap.size w y3) := below_call (below_more HY2.out _) hb
    have HC2 : Hid (y3.heap[y2.heap.size]? = _) := heap_keep (heap_alloc_new y2 _) hb
    have hl23 := heap_lt HC2.out
    have hul := rdL_len u
    have HBK : Hid (rdC u = 0 → hexT (rdB u) (rdL u) = u) := rd_back u
    clear ho hr3 hb HR2
    generalize rdL u = U at *
    generalize rdC u = uc at *
    generalize rdB u = ub at *
    obtain ⟨c0, c1, c2⟩ := cells3x HC2.out
    have h1 : (uc == uc) = true := by simp
    have h2 : (ub == ub) = true := by simp
    go_wp2_with fail
    refine (lwWords_any e2 e3 k2 k3 U U _ (HR2'.out.alloc _) (HR3.out.alloc _) (by omega) (by omega)).mono ?_
    rintro e y4 ⟨rfl, hb⟩
    have hUU : decide (U = U) = true := by simp
    rw [hUU]
    have HC4 : Hid (y4.heap[y2.heap.size]? = _) := heap_keep (heap_more HC2.out _) hb
    have HR4 : Hid (ReadI y4 e2 U) := (HR2'.out.alloc _).below hb
    have HY4 : Hid (Below w.heap.size w y4) := below_call (below_more HY3.out _) hb
    clear hb c0 c1 c2
    obtain ⟨c0, c1, c2⟩ := cells3x HC4.out
    by_cases huc : uc = 0
    · subst huc
      have HBB : Hid (hexT ub U = u) := HBK.out rfl
      go_wp2_with fail
      refine (implHex_any ub e2 U k2 _ HR4.out (by omega) hk2 hk2m).mono ?_
      rintro e y5 ⟨rfl, hb⟩
      rw [HBB.out]
      have HY5 : Hid (Below w.heap.size w y5) := below_call HY4.out hb
      clear hb
      have htu : (u.toList == u.toList) = true := by simp
      go_wp2
      go_ret
      exact ⟨rfl, HY5.out⟩
    · have huc' : (uc != 0) = true := by simpa using huc
      go_wp2
      go_ret
      exact ⟨rfl, HY4.out⟩
  · have hne : (hexT b L).toList.isEmpty = false := by
      rw [ByteArray.toList_eq, hexT_yes hB]; simp [hexL, endL]
    obtain ⟨hc0, hcL, hcB⟩ := rd_text hB
    have hsz := hexT_size b L
    have hsm : (hexT b L).size ≤ maxLen := by unfold maxLen; omega
    have HDI : Hid (∀ (p : Nat) (hp : p < (hexT b L).data.toList.length), (hexT b L).data.toList[p] ≠ 10 → (hexT b L).data.toList[p] ≠ 58 → sdig (hexT b L).data.toList[p] ≤ 15) := fun p hp h1 h2 => digit_in hB p hp h1 h2
    have HTN : Hid (∀ (p : Nat) (hp : p < (hexT b L).data.toList.length) (c : UInt8), c ≠ 10 → (hexT b L).data.toList[p] ≠ 10 → (hexT b L).data.toList[p] ≠ 58 → sdig c ≤ 15 → sdig c ≠ sdig (hexT b L).data.toList[p] → rdOk (textL ((hexT b L).data.toList.set p c)) = false) := fun p hp c h1 h2 h3 h4 h5 => turned_no hB p hp c h1 h2 h3 h4 h5
    obtain ⟨xb, hxb⟩ : ∃ xb : Int, xb = if L = [] then 0 else b := ⟨_, rfl⟩
    have HXB : Hid (0 < L.length → xb = b) := fun h => by rw [hxb, if_neg (by intro e; rw [e] at h; simp at h)]
    have HIR : Hid (∀ W, ErrV W → Calls Tryd.prog 8 #[.string (hexT b L)] W fun e w' => (∃ v, e = .returned (.agg #[.int .i64 xb, v, .int .i64 0]) ∧ OwnI w' W.heap.size v L) ∧ Below W.heap.size W w') := fun W hE => by
      have h := implHexRead_any (hexT b L) W hsm hE
      rw [hc0, hcL, hcB, ← hxb] at h
      exact h
    clear hc0 hcL hcB hB hxb
    generalize hexT b L = t at *
    go_wp2_with fail
    refine (HIR.out _ (HE.out.below HB3.out)).mono ?_
    rintro e x4 ⟨⟨v4, rfl, ho⟩, hb⟩
    obtain ⟨e4, k4, rfl, hr4, hk4, hk4m⟩ := own_readI ho
    have HR4 : Hid (ReadI x4 e4 L) := hr4
    have HR3' : Hid (ReadI x4 e1 L) := HR3.out.below hb
    have HB4 : Hid (Below w.heap.size w x4) := below_call HB3.out hb
    clear ho hr4 hb HR3
    go_wp2_with fail
    refine (lwWords_any e4 e1 k4 k1 L L _ (HR4.out.alloc _) (HR3'.out.alloc _) (by omega) (by omega)).mono ?_
    rintro e x5 ⟨rfl, hb⟩
    have hLL : decide (L = L) = true := by simp
    rw [hLL]
    have HC5 : Hid (x5.heap[x4.heap.size]? = _) := heap_keep (heap_alloc_new x4 _) hb
    have HB5 : Hid (Below w.heap.size w x5) := below_call (below_more HB4.out _) hb
    clear hb hLL
    obtain ⟨c0, c1, c2⟩ := cells3x HC5.out
    have hbb : (b != b) = false := by simp
    have hl0 : ¬ (0 : Int) < 0 := by omega
    obtain ⟨capb, W, R, fr, hcb, hRb, hfr, hRl, hTb, hBW, hlW⟩ := bytes_ofB t x5
    have HRb : Hid (W.heap[x5.heap.size]? = _) := hRb
    have HTb : Hid (_ = _) := hTb
    have HBW : Hid (Below w.heap.size w W) := below_call HB5.out hBW
    have HTL : Hid (t.data.toList.length = t.size) := (Lib.size_eq t).symm
    have hx5 := HB5.out.size
    have htp : 0 < t.size := by
      rcases Nat.eq_zero_or_pos t.size with h | h
      · exfalso
        have e : t = ⟨#[]⟩ := ByteArray.ext (Array.toList_inj.1 (List.eq_nil_of_length_eq_zero (by rw [HTL.out]; exact h)))
        rw [e] at hne
        simp at hne
      · exact h
    clear hRb hTb hBW
    by_cases hLp : 0 < L.length
    all_goals
      first
      | (have hxe := HXB.out hLp
         subst hxe)
      | (have hxe : ¬ (0 : Int) < (L.length : Int) := by omega)
      go_wp2_with fail
      refine (lwAt_any a1 len1 cap1 0 256 _ (HA1.out.below HBW.out) (by omega) (by omega) (by omega)).mono ?_
      rintro e W1 ⟨v0, rfl, g0, g1, g2, hw⟩
      subst hw
      go_wp2_with fail
      refine (lwAt_any a1 len1 cap1 1 16 _ (HA1.out.below HBW.out) (by omega) (by omega) (by omega)).mono ?_
      rintro e W1 ⟨v1, rfl, q0, q1, q2, hw⟩
      subst hw
      obtain ⟨J, hJ⟩ : ∃ J : Nat, (v0 + 256 * v1) % (t.size : Int) = (J : Int) := ⟨((v0 + 256 * v1) % (t.size : Int)).toNat, by have := Int.emod_nonneg (v0 + 256 * v1) (show (t.size : Int) ≠ 0 by omega); omega⟩
      have hJs : J < t.size := by have := Int.emod_lt_of_pos (v0 + 256 * v1) (show (0 : Int) < (t.size : Int) by omega); omega
      have hJi : (J : Int) < (t.size : Int) := by omega
      obtain ⟨hce, hfz⟩ := mark_cellB HRb.out hfr rfl HTb.out hJs
      have HJL : Hid (J < t.data.toList.length) := by show _ < _; rw [HTL.out]; exact hJs
      have hgc : ∀ h, t.data.toList[J]'h = t[J] := fun _ => rfl
      have g3 : v0 < 256 := g2
      have q3 : v1 < 16 := by omega
      clear g1 q1 g2 q2
      have HBX0 : Hid (Below w.heap.size w W1) := HBW.out
      by_cases h10 : t[J] = 10
      · have hb10 : (((t[J]'hJs).toNat : Int) != 10) = false := by
          have e10 : (t[J]'hJs) = 10 := h10
          rw [e10]; rfl
        have HBX : Hid (Below w.heap.size w W1) := HBX0.out
        clear hgc h10
        go_wp2_with fail
        refine (drawHexRead_any a1 len1 cap1 _ (HA1.out.below HBX.out)).mono ?_
        rintro e y1 ⟨⟨u, rfl, hu⟩, hb⟩
        have HY1 : Hid (Below w.heap.size w y1) := below_call HBX.out hb
        clear hb
        have hum : u.size ≤ maxLen := by unfold maxLen; omega
        go_wp2_with fail
        refine (implHexRead_any u _ hum (HE.out.below HY1.out)).mono ?_
        rintro e y2 ⟨⟨v2, rfl, ho⟩, hb⟩
        obtain ⟨e2, k2, rfl, hr2, hk2, hk2m⟩ := own_readI ho
        have HR2 : Hid (ReadI y2 e2 (rdL u)) := hr2
        have HY2 : Hid (Below w.heap.size w y2) := below_call HY1.out hb
        clear ho hr2 hb
        go_wp2_with fail
        refine (specHexRead_same u _ hum).mono ?_
        rintro e y3 ⟨⟨v3, rfl, ho⟩, hb⟩
        obtain ⟨e3, k3, rfl, hr3, hk3, hk3m⟩ := own_readI ho
        have HR3 : Hid (ReadI y3 e3 (rdL u)) := hr3
        have HR2' : Hid (ReadI y3 e2 (rdL u)) := (HR2.out.alloc _).below hb
        have HY3 : Hid (Below w.heap.size w y3) := below_call (below_more HY2.out _) hb
        have HC2 : Hid (y3.heap[y2.heap.size]? = _) := heap_keep (heap_alloc_new y2 _) hb
        have hl23 := heap_lt HC2.out
        have hul := rdL_len u
        have HBK : Hid (rdC u = 0 → hexT (rdB u) (rdL u) = u) := rd_back u
        clear ho hr3 hb HR2
        generalize rdL u = U at *
        generalize rdC u = uc at *
        generalize rdB u = ub at *
        obtain ⟨c0, c1, c2⟩ := cells3x HC2.out
        have h1 : (uc == uc) = true := by simp
        have h2 : (ub == ub) = true := by simp
        go_wp2_with fail
        refine (lwWords_any e2 e3 k2 k3 U U _ (HR2'.out.alloc _) (HR3.out.alloc _) (by omega) (by omega)).mono ?_
        rintro e y4 ⟨rfl, hb⟩
        have hUU : decide (U = U) = true := by simp
        rw [hUU]
        have HC4 : Hid (y4.heap[y2.heap.size]? = _) := heap_keep (heap_more HC2.out _) hb
        have HR4 : Hid (ReadI y4 e2 U) := (HR2'.out.alloc _).below hb
        have HY4 : Hid (Below w.heap.size w y4) := below_call (below_more HY3.out _) hb
        clear hb c0 c1 c2
        obtain ⟨c0, c1, c2⟩ := cells3x HC4.out
        by_cases huc : uc = 0
        · subst huc
          have HBB : Hid (hexT ub U = u) := HBK.out rfl
          go_wp2_with fail
          refine (implHex_any ub e2 U k2 _ HR4.out (by omega) hk2 hk2m).mono ?_
          rintro e y5 ⟨rfl, hb⟩
          rw [HBB.out]
          have HY5 : Hid (Below w.heap.size w y5) := below_call HY4.out hb
          clear hb
          have htu : (u.toList == u.toList) = true := by simp
          go_wp2
          go_ret
          exact ⟨rfl, HY5.out⟩
        · have huc' : (uc != 0) = true := by simpa using huc
          go_wp2
          go_ret
          exact ⟨rfl, HY4.out⟩
      · have hb10 : (((t[J]'hJs).toNat : Int) != 10) = true := by
          rw [bne_iff_ne]
          intro h
          exact h10 (UInt8.toNat_inj.1 (show (t[J]'hJs).toNat = 10 by omega))
        by_cases h58 : t[J] = 58
        · have hb58 : (((t[J]'hJs).toNat : Int) != 58) = false := by
            have e58 : (t[J]'hJs) = 58 := h58
            rw [e58]; rfl
          have HBX : Hid (Below w.heap.size w W1) := HBX0.out
          clear hgc h58 h10
          go_wp2_with fail
          refine (drawHexRead_any a1 len1 cap1 _ (HA1.out.below HBX.out)).mono ?_
          rintro e y1 ⟨⟨u, rfl, hu⟩, hb⟩
          have HY1 : Hid (Below w.heap.size w y1) := below_call HBX.out hb
          clear hb
          have hum : u.size ≤ maxLen := by unfold maxLen; omega
          go_wp2_with fail
          refine (implHexRead_any u _ hum (HE.out.below HY1.out)).mono ?_
          rintro e y2 ⟨⟨v2, rfl, ho⟩, hb⟩
          obtain ⟨e2, k2, rfl, hr2, hk2, hk2m⟩ := own_readI ho
          have HR2 : Hid (ReadI y2 e2 (rdL u)) := hr2
          have HY2 : Hid (Below w.heap.size w y2) := below_call HY1.out hb
          clear ho hr2 hb
          go_wp2_with fail
          refine (specHexRead_same u _ hum).mono ?_
          rintro e y3 ⟨⟨v3, rfl, ho⟩, hb⟩
          obtain ⟨e3, k3, rfl, hr3, hk3, hk3m⟩ := own_readI ho
          have HR3 : Hid (ReadI y3 e3 (rdL u)) := hr3
          have HR2' : Hid (ReadI y3 e2 (rdL u)) := (HR2.out.alloc _).below hb
          have HY3 : Hid (Below w.heap.size w y3) := below_call (below_more HY2.out _) hb
          have HC2 : Hid (y3.heap[y2.heap.size]? = _) := heap_keep (heap_alloc_new y2 _) hb
          have hl23 := heap_lt HC2.out
          have hul := rdL_len u
          have HBK : Hid (rdC u = 0 → hexT (rdB u) (rdL u) = u) := rd_back u
          clear ho hr3 hb HR2
          generalize rdL u = U at *
          generalize rdC u = uc at *
          generalize rdB u = ub at *
          obtain ⟨c0, c1, c2⟩ := cells3x HC2.out
          have h1 : (uc == uc) = true := by simp
          have h2 : (ub == ub) = true := by simp
          go_wp2_with fail
          refine (lwWords_any e2 e3 k2 k3 U U _ (HR2'.out.alloc _) (HR3.out.alloc _) (by omega) (by omega)).mono ?_
          rintro e y4 ⟨rfl, hb⟩
          have hUU : decide (U = U) = true := by simp
          rw [hUU]
          have HC4 : Hid (y4.heap[y2.heap.size]? = _) := heap_keep (heap_more HC2.out _) hb
          have HR4 : Hid (ReadI y4 e2 U) := (HR2'.out.alloc _).below hb
          have HY4 : Hid (Below w.heap.size w y4) := below_call (below_more HY3.out _) hb
          clear hb c0 c1 c2
          obtain ⟨c0, c1, c2⟩ := cells3x HC4.out
          by_cases huc : uc = 0
          · subst huc
            have HBB : Hid (hexT ub U = u) := HBK.out rfl
            go_wp2_with fail
            refine (implHex_any ub e2 U k2 _ HR4.out (by omega) hk2 hk2m).mono ?_
            rintro e y5 ⟨rfl, hb⟩
            rw [HBB.out]
            have HY5 : Hid (Below w.heap.size w y5) := below_call HY4.out hb
            clear hb
            have htu : (u.toList == u.toList) = true := by simp
            go_wp2
            go_ret
            exact ⟨rfl, HY5.out⟩
          · have huc' : (uc != 0) = true := by simpa using huc
            go_wp2
            go_ret
            exact ⟨rfl, HY4.out⟩
        · have hb58 : (((t[J]'hJs).toNat : Int) != 58) = true := by
            rw [bne_iff_ne]
            intro h
            exact h58 (UInt8.toNat_inj.1 (show (t[J]'hJs).toNat = 58 by omega))
          have hdg := HDI.out J HJL.out (by rw [hgc]; exact h10) (by rw [hgc]; exact h58)
          rw [hgc] at hdg
          have HTJ : Hid (∀ (c : UInt8), c ≠ 10 → sdig c ≤ 15 → sdig c ≠ sdig t[J] → rdOk (textL (t.data.toList.set J c)) = false) := fun c h1 h2 h3 => HTN.out J HJL.out c h1 (by rw [hgc]; exact h10) (by rw [hgc]; exact h58) h2 (by rw [hgc]; exact h3)
          have HDG : Hid (sdig t[J] ≤ 15) := hdg
          have hd0 := (sdig_bd t[J]).1
          have HA1w : Hid (Arg W1.drew a1 len1 cap1) := (HA1.out.below HBX0.out).drew
          have HNX : Hid (∀ D : Int, 0 ≤ D → D < 15 → ∃ (nn : Int) (c : UInt8), (D + 1 + sdig t[J]).tmod 16 = nn ∧ 0 ≤ nn ∧ nn < 16 ∧ (∀ h, (⟨#[48, 49, 50, 51, 52, 53, 54, 55, 56, 57, 65, 66, 67, 68, 69, 70]⟩ : ByteArray)[nn.toNat]'h = c) ∧ Hid (rdOk (textL (t.data.toList.set J c)) = false)) := fun D hD0 hD1 => by
            have hs := HDG.out
            refine ⟨(D + 1 + sdig t[J]) % 16, hexd ((D + 1 + sdig t[J]) % 16).toNat, Int.tmod_eq_emod_of_nonneg (by omega), by omega, by omega, fun h => digit_at _ (by omega) h, ?_⟩
            have e1 := hexd_sdig ((D + 1 + sdig t[J]) % 16).toNat (by omega)
            have e2 := hexd_ne ((D + 1 + sdig t[J]) % 16).toNat (by omega)
            exact HTJ.out _ e2 (by rw [e1]; omega) (by rw [e1]; omega)
          clear hgc h58 h10 HTJ
          go_wp2_with fail
          have hdl := HDG.out
          go_region_with (first
            | (go_at_call 10; refine (lwAt_any a1 len1 cap1 2 15 _ (by exact HA1w.out) (by omega) (by omega) (by omega)).mono ?_; rintro e z1 ⟨D, rfl, i0, i1, i2, hw⟩; subst hw; obtain ⟨nn, c, hnn, n0, n1, hix, HBAD⟩ := HNX.out D i0 (by omega); have hqa : IntKind.i64.wrap (D + 1) = D + 1 := wrI _ (by omega); have hqb : IntKind.i64.wrap (D + 1 + sdig t[J]) = D + 1 + sdig t[J] := wrI _ (by omega); have hqc : IntKind.i64.wrap nn = nn := wrI _ (by omega); clear i1 i2)
            | (go_at_call 11; refine (lwDigit_any t[J] _ HDG.out).mono ?_; rintro e z2 ⟨rfl, hw⟩; subst hw))
          all_goals
            have HBS : Hid (Below w.heap.size w (W1.setCell ⟨x5.heap.size, J, none⟩ (.int .u8 (c.toNat : Int))).drew) := (HBX0.out.setCell hx5 _).drew
            have hcv := mark_afterB (cap := capb) HRb.out HTb.out _ c rfl (Below.refl _ (W1.setCell ⟨x5.heap.size, J, none⟩ (.int .u8 (c.toNat : Int))).drew)
            have hts : (textL (t.data.toList.set J c)).size ≤ 2212 := by
              show (t.data.toList.set J c).length ≤ 2212
              rw [List.length_set, HTL.out]
              exact hsz
            have hfld := field_hex (.int .i64 (rdB (textL (t.data.toList.set J c))))
            have HC3 : Hid (rdC (textL (t.data.toList.set J c)) = 3) := rdC_no _ (by omega) HBAD.out
            clear hix hnn hqa hqb hqc hce hfz hcb
            go_wp2_with fail
            refine (implHexRead_any (textL (t.data.toList.set J c)) _ (by unfold maxLen; omega) (HE.out.below HBS.out)).mono ?_
            rintro e z3 ⟨⟨v5, rfl, ho⟩, hb⟩
            rw [HC3.out]
            have HBX : Hid (Below w.heap.size w z3) := below_call HBS.out hb
            clear ho hb hcv
            go_wp2_with fail
            refine (drawHexRead_any a1 len1 cap1 _ (HA1.out.below HBX.out)).mono ?_
            rintro e y1 ⟨⟨u, rfl, hu⟩, hb⟩
            have HY1 : Hid (Below w.heap.size w y1) := below_call HBX.out hb
            clear hb
            have hum : u.size ≤ maxLen := by unfold maxLen; omega
            go_wp2_with fail
            refine (implHexRead_any u _ hum (HE.out.below HY1.out)).mono ?_
            rintro e y2 ⟨⟨v2, rfl, ho⟩, hb⟩
            obtain ⟨e2, k2, rfl, hr2, hk2, hk2m⟩ := own_readI ho
            have HR2 : Hid (ReadI y2 e2 (rdL u)) := hr2
            have HY2 : Hid (Below w.heap.size w y2) := below_call HY1.out hb
            clear ho hr2 hb
            go_wp2_with fail
            refine (specHexRead_same u _ hum).mono ?_
            rintro e y3 ⟨⟨v3, rfl, ho⟩, hb⟩
            obtain ⟨e3, k3, rfl, hr3, hk3, hk3m⟩ := own_readI ho
            have HR3 : Hid (ReadI y3 e3 (rdL u)) := hr3
            have HR2' : Hid (ReadI y3 e2 (rdL u)) := (HR2.out.alloc _).below hb
            have HY3 : Hid (Below w.heap.size w y3) := below_call (below_more HY2.out _) hb
            have HC2 : Hid (y3.heap[y2.heap.size]? = _) := heap_keep (heap_alloc_new y2 _) hb
            have hl23 := heap_lt HC2.out
            have hul := rdL_len u
            have HBK : Hid (rdC u = 0 → hexT (rdB u) (rdL u) = u) := rd_back u
            clear ho hr3 hb HR2
            generalize rdL u = U at *
            generalize rdC u = uc at *
            generalize rdB u = ub at *
            obtain ⟨c0, c1, c2⟩ := cells3x HC2.out
            have h1 : (uc == uc) = true := by simp
            have h2 : (ub == ub) = true := by simp
            go_wp2_with fail
            refine (lwWords_any e2 e3 k2 k3 U U _ (HR2'.out.alloc _) (HR3.out.alloc _) (by omega) (by omega)).mono ?_
            rintro e y4 ⟨rfl, hb⟩
            have hUU : decide (U = U) = true := by simp
            rw [hUU]
            have HC4 : Hid (y4.heap[y2.heap.size]? = _) := heap_keep (heap_more HC2.out _) hb
            have HR4 : Hid (ReadI y4 e2 U) := (HR2'.out.alloc _).below hb
            have HY4 : Hid (Below w.heap.size w y4) := below_call (below_more HY3.out _) hb
            clear hb c0 c1 c2
            obtain ⟨c0, c1, c2⟩ := cells3x HC4.out
            by_cases huc : uc = 0
            · subst huc
              have HBB : Hid (hexT ub U = u) := HBK.out rfl
              go_wp2_with fail
              refine (implHex_any ub e2 U k2 _ HR4.out (by omega) hk2 hk2m).mono ?_
              rintro e y5 ⟨rfl, hb⟩
              rw [HBB.out]
              have HY5 : Hid (Below w.heap.size w y5) := below_call HY4.out hb
              clear hb
              have htu : (u.toList == u.toList) = true := by simp
              go_wp2
              go_ret
              exact ⟨rfl, HY5.out⟩
            · have huc' : (uc != 0) = true := by simpa using huc
              go_wp2
              go_ret
              exact ⟨rfl, HY4.out⟩
end Go.Proofs.YtfmeickglipimaaDoor
