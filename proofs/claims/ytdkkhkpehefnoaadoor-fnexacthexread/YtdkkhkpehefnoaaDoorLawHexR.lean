/- The walk of the law on HexRead. -/
import Derived.Test.YtdkkhkpehefnoaaDoorRows
import Derived.WalkKit
import Derived.WalkSpells
import Derived.WalkLawsBesides
import Derived.Outline
import Derived.Test.YtdkkhkpehefnoaaDoorBase
import Derived.Test.YtdkkhkpehefnoaaDoorRes2
import Derived.Test.YtdkkhkpehefnoaaDoorOwn
import Derived.Test.YtdkkhkpehefnoaaDoorHexRP
import Derived.Test.YtdkkhkpehefnoaaDoorHexRS
import Derived.Test.YtdkkhkpehefnoaaDoorHexQ2
import Derived.Test.YtdkkhkpehefnoaaDoorEqHex
namespace Go.Proofs.YtdkkhkpehefnoaaDoor
open Go.RowKit
set_option linter.unusedVariables false

theorem rdL_len (s : ByteArray) : (rdL s).length ≤ 1000 := by
  unfold rdL
  split
  · simp
  · split
    · rename_i h
      have he := of_decide_eq_true h
      cases hB : hexB (baseT s) (rdW s.data.toList)
      · rw [hexT_no hB] at he
        subst he
        have : rdW (⟨#[]⟩ : ByteArray).data.toList = [] := rfl
        rw [this]; simp
      · have := (hexB_ok hB).1; omega
    · simp
theorem own_belowB {w w' : World} {B C : Nat} {v : Value} {L : List Int} (h : OwnI w B v L) (hv : ∀ q, v.ownBlock = some q → q < C) (hb : Below C w w') : OwnI w' B v L := by
  obtain ⟨h1, h2⟩ := h
  refine ⟨h1, ?_⟩
  rcases h2 with h2 | ⟨g, cap, cur, hv2, hB, hg, rest⟩
  · exact .inl h2
  · exact .inr ⟨g, cap, cur, hv2, hB, (hb.block g (hv g (by rw [hv2]; rfl))).trans hg, rest⟩
theorem specHexRead_same (s : ByteArray) (w : World) (hs : s.size ≤ maxLen) : Calls Tryd.prog 4 #[.string s] w fun e w' => (∃ v, e = .returned (.agg #[.int .i64 (rdB s), v, .int .i64 (rdC s)]) ∧ OwnI w' w.heap.size v (rdL s)) ∧ Below w.heap.size w w' := by
  have h := specHexRead_any s w hs
  rw [readers s] at h
  exact h
set_option maxRecDepth 100000 in
set_option maxHeartbeats 1600000 in
theorem lawHexRead_walk (s : ByteArray) (w : World) (hs : s.size ≤ maxLen) (hE : ErrV w) : Calls Tryd.prog 3 #[.string s] w fun e w' => e = .returned (.bool true) ∧ Below w.heap.size w w' := by
  have hs' := hs
  unfold maxLen at hs'
  have HE : Hid (ErrV w) := hE
  have HM : Hid (s.size ≤ maxLen) := hs
  have HSP : Hid (∀ W, Calls Tryd.prog 4 #[.string s] W fun e w' => (∃ v, e = .returned (.agg #[.int .i64 (rdB s), v, .int .i64 (rdC s)]) ∧ OwnI w' W.heap.size v (rdL s)) ∧ Below W.heap.size W w') := fun W => specHexRead_same s W hs
  have HIP : Hid (∀ W, ErrV W → Calls Tryd.prog 5 #[.string s] W fun e w' => (∃ v, e = .returned (.agg #[.int .i64 (rdB s), v, .int .i64 (rdC s)]) ∧ OwnI w' W.heap.size v (rdL s)) ∧ Below W.heap.size W w') := fun W hE => implHexRead_any s W hs hE
  have hl := rdL_len s
  clear hE hs
  generalize rdB s = b at *
  generalize rdC s = c at *
  generalize rdL s = L at *
  by_cases hbig : 1048576 < s.size
  · go_enter Tryd.func3, Tryd.ntmps3
    go_wp2
    go_ret
    exact ⟨rfl, Below.refl _ _⟩
  go_enter Tryd.func3, Tryd.ntmps3
  go_wp2_with fail
  refine (HSP.out _).mono ?_
  rintro e x1 ⟨⟨v0, rfl, ho⟩, hb⟩
  obtain ⟨a0, k0, rfl, _, _, _⟩ := own_readI ho
  have HO0 : Hid (OwnI x1 w.heap.size _ L) := ho
  have HV0 : Hid (∀ q, (Value.slice a0 L.length k0).ownBlock = some q → q < x1.heap.size + 1) := fun q hq => by have := (ho.lt q hq).2; omega
  have HB1 : Hid (Below w.heap.size w x1) := hb
  clear ho hb
  have hz1 := HB1.out.size
  go_wp2_with fail
  refine (HIP.out _ ((HE.out.below HB1.out).alloc _)).mono ?_
  rintro e x2 ⟨⟨v1, rfl, ho⟩, hb⟩
  obtain ⟨a1, k1, rfl, _, _, _⟩ := own_readI ho
  have HX0 : Hid (x2.heap[x1.heap.size]? = _) := heap_keep (heap_alloc_new x1 _) hb
  have HO0' : Hid (OwnI x2 w.heap.size (.slice a0 L.length k0) L) := (HO0.out.alloc _).stays hb
  have HO1 : Hid (OwnI x2 (x1.heap.size + 1) (.slice a1 L.length k1) L) := by show OwnI _ _ _ _; have h := ho; simpa using h
  have HV : Hid (∀ q, (Value.slice a1 L.length k1).ownBlock = some q → x1.heap.size + 1 ≤ q ∧ q < x2.heap.size) := fun q hq => by have := ho.lt q hq; simpa using this
  have HB2 : Hid (Below w.heap.size w x2) := below_call (below_more HB1.out _) hb
  have hz2 : x1.heap.size + 1 ≤ x2.heap.size := by have := hb.size; simpa using this
  clear ho hb HO0
  obtain ⟨c0, c1, c2⟩ := cells3x HX0.out
  have hlx0 := heap_lt HX0.out
  go_wp2_with fail
  refine (eqHexOut_any b c (.slice a1 L.length k1) (.slice a0 L.length k0) (x1.heap.size + 1) w.heap.size L _ (HO1.out.alloc _) (HO0'.out.alloc _) (by omega)).mono ?_
  rintro e x3 ⟨rfl, hb⟩
  have HX3 : Hid (x3.heap[x1.heap.size]? = _) := heap_keep (heap_more HX0.out _) hb
  have HY3 : Hid (x3.heap[x2.heap.size]? = _) := heap_keep (heap_alloc_new x2 _) hb
  have HP3 : Hid (OwnI x3 w.heap.size (.slice a0 L.length k0) L) := (HO0'.out.alloc _).stays hb
  have HQ3 : Hid (OwnI x3 (x1.heap.size + 1) (.slice a1 L.length k1) L) := (HO1.out.alloc _).stays hb
  have HB3 : Hid (Below w.heap.size w x3) := below_call (below_more HB2.out _) hb
  have hz3 : x2.heap.size + 1 ≤ x3.heap.size := by have := hb.size; simpa using this
  clear hb c0 c1 c2 HX0 HO0' HO1
  obtain ⟨c0, c1, c2⟩ := cells3x HX3.out
  obtain ⟨d0, d1, d2⟩ := cells3x HY3.out
  go_wp2_with fail
  have HV1 : Hid (∀ q, (Value.slice a1 L.length k1).ownBlock = some q → x1.heap.size + 1 ≤ q ∧ q < x2.heap.size) := HV.out
  refine (markHexOut_any b c 1 (.slice a1 L.length k1) (x1.heap.size + 1) L _ HQ3.out (by omega) (by omega) (by omega) (by omega)).mono ?_
  rintro e x4 ⟨rfl, ho, hb, hk⟩
  have HX4 : Hid (x4.heap[x1.heap.size]? = _) := (hb.block _ (by omega)).trans HX3.out
  have HY4 : Hid (x4.heap[x2.heap.size]? = _) := (hk _ (by omega) (fun h => by have := (HV1.out _ h).2; omega)).trans HY3.out
  have HQ4 : Hid (OwnI x4 (x1.heap.size + 1) (.slice a1 L.length k1) (marksI 1 L.length)) := ho
  have HP4 : Hid (OwnI x4 w.heap.size (.slice a0 L.length k0) L) := own_belowB HP3.out (HV0.out) hb
  have HB4 : Hid (Below w.heap.size w x4) := HB3.out.trans (hb.mono (by omega))
  have hz4 : x3.heap.size ≤ x4.heap.size := hb.size
  clear ho hb hk c0 c1 c2 d0 d1 d2 HX3 HY3 HP3 HQ3
  obtain ⟨c0, c1, c2⟩ := cells3x HX4.out
  obtain ⟨d0, d1, d2⟩ := cells3x HY4.out
  go_wp2_with fail
  refine (heldHexOut_any b c 1 (.slice a1 L.length k1) (x1.heap.size + 1) L.length _ HQ4.out (by omega) (by omega) (by omega)).mono ?_
  rintro e x5 ⟨rfl, hb⟩
  have HX5 : Hid (x5.heap[x1.heap.size]? = _) := heap_keep HX4.out hb
  have HY5 : Hid (x5.heap[x2.heap.size]? = _) := heap_keep HY4.out hb
  have HQ5 : Hid (OwnI x5 (x1.heap.size + 1) (.slice a1 L.length k1) (marksI 1 L.length)) := HQ4.out.stays hb
  have HP5 : Hid (OwnI x5 w.heap.size (.slice a0 L.length k0) L) := HP4.out.stays hb
  have HB5 : Hid (Below w.heap.size w x5) := below_call HB4.out hb
  have hz5 : x4.heap.size ≤ x5.heap.size := hb.size
  clear hb c0 c1 c2 d0 d1 d2 HX4 HY4 HP4 HQ4
  have hn0 : ¬ (1 + (L.length : Int) < 0) := by omega
  have hn1 : (1 + (L.length : Int) != 1 + (L.length : Int)) = false := by simp
  go_wp2_with fail
  refine (HIP.out _ (HE.out.below HB5.out)).mono ?_
  rintro e x6 ⟨⟨v3, rfl, ho⟩, hb⟩
  obtain ⟨a3, k3, rfl, _, _, _⟩ := own_readI ho
  have HX6 : Hid (x6.heap[x1.heap.size]? = _) := heap_keep HX5.out hb
  have HY6 : Hid (x6.heap[x2.heap.size]? = _) := heap_keep HY5.out hb
  have HQ6 : Hid (OwnI x6 (x1.heap.size + 1) (.slice a1 L.length k1) (marksI 1 L.length)) := HQ5.out.stays hb
  have HP6 : Hid (OwnI x6 w.heap.size (.slice a0 L.length k0) L) := HP5.out.stays hb
  have HR6 : Hid (OwnI x6 x5.heap.size (.slice a3 L.length k3) L) := ho
  have HB6 : Hid (Below w.heap.size w x6) := below_call HB5.out hb
  clear ho hb HX5 HY5 HP5 HQ5
  obtain ⟨c0, c1, c2⟩ := cells3x HX6.out
  have hlx6 := heap_lt HX6.out
  go_wp2_with fail
  refine (eqHexOut_any b c (.slice a3 L.length k3) (.slice a0 L.length k0) x5.heap.size w.heap.size L _ (HR6.out.alloc _) (HP6.out.alloc _) (by omega)).mono ?_
  rintro e x7 ⟨rfl, hb⟩
  have HY7 : Hid (x7.heap[x2.heap.size]? = _) := heap_keep (heap_more HY6.out _) hb
  have HQ7 : Hid (OwnI x7 (x1.heap.size + 1) (.slice a1 L.length k1) (marksI 1 L.length)) := (HQ6.out.alloc _).stays hb
  have HB7 : Hid (Below w.heap.size w x7) := below_call (below_more HB6.out _) hb
  clear hb c0 c1 c2
  obtain ⟨d0, d1, d2⟩ := cells3x HY7.out
  go_wp2_with fail
  refine (heldHexOut_any b c 1 (.slice a1 L.length k1) (x1.heap.size + 1) L.length _ HQ7.out (by omega) (by omega) (by omega)).mono ?_
  rintro e x8 ⟨rfl, hb⟩
  have HB8 : Hid (Below w.heap.size w x8) := below_call HB7.out hb
  clear hb
  go_wp2
  go_ret
  exact ⟨rfl, HB8.out⟩
end Go.Proofs.YtdkkhkpehefnoaaDoor
