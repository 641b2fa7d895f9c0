/- ObjectRight of the program; the laws' helpers over objects. -/
import Derived.Test.YtcnjeeckkpiilaaRows
import Derived.WalkKit
import Derived.WalkSpells
import Derived.WalkLawsBesides
import Derived.Outline
import Derived.Test.YtcnjeeckkpiilaaBun0
import Derived.Test.YtcnjeeckkpiilaaBun1
import Derived.Test.YtcnjeeckkpiilaaOwnX
import Derived.Test.YtcnjeeckkpiilaaBun9
import Derived.Test.YtcnjeeckkpiilaaObjIX
namespace Go.Proofs.Ytcnjeeckkpiilaa
open Go.RowKit
set_option linter.unusedVariables false

theorem cells3o {W : World} {B : Nat} {t : TypeId} {fr : Nat × Nat} {v0 v1 v2 : Value} (h : W.heap[B]? = some (.cells #[v0, v1, v2] t fr)) : W.cell? ⟨B, 0, none⟩ = some v0 ∧ W.cell? ⟨B, 1, none⟩ = some v1 ∧ W.cell? ⟨B, 2, none⟩ = some v2 := by
  refine ⟨?_, ?_, ?_⟩ <;> simp [World.cell?, h]
theorem objB_300 {W : List Int} {S : List symE} {R : List refE} (h : 300 < W.length) : objB W S R = false := by
  unfold objB; rw [decide_eq_false (by omega)]; rfl
theorem objB_is {W : List Int} {S : List symE} {R : List refE} (h : ¬ 300 < W.length) : objB W S R = (wordsB W && (symsB W.length S && refsB W.length R)) := by
  unfold objB; rw [decide_eq_true (by omega)]; rfl
/- What an object's three slices read as. -/
structure ObjIs (w : World) (a b c : Option Addr) (W : List Int) (S : List symE) (R : List refE) : Prop where
  ws : ReadI w a W
  ss : RowIs 3 symC w b S
  rs : RowIs 4 refC w c R
theorem ObjIs.below {w w' : World} {a b c : Option Addr} {W : List Int} {S : List symE} {R : List refE} (h : ObjIs w a b c W S R) (hb : Below w.heap.size w w') : ObjIs w' a b c W S R := ⟨h.ws.below hb, h.ss.below hb, h.rs.below hb⟩
structure ObjFits (W : List Int) (S : List symE) (R : List refE) : Prop where
  wl : W.length ≤ 1048576
  sl : S.length ≤ 1048576
  rl : R.length ≤ 1048576
  st : ∀ s ∈ S, fitssym s
  rt : ∀ s ∈ R, fitsref s
set_option maxRecDepth 100000 in
set_option maxHeartbeats 1600000 in
theorem implObject_any (a b c : Option Addr) (W : List Int) (S : List symE) (R : List refE) (ka kb kc : Nat) (w : World) (hO : ObjIs w a b c W S R) (hF : ObjFits W S R) : Calls Try.prog 36 #[.agg #[.slice a W.length ka, .slice b S.length kb, .slice c R.length kc]] w fun e w' => e = .returned (.bool (objB W S R)) ∧ Below w.heap.size w w' := by
  have HO : Hid (ObjIs w a b c W S R) := hO
  have HF : Hid (ObjFits W S R) := hF
  have hwl := hF.wl
  have hsl := hF.sl
  have hrl := hF.rl
  clear hO hF
  by_cases h3 : 300 < W.length
  · have h3' : ¬ (W.length : Int) ≤ 300 := by omega
    have h3b : decide ((W.length : Int) ≤ 300) = false := decide_eq_false h3'
    go_enter Try.func36, Try.ntmps36
    go_wp2
    go_ret
    exact ⟨ret_bool (objB_300 h3).symm, below_new _ _⟩
  · have h3' : (W.length : Int) ≤ 300 := by omega
    have HI : Hid (_ = _) := objB_is (S := S) (R := R) h3
    go_enter Try.func36, Try.ntmps36
    go_wp2_with fail
    refine (areWords_any a W ka _ (HO.out.ws.alloc _) (by omega)).mono ?_
    rintro e x1 ⟨rfl, rfl⟩
    cases hw : wordsB W
    · go_wp2
      go_ret
      exact ⟨ret_bool (by rw [HI.out, hw]; rfl), below_new _ _⟩
    · have HW : Hid (wordsB W = true) := hw
      clear hw
      go_wp2_with fail
      refine (symsRight_any b S kb W.length _ (HO.out.ss.alloc _) (by omega) (by omega) HF.out.st).mono ?_
      rintro e x2 ⟨rfl, hb⟩
      have HV2 : Hid (x2.heap[w.heap.size]? = _) := heap_keep (heap_alloc_new w _) hb
      have HB2 : Hid (Below w.heap.size w x2) := below_call (below_new _ _) hb
      clear hb
      obtain ⟨c0, c1, c2⟩ := cells3o HV2.out
      cases hs : symsB W.length S
      · go_wp2
        go_ret
        exact ⟨ret_bool (by rw [HI.out, HW.out, hs]; rfl), HB2.out⟩
      · have HS : Hid (symsB W.length S = true) := hs
        clear hs
        go_wp2_with fail
        refine (refsRight_any c R kc W.length _ (HO.out.rs.below HB2.out) (by omega) (by omega) HF.out.rt).mono ?_
        rintro e x3 ⟨rfl, hb⟩
        have HB3 : Hid (Below w.heap.size w x3) := below_call HB2.out hb
        clear hb
        go_wp2
        go_ret
        exact ⟨ret_bool (by rw [HI.out, HW.out, HS.out]; rfl), HB3.out⟩
set_option maxRecDepth 100000 in
set_option maxHeartbeats 1600000 in
theorem szInt64S_any (a : Option Addr) (n cap : Nat) (left : Int) (w : World) (h0 : 0 ≤ left) (hl : left ≤ 1048576) (hn : n ≤ maxLen) : Calls Try.prog 28 #[.slice a n cap, .int .i64 left] w (SzOut (n ≤ 1048576) w) := by
  unfold maxLen at hn
  by_cases k1 : left - (n : Int) < 0
  · go_enter Try.func28, Try.ntmps28
    go_wp2
    go_ret
    exact ⟨-1, rfl, by omega, fun h => by omega, Below.refl _ _⟩
  · go_enter Try.func28, Try.ntmps28
    go_wp2
    go_ret
    exact ⟨_, rfl, by omega, fun h => by omega, Below.refl _ _⟩
/- What an object's lists are, before their sizes are known. -/
structure ObjRaw (W : List Int) (S : List symE) (R : List refE) : Prop where
  wl : W.length ≤ maxLen
  sl : S.length ≤ maxLen
  rl : R.length ≤ maxLen
  st : ∀ s ∈ S, textssym s
  rt : ∀ s ∈ R, textsref s
set_option maxRecDepth 100000 in
set_option maxHeartbeats 1600000 in
theorem szObject_any (a b c : Option Addr) (W : List Int) (S : List symE) (R : List refE) (ka kb kc : Nat) (w : World) (left : Int) (h0 : 0 ≤ left) (hl : left ≤ 1048576) (hO : ObjIs w a b c W S R) (hF : ObjRaw W S R) : Calls Try.prog 9 #[.agg #[.slice a W.length ka, .slice b S.length kb, .slice c R.length kc], .int .i64 left] w (SzOut (ObjFits W S R) w) := by
  have HO : Hid (ObjIs w a b c W S R) := hO
  have HF : Hid (ObjRaw W S R) := hF
  clear hO hF
  go_enter Try.func9, Try.ntmps9
  go_wp2_with fail
  refine (szInt64S_any a W.length ka left _ h0 hl HF.out.wl).mono ?_
  rintro e x1 ⟨r1, rfl, hr1, hp1, hb⟩
  have HV1 : Hid (x1.heap[w.heap.size]? = _) := heap_keep (heap_alloc_new w _) hb
  have HB1 : Hid (Below w.heap.size w x1) := below_call (below_new _ _) hb
  have HP1 : Hid (¬ r1 < 0 → W.length ≤ 1048576) := hp1
  clear hb hp1
  obtain ⟨c0, c1, c2⟩ := cells3o HV1.out
  by_cases n1 : r1 < 0
  · go_wp2
    go_ret
    exact ⟨-1, rfl, by omega, fun h => by omega, HB1.out⟩
  go_wp2_with fail
  refine (szSymS_any b S kb r1 _ (by omega) hr1 (HO.out.ss.below HB1.out) HF.out.sl (textssym_s HF.out.st)).mono ?_
  rintro e x2 ⟨r2, rfl, hr2, hp2, hb⟩
  have HV2 : Hid (x2.heap[w.heap.size]? = _) := heap_keep HV1.out hb
  have HB2 : Hid (Below w.heap.size w x2) := below_call HB1.out hb
  have HP2 : Hid (¬ r2 < 0 → S.length ≤ 1048576 ∧ ∀ s ∈ S, fitssym s) := hp2
  clear hb hp2 c0 c1 c2
  obtain ⟨c0, c1, c2⟩ := cells3o HV2.out
  by_cases n2 : r2 < 0
  · go_wp2
    go_ret
    exact ⟨-1, rfl, by omega, fun h => by omega, HB2.out⟩
  go_wp2_with fail
  refine (szRefS_any c R kc r2 _ (by omega) hr2 (HO.out.rs.below HB2.out) HF.out.rl (textsref_s HF.out.rt)).mono ?_
  rintro e x3 ⟨r3, rfl, hr3, hp3, hb⟩
  have HB3 : Hid (Below w.heap.size w x3) := below_call HB2.out hb
  have HP3 : Hid (¬ r3 < 0 → R.length ≤ 1048576 ∧ ∀ s ∈ R, fitsref s) := hp3
  clear hb hp3 c0 c1 c2
  by_cases n3 : r3 < 0
  · go_wp2
    go_ret
    exact ⟨-1, rfl, by omega, fun h => by omega, HB3.out⟩
  · go_wp2
    go_ret
    exact ⟨r3, rfl, hr3, fun _ => ⟨HP1.out n1, (HP2.out n2).1, (HP3.out n3).1, (HP2.out n2).2, (HP3.out n3).2⟩, HB3.out⟩
end Go.Proofs.Ytcnjeeckkpiilaa
