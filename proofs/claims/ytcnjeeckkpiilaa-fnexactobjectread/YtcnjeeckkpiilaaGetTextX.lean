/- The walks of GetText, in both ways. -/
import Derived.Test.YtcnjeeckkpiilaaRows
import Derived.WalkKit
import Derived.WalkSpells
import Derived.WalkLawsBesides
import Derived.Test.YtcnjeeckkpiilaaBun0
import Derived.RegionTactic
import Derived.BigRegion
import Derived.Test.YtcnjeeckkpiilaaReadNumX
import Derived.Test.YtcnjeeckkpiilaaJoinX
namespace Go.Proofs.Ytcnjeeckkpiilaa
open Go.RowKit

def getT (s : ByteArray) (x : Int × Int × Int) : ByteArray × Int × Int :=
  if x.2.2 ≠ 0 then (⟨#[]⟩, 0, x.2.2) else if x.1 < 0 ∨ 8000 < x.1 then (⟨#[]⟩, 0, 3) else if (s.size : Int) - x.1 < x.2.1 then (⟨#[]⟩, 0, 4)
  else (s.extract x.2.1.toNat (x.2.1 + x.1).toNat, x.2.1 + x.1, 0)
theorem rdF_at (s : ByteArray) (p : Nat) : ∀ f i u, (rdF s p f i u).2.2 = 0 → 0 ≤ (rdF s p f i u).2.1 ∧ (rdF s p f i u).2.1 ≤ s.size := by
  intro f
  induction f with
  | zero => intro i u h; simp [rdF] at h
  | succ f ih =>
    intro i u h
    unfold rdF at h ⊢
    split at h
    · rename_i hin
      rw [dif_pos hin]
      split at h
      · simp at h
      · rename_i h9
        rw [if_neg h9]
        split at h
        · rename_i hc
          rw [if_pos hc]
          split at h
          · simp at h
          · rename_i hz
            rw [if_neg hz]
            simp; omega
        · rename_i hc
          rw [if_neg hc]
          exact ih _ _ h
    · simp at h
theorem getN_at (s : ByteArray) (at_ : Int) (h : (getN s at_).2.2 = 0) : 0 ≤ (getN s at_).2.1 ∧ (getN s at_).2.1 ≤ s.size := by
  unfold getN at h ⊢
  split at h
  · simp at h
  · rename_i h1
    rw [if_neg h1]
    split at h
    · simp at h
    · rename_i h2
      rw [if_neg h2]
      exact rdF_at s _ _ _ _ h
theorem numV_at (s : ByteArray) (at_ : Int) (h : (numV s at_).2.2 = 0) : 0 ≤ (numV s at_).2.1 ∧ (numV s at_).2.1 ≤ s.size ∧ s.size ≤ 8000 := by
  unfold numV at h ⊢
  split at h
  · simp at h
  · rename_i h1
    rw [if_neg h1]
    have := getN_at s at_ h
    omega
theorem textOut {x : ByteArray × Int × Int} {a : ByteArray} {b c : Int} (h : x = (a, b, c)) : Ending.returned (.agg #[.string a, .int .i64 b, .int .i64 c]) = .returned (.agg #[.string x.1, .int .i64 x.2.1, .int .i64 x.2.2]) := by rw [h]
theorem cut_mid (s : ByteArray) (P N : Int) (h0 : 0 ≤ P) (h1 : 0 ≤ N) (h2 : P + N ≤ s.size) (W : World) :
    (Instr.slice 9 (.string s) (some (.int .i64 P)) (some (.int .i64 (P + N))) none).run Try.prog W = .ok (.string (s.extract P.toNat (P + N).toNat)) W := by
  have e : ((P + N).toNat : Int) = P + N := Int.toNat_of_nonneg (by omega)
  simp [Instr.slice, run_underlying Try.underlying9, Instr.sliceBounds, run_sliceBound, h0, h2, e, (by omega : 0 ≤ P + N), (by omega : P ≤ P + N)]
theorem retT {x : ByteArray × Int × Int} {a : ByteArray} {b : Int} {c : Int} (h : x = (a, b, c)) : Ending.returned (.tuple #[.string a, .int .i64 b, errV c]) = .returned (.tuple #[.string x.1, .int .i64 x.2.1, errV x.2.2]) := by rw [h]
theorem errV_0 : errV 0 = .nilIface := rfl
theorem errV_n {c : Int} (h : ¬ c = 0) : errV c = .iface 140 (.agg #[.int .i64 c]) := if_neg h
set_option maxRecDepth 100000 in
set_option maxHeartbeats 1000000 in
theorem readText_any (s : ByteArray) (at_ : Int) (w : World) (hs : s.size ≤ 8000) (hb1 : at_ ≤ 9223372036854775807) :
    Calls Try.prog 102 #[.string s, .int .i64 at_] w fun e w' => e = .returned (.tuple #[.string (getT s (getN s at_)).1, .int .i64 (getT s (getN s at_)).2.1, errV (getT s (getN s at_)).2.2]) ∧ Below w.heap.size w w' := by
  have HA : Hid (_ → _) := getN_at s at_
  go_enter Try.func102, Try.ntmps102
  go_wp2_with fail
  refine (readNum_any s at_ _ hs hb1).mono ?_
  rintro e w ⟨rfl, rfl⟩
  generalize hx : getN s at_ = x at *
  obtain ⟨N, P, C⟩ := x
  have HX : Hid (_ = _) := hx
  clear hx
  by_cases hC : C = 0
  · subst hC
    obtain ⟨hP0, hP1⟩ := HA.out rfl
    simp only at hP0 hP1
    simp only [errV_0]
    by_cases hN0 : N < 0
    · have HF : Hid (getT s (N, P, 0) = _) := (if_neg (by simp)).trans (if_pos (Or.inl hN0))
      go_wp2
      go_ret3
      exact ⟨retT (a := ⟨#[]⟩) (b := 0) (c := 3) (by rw [HX.out]; exact HF.out), Below.refl _ _⟩
    by_cases hN1 : 8000 < N
    · have HF : Hid (getT s (N, P, 0) = _) := (if_neg (by simp)).trans (if_pos (Or.inr hN1))
      go_wp2
      go_ret3
      exact ⟨retT (a := ⟨#[]⟩) (b := 0) (c := 3) (by rw [HX.out]; exact HF.out), Below.refl _ _⟩
    by_cases hsh : (s.size : Int) - N < P
    · have HF : Hid (getT s (N, P, 0) = _) := (if_neg (by simp)).trans ((if_neg (by simp; omega)).trans (if_pos hsh))
      have hsh2 : (s.size : Int) - P < N := by omega
      clear hsh
      go_wp2
      go_ret3
      exact ⟨retT (a := ⟨#[]⟩) (b := 0) (c := 4) (by rw [HX.out]; exact HF.out), Below.refl _ _⟩
    · have HF : Hid (getT s (N, P, 0) = _) := (if_neg (by simp)).trans ((if_neg (by simp; omega)).trans (if_neg hsh))
      have hsl := cut_mid s P N hP0 (by omega) (by omega)
      have hl : (s.extract P.toNat (P + N).toNat).size ≤ 1000000 := by simp; omega
      go_wp2_with fail
      refine (join_one (s.extract P.toNat (P + N).toNat) _ hl).mono ?_
      rintro e w1 ⟨rfl, hb⟩
      go_wp2
      go_ret3
      exact ⟨retT (a := s.extract P.toNat (P + N).toNat) (b := P + N) (c := 0) (by rw [HX.out]; exact HF.out), hb⟩
  · have HF : Hid (getT s (N, P, C) = _) := if_pos hC
    have HE : Hid (_ = _) := errV_n hC
    simp only [errV_n hC]
    clear hC
    go_wp2
    go_ret3
    exact ⟨(by rw [← HE.out]; exact retT (a := ⟨#[]⟩) (b := 0) (c := C) (by rw [HX.out]; exact HF.out)), Below.refl _ _⟩

end Go.Proofs.Ytcnjeeckkpiilaa
