/- The walk of the specification's GetText. -/
import Derived.Test.YtcnjeeckkpiilaaRows
import Derived.WalkKit
import Derived.WalkSpells
import Derived.WalkLawsBesides
import Derived.RegionTactic
import Derived.BigRegion
import Derived.Test.YtcnjeeckkpiilaaBun0
import Derived.Test.YtcnjeeckkpiilaaGetNumX
import Derived.Test.YtcnjeeckkpiilaaGetTextX
namespace Go.Proofs.Ytcnjeeckkpiilaa
open Go.RowKit

set_option maxRecDepth 100000 in
set_option maxHeartbeats 1000000 in
theorem specGetText_any (s : ByteArray) (at_ : Int) (w : World) (hs0 : s.size ≤ maxLen) (hb0 : -9223372036854775808 ≤ at_) (hb1 : at_ ≤ 9223372036854775807) :
    Calls Try.prog 100 #[.string s, .int .i64 at_] w fun e w' => e = .returned (.agg #[.string (getT s (numV s at_)).1, .int .i64 (getT s (numV s at_)).2.1, .int .i64 (getT s (numV s at_)).2.2]) ∧ Below w.heap.size w w' := by
  have HA : Hid (_ → _) := numV_at s at_
  have hm := hs0
  unfold maxLen at hm
  go_enter Try.func100, Try.ntmps100
  go_wp2_with fail
  refine (specGetNum_any s at_ _ hs0 hb0 hb1).mono ?_
  rintro e w1 ⟨rfl, hb⟩
  obtain ⟨⟨c0, c1, c2⟩, ⟨f0, f1, f2⟩, hz⟩ := keep3 hb
  have HB : Hid (_) := ((Below.refl w.heap.size w).alloc (Nat.le_refl _) _).trans (hb.mono (by simp))
  clear hb
  generalize hx : numV s at_ = x at *
  obtain ⟨N, P, C⟩ := x
  have HX : Hid (_ = _) := hx
  clear hx
  by_cases hC : C = 0
  · subst hC
    obtain ⟨hP0, hP1, hs8⟩ := HA.out rfl
    simp only at hP0 hP1
    by_cases hN0 : N < 0
    · have HF : Hid (getT s (N, P, 0) = _) := (if_neg (by simp)).trans (if_pos (Or.inl hN0))
      go_wp2
      refine bodyPost_ret (v := .agg #[.string ⟨#[]⟩, .int .i64 0, .int .i64 3]) (by simp [results, Try.results100, go_sem, c0, c1, c2, hz]) rfl ⟨textOut (by rw [HX.out]; exact HF.out), ?_⟩
      exact (((HB.out.setCell (by simp) _).setCell (by simp) _).setCell (by simp) _).alloc (by simp; omega) _
    by_cases hN1 : 8000 < N
    · have HF : Hid (getT s (N, P, 0) = _) := (if_neg (by simp)).trans (if_pos (Or.inr hN1))
      go_wp2
      refine bodyPost_ret (v := .agg #[.string ⟨#[]⟩, .int .i64 0, .int .i64 3]) (by simp [results, Try.results100, go_sem, c0, c1, c2, hz]) rfl ⟨textOut (by rw [HX.out]; exact HF.out), ?_⟩
      exact (((HB.out.setCell (by simp) _).setCell (by simp) _).setCell (by simp) _).alloc (by simp; omega) _
    by_cases hsh : (s.size : Int) - N < P
    · have HF : Hid (getT s (N, P, 0) = _) := (if_neg (by simp)).trans ((if_neg (by simp; omega)).trans (if_pos hsh))
      go_wp2
      refine bodyPost_ret (v := .agg #[.string ⟨#[]⟩, .int .i64 0, .int .i64 4]) (by simp [results, Try.results100, go_sem, c0, c1, c2, hz]) rfl ⟨textOut (by rw [HX.out]; exact HF.out), ?_⟩
      exact (((HB.out.setCell (by simp) _).setCell (by simp) _).setCell (by simp) _).alloc (by simp; omega) _
    · have HF : Hid (getT s (N, P, 0) = _) := (if_neg (by simp)).trans ((if_neg (by simp; omega)).trans (if_neg hsh))
      have hw1 : wrap64 (P + N) = P + N := by unfold wrap64; omega
      have hw2 : IntKind.i64.wrap (P + N) = P + N := by rw [IntKind.wrap_i64]; omega
      have hsl := cut_mid s P N hP0 (by omega) (by omega)
      go_wp2
      go_region
      go_wp2
      refine bodyPost_ret (v := .agg #[.string (s.extract P.toNat (P + N).toNat), .int .i64 (P + N), .int .i64 0]) (by simp [results, Try.results100, go_sem, c0, c1, c2, hz]) rfl ⟨textOut (by rw [HX.out]; exact HF.out), ?_⟩
      exact ((((HB.out.setCell (by simp) _).setCell (by simp) _).setCell (by simp) _).alloc (by simp; omega) _).drew
  · have HF : Hid (getT s (N, P, C) = _) := if_pos hC
    have hCb : (C == 0) = false := by rw [beq_eq_false_iff_ne]; exact hC
    go_wp2
    refine bodyPost_ret (v := .agg #[.string ⟨#[]⟩, .int .i64 0, .int .i64 C]) (by simp [results, Try.results100, go_sem, c0, c1, c2, hz]) rfl ⟨textOut (by rw [HX.out]; exact HF.out), ?_⟩
    exact (((HB.out.setCell (by simp) _).setCell (by simp) _).setCell (by simp) _).alloc (by simp; omega) _
end Go.Proofs.Ytcnjeeckkpiilaa
