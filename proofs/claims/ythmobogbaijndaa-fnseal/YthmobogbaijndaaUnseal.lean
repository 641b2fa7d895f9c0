/- The walks of Unseal, and of the comparison of its answers. -/
import Derived.Test.YthmobogbaijndaaRows
import Derived.WalkKit
import Derived.WalkSpells
import Derived.WalkLawsBesides
import Derived.Test.YthmobogbaijndaaBase
import Derived.Deep.RegionWith
import Derived.Test.YthmobogbaijndaaSeal
namespace Go.Proofs.Ythmobogbaijndaa
open Go.RowKit

set_option maxHeartbeats 400000 in
theorem implUnseal_big (s : ByteArray) (w : World) (hs0 : s.size ≤ maxLen) (h : 8000 < s.size) :
    Calls Try.prog 8 #[.string s] w fun e w' => e = .returned (.agg #[.string ⟨#[]⟩, .int .i64 0, .int .i64 2]) ∧ Below w.heap.size w w' := by
  unfold maxLen at hs0
  go_enter Try.func8, Try.ntmps8
  go_wp2
  exact bodyPost_ret (v := .agg #[.string ⟨#[]⟩, .int .i64 0, .int .i64 2]) (by simp [results, Try.results8, go_sem]) rfl ⟨rfl, (Below.refl _ _).alloc (Nat.le_refl _) _⟩

set_option maxHeartbeats 400000 in
theorem implUnseal_bad (s : ByteArray) (w : World) (hs0 : s.size ≤ 8000) (h : 4 ≤ s.size) (hq : ((sealB (s.extract 0 (s.size - 4))).toList == s.toList) = false) :
    Calls Try.prog 8 #[.string s] w fun e w' => e = .returned (.agg #[.string ⟨#[]⟩, .int .i64 0, .int .i64 5]) ∧ Below w.heap.size w w' := by
  have hl : (s.extract 0 (s.size - 4)).size ≤ maxLen := by simp [maxLen]; omega
  go_enter Try.func8, Try.ntmps8
  go_wp2_with fail
  refine (implSeal_any _ _ hl).mono ?_
  rintro e w1 ⟨rfl, hb1⟩
  obtain ⟨hc1, hf1⟩ := bcell hb1
  have hz1 := hb1.size
  simp at hz1
  go_wp2
  refine bodyPost_ret (v := .agg #[.string ⟨#[]⟩, .int .i64 0, .int .i64 5]) (by simp [results, Try.results8, go_sem, hc1]) rfl ⟨rfl, ?_⟩
  exact (((((Below.refl _ _).alloc (Nat.le_refl _) _).trans (hb1.mono (by simp))).setCell (by simp) _).setCell (by simp) _).setCell (by simp) _
set_option maxHeartbeats 400000 in
theorem implUnseal_good (s : ByteArray) (w : World) (hs0 : s.size ≤ 8000) (h : 4 ≤ s.size) (hq : ((sealB (s.extract 0 (s.size - 4))).toList == s.toList) = true) :
    Calls Try.prog 8 #[.string s] w fun e w' => e = .returned (.agg #[.string (s.extract 0 (s.size - 4)), .int .i64 0, .int .i64 0]) ∧ Below w.heap.size w w' := by
  have hl : (s.extract 0 (s.size - 4)).size ≤ maxLen := by simp [maxLen]; omega
  have hl2 : (s.extract 0 (s.size - 4)).size ≤ 1000000 := by simp; omega
  go_enter Try.func8, Try.ntmps8
  go_wp2_with fail
  refine (implSeal_any _ _ hl).mono ?_
  rintro e w1 ⟨rfl, hb1⟩
  obtain ⟨hc1, hf1⟩ := bcell hb1
  have hz1 := hb1.size
  simp at hz1
  go_wp2_with fail
  refine (join_one (s.extract 0 (s.size - 4)) w1 hl2).mono ?_
  rintro e w2 ⟨rfl, hb2⟩
  obtain ⟨⟨c0, c1, c2⟩, ⟨f0, f1, f2⟩, hz⟩ := keep3 (hb1.trans (hb2.mono (by simp; omega)))
  have HB : Hid (_) := ((Below.refl w.heap.size w).alloc (Nat.le_refl _) _).trans ((hb1.mono (by simp)).trans (hb2.mono (by omega)))
  clear hc1 hf1 hz1 hb1 hb2
  go_wp2
  refine bodyPost_ret (v := .agg #[.string (s.extract 0 (s.size - 4)), .int .i64 0, .int .i64 0]) (by simp [results, Try.results8, go_sem, c0, c1, c2]) rfl ⟨rfl, ?_⟩
  exact ((HB.out.setCell (by simp) _).setCell (by simp) _).setCell (by simp) _
theorem tl_inj {a b : ByteArray} (h : a.toList = b.toList) : a = b := by
  rw [ByteArray.toList_eq, ByteArray.toList_eq] at h
  cases a; cases b; congr 1; exact Array.toList_inj.1 h
theorem cut_join (s : ByteArray) (k : Nat) (h : k ≤ s.size) : s.extract 0 k ++ s.extract k s.size = s := by
  rw [ByteArray.extract_append_extract]; simp [Nat.min_eq_left (Nat.zero_le k), Nat.max_eq_right h]
theorem append_left_inj' {a b c : ByteArray} (h : a ++ b = a ++ c) : b = c := by
  have h1 : (a ++ b).data.toList = (a ++ c).data.toList := by rw [h]
  simp at h1
  cases b; cases c; congr 1
theorem seal_test (s : ByteArray) (hs0 : s.size ≤ 8000) (h : 4 ≤ s.size) :
    ((sealB (s.extract 0 (s.size - 4))).toList == s.toList) = ((four (crcOf 0 (s.extract 0 (s.size - 4)))).toList == (s.extract (s.size - 4) s.size).toList) := by
  have e1 : sealB (s.extract 0 (s.size - 4)) = s.extract 0 (s.size - 4) ++ four (crcOf 0 (s.extract 0 (s.size - 4))) := if_neg (by simp; omega)
  have e2 := cut_join s (s.size - 4) (by omega)
  rw [e1, Bool.eq_iff_iff, beq_iff_eq, beq_iff_eq]
  constructor
  · intro h1
    have h2 := tl_inj h1
    rw [← append_left_inj' (h2.trans e2.symm)]
  · intro h1
    rw [tl_inj h1, e2]
set_option maxHeartbeats 400000 in
theorem implUnseal_low (s : ByteArray) (w : World) (h : s.size < 4) :
    Calls Try.prog 8 #[.string s] w fun e w' => e = .returned (.agg #[.string ⟨#[]⟩, .int .i64 0, .int .i64 4]) ∧ Below w.heap.size w w' := by
  go_enter Try.func8, Try.ntmps8
  go_wp2
  exact bodyPost_ret (v := .agg #[.string ⟨#[]⟩, .int .i64 0, .int .i64 4]) (by simp [results, Try.results8, go_sem]) rfl ⟨rfl, (Below.refl _ _).alloc (Nat.le_refl _) _⟩

def unsealT (s : ByteArray) : ByteArray := if 8000 < s.size then ⟨#[]⟩ else if s.size < 4 then ⟨#[]⟩ else if ((sealB (s.extract 0 (s.size - 4))).toList == s.toList) then s.extract 0 (s.size - 4) else ⟨#[]⟩
def unsealC (s : ByteArray) : Int := if 8000 < s.size then 2 else if s.size < 4 then 4 else if ((sealB (s.extract 0 (s.size - 4))).toList == s.toList) then 0 else 5
theorem implUnseal_any (s : ByteArray) (w : World) (hs0 : s.size ≤ maxLen) :
    Calls Try.prog 8 #[.string s] w fun e w' => e = .returned (.agg #[.string (unsealT s), .int .i64 0, .int .i64 (unsealC s)]) ∧ Below w.heap.size w w' := by
  unfold unsealT unsealC
  by_cases h1 : 8000 < s.size
  · rw [if_pos h1, if_pos h1]; exact implUnseal_big s w hs0 h1
  by_cases h2 : s.size < 4
  · rw [if_neg h1, if_neg h1, if_pos h2, if_pos h2]; exact implUnseal_low s w h2
  rw [if_neg h1, if_neg h1, if_neg h2, if_neg h2]
  cases hq : ((sealB (s.extract 0 (s.size - 4))).toList == s.toList)
  · rw [if_neg (by simp), if_neg (by simp)]; exact implUnseal_bad s w (by omega) (by omega) hq
  · rw [if_pos rfl, if_pos rfl]; exact implUnseal_good s w (by omega) (by omega) hq
end Go.Proofs.Ythmobogbaijndaa
