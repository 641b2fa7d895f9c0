/- The four bytes of a CRC, in both ways. -/
import Derived.Test.YtnhehdobpibgkaaGreatDoorRows
import Derived.WalkKit
import Derived.WalkSpells
import Derived.WalkLawsBesides
import Derived.Test.YtnhehdobpibgkaaGreatDoorBun0
import Derived.Test.YtnhehdobpibgkaaGreatDoorBun5
import Derived.Test.YtnhehdobpibgkaaGreatDoorJoinZq
import Derived.Deep.RegionWith
namespace Go.Proofs.YtnhehdobpibgkaaGreatDoor
open Go.RowKit

def four (c : Nat) : ByteArray := ⟨#[UInt8.ofNat c, UInt8.ofNat (c / 256), UInt8.ofNat (c / 65536), UInt8.ofNat (c / 16777216)]⟩

theorem four_conv (c : Nat) (hc : c < 4294967296) (t : TypeId) (w : World) :
    (convert 80 9 (.slice (some ⟨w.heap.size, 0, none⟩) 4 4)).run Tryz.prog (w.alloc (.cells #[.int .u8 ((c : Int) % 256), .int .u8 ((c : Int) / 256 % 256), .int .u8 ((c : Int) / 65536 % 256), .int .u8 ((c : Int) / 16777216)] t)) =
      .ok (.string (four c)) (w.alloc (.cells #[.int .u8 ((c : Int) % 256), .int .u8 ((c : Int) / 256 % 256), .int .u8 ((c : Int) / 65536 % 256), .int .u8 ((c : Int) / 16777216)] t)) := by
  have h := run_convert_bytes_arg (P := Tryz.prog) (w.alloc (.cells #[.int .u8 ((c : Int) % 256), .int .u8 ((c : Int) / 256 % 256), .int .u8 ((c : Int) / 65536 % 256), .int .u8 ((c : Int) / 16777216)] t)) 80 5 Tryz.underlying80 Tryz.underlying5 w.heap.size 0 4 4 [(c : Int) % 256, (c : Int) / 256 % 256, (c : Int) / 65536 % 256, (c : Int) / 16777216] rfl (fun i hi => ?_) 9 Tryz.underlying9
  · rw [h]
    have e : strOfNums [(c : Int) % 256, (c : Int) / 256 % 256, (c : Int) / 65536 % 256, (c : Int) / 16777216] = four c := by
      have e1 : ((c : Int) % 256).toNat = c % 256 := by omega
      have e2 : ((c : Int) / 256 % 256).toNat = c / 256 % 256 := by omega
      have e3 : ((c : Int) / 65536 % 256).toNat = c / 65536 % 256 := by omega
      have e4 : ((c : Int) / 16777216).toNat = c / 16777216 := by omega
      simp only [strOfNums, four, List.map_cons, List.map_nil, e1, e2, e3, e4]
      have m : ∀ x : Nat, UInt8.ofNat (x % 256) = UInt8.ofNat x := fun x => by
        apply UInt8.toNat_inj.1; simp
      rw [m, m, m]
    rw [e]
  · match i, hi with
    | 0, _ => simp
    | 1, _ => simp
    | 2, _ => simp
    | 3, _ => simp
theorem four_size (c : Nat) : (four c).size = 4 := rfl

set_option maxHeartbeats 400000 in
theorem l01Four_any (c : Nat) (w : World) (hc : c < 4294967296) :
    Calls Tryz.prog 60 #[.int .i64 (c : Int)] w fun e w' => e = .returned (.string (four c)) ∧ Below w.heap.size w w' := by
  have hcv := four_conv c hc 5 w
  go_enter Tryz.func60, Tryz.ntmps60
  go_wp2
  go_ret
  exact ⟨rfl, (Below.refl _ _).alloc (Nat.le_refl _) _⟩

set_option maxHeartbeats 400000 in
theorem crcText_any (c : Nat) (w : World) (hc : c < 4294967296) :
    Calls Tryz.prog 73 #[.int .i64 (c : Int)] w fun e w' => e = .returned (.string (four c)) ∧ Below w.heap.size w w' := by
  have hcv := four_conv c hc 116 w
  go_enter Tryz.func73, Tryz.ntmps73
  go_wp2
  refine wp_loop_rounds 5 ?_
  rw [rounds_succ]
  go_wp2
  rw [rounds_succ]
  go_wp2
  rw [rounds_succ]
  go_wp2
  rw [rounds_succ]
  go_wp2
  rw [rounds_succ]
  go_wp2
  go_ret
  exact ⟨rfl, (Below.refl _ _).alloc (Nat.le_refl _) _⟩
end Go.Proofs.YtnhehdobpibgkaaGreatDoor
namespace Go.Proofs.YtnhehdobpibgkaaGreatDoor
open Go.RowKit

def sealB (s : ByteArray) : ByteArray := if 7996 < s.size then ⟨#[]⟩ else s ++ four (crcOf 0 s)

set_option maxHeartbeats 400000 in
theorem specSeal_any (s : ByteArray) (w : World) (hs0 : s.size ≤ maxLen) :
    Calls Tryz.prog 51 #[.string s] w fun e w' => e = .returned (.string (sealB s)) ∧ Below w.heap.size w w' := by
  unfold maxLen at hs0
  by_cases h1 : 7996 < s.size
  · have HI : Hid (sealB s = _) := if_pos h1
    go_enter Tryz.func51, Tryz.ntmps51
    go_wp2
    go_ret
    exact ⟨ret_str HI.out.symm, Below.refl _ _⟩
  · have HI : Hid (sealB s = _) := if_neg h1
    have hs : s.size ≤ 8000 := by omega
    have hc := crcOf_lt 0 s (by omega)
    have h4 := four_size (crcOf 0 s)
    go_enter Tryz.func51, Tryz.ntmps51
    go_wp2_with fail
    refine (l01Crc_any 0 s _ (by omega) hs).mono ?_
    rintro e w' ⟨rfl, rfl⟩
    go_wp2_with fail
    refine (l01Four_any (crcOf 0 s) _ hc).mono ?_
    rintro e w1 ⟨rfl, hb⟩
    go_wp2
    go_ret
    exact ⟨ret_str HI.out.symm, hb⟩
set_option maxHeartbeats 400000 in
theorem implSeal_any (s : ByteArray) (w : World) (hs0 : s.size ≤ maxLen) :
    Calls Tryz.prog 57 #[.string s] w fun e w' => e = .returned (.string (sealB s)) ∧ Below w.heap.size w w' := by
  have hs1 := hs0
  unfold maxLen at hs0
  by_cases h1 : 7996 < s.size
  · have HI : Hid (sealB s = _) := if_pos h1
    go_enter Tryz.func57, Tryz.ntmps57
    go_wp2
    go_ret
    exact ⟨ret_str HI.out.symm, Below.refl _ _⟩
  · have HI : Hid (sealB s = _) := if_neg h1
    have hs : s.size ≤ 8000 := by omega
    have hc := crcOf_lt 0 s (by omega)
    have h4 := four_size (crcOf 0 s)
    have HJ : Hid (crcI s = (crcOf 0 s : Nat)) := if_neg (by omega)
    go_enter Tryz.func57, Tryz.ntmps57
    go_wp2_with fail
    refine (implCrc_any s _ hs1).mono ?_
    rintro e w' ⟨rfl, rfl⟩
    rw [HJ.out]
    go_wp2_with fail
    refine (crcText_any (crcOf 0 s) _ hc).mono ?_
    rintro e w1 ⟨rfl, hb⟩
    go_wp2_with fail
    refine (join_two s (four (crcOf 0 s)) _ (by omega)).mono ?_
    rintro e w2 ⟨rfl, hb2⟩
    go_wp2
    go_ret
    exact ⟨ret_str HI.out.symm, hb.trans (hb2.mono hb.size)⟩
end Go.Proofs.YtnhehdobpibgkaaGreatDoor
namespace Go.Proofs.YtnhehdobpibgkaaGreatDoor
open Go.RowKit

set_option maxHeartbeats 400000 in
theorem implUnseal_big (s : ByteArray) (w : World) (hs0 : s.size ≤ maxLen) (h : 8000 < s.size) :
    Calls Tryz.prog 47 #[.string s] w fun e w' => e = .returned (.agg #[.string ⟨#[]⟩, .int .i64 0, .int .i64 2]) ∧ Below w.heap.size w w' := by
  unfold maxLen at hs0
  go_enter Tryz.func47, Tryz.ntmps47
  go_wp2
  exact bodyPost_ret (v := .agg #[.string ⟨#[]⟩, .int .i64 0, .int .i64 2]) (by simp [results, Tryz.results47, go_sem]) rfl ⟨rfl, (Below.refl _ _).alloc (Nat.le_refl _) _⟩

set_option maxHeartbeats 400000 in
theorem implUnseal_bad (s : ByteArray) (w : World) (hs0 : s.size ≤ 8000) (h : 4 ≤ s.size) (hq : ((sealB (s.extract 0 (s.size - 4))).toList == s.toList) = false) :
    Calls Tryz.prog 47 #[.string s] w fun e w' => e = .returned (.agg #[.string ⟨#[]⟩, .int .i64 0, .int .i64 5]) ∧ Below w.heap.size w w' := by
  have hl : (s.extract 0 (s.size - 4)).size ≤ maxLen := by simp [maxLen]; omega
  go_enter Tryz.func47, Tryz.ntmps47
  go_wp2_with fail
  refine (implSeal_any _ _ hl).mono ?_
  rintro e w1 ⟨rfl, hb1⟩
  obtain ⟨hc1, hf1⟩ := bcell hb1
  have hz1 := hb1.size
  simp at hz1
  go_wp2
  refine bodyPost_ret (v := .agg #[.string ⟨#[]⟩, .int .i64 0, .int .i64 5]) (by simp [results, Tryz.results47, go_sem, hc1]) rfl ⟨rfl, ?_⟩
  exact (((((Below.refl _ _).alloc (Nat.le_refl _) _).trans (hb1.mono (by simp))).setCell (by simp) _).setCell (by simp) _).setCell (by simp) _
set_option maxHeartbeats 400000 in
theorem implUnseal_good (s : ByteArray) (w : World) (hs0 : s.size ≤ 8000) (h : 4 ≤ s.size) (hq : ((sealB (s.extract 0 (s.size - 4))).toList == s.toList) = true) :
    Calls Tryz.prog 47 #[.string s] w fun e w' => e = .returned (.agg #[.string (s.extract 0 (s.size - 4)), .int .i64 0, .int .i64 0]) ∧ Below w.heap.size w w' := by
  have hl : (s.extract 0 (s.size - 4)).size ≤ maxLen := by simp [maxLen]; omega
  have hl2 : (s.extract 0 (s.size - 4)).size ≤ 1000000 := by simp; omega
  go_enter Tryz.func47, Tryz.ntmps47
  go_wp2_with fail
  refine (implSeal_any _ _ hl).mono ?_
  rintro e w1 ⟨rfl, hb1⟩
  obtain ⟨hc1, hf1⟩ := bcell hb1
  have hz1 := hb1.size
  simp at hz1
  go_wp2_with fail
  refine (join_one (s.extract 0 (s.size - 4)) w1 hl2).mono ?_
  rintro e w2 ⟨rfl, hb2⟩
  obtain ⟨⟨c0, c1, c2⟩, ⟨f0, f1, f2⟩, hz⟩ := keep3 (hb1.trans (hb2.mono (by simp; omega)))
  have HB : Hid (_) := ((Below.refl w.heap.size w).alloc (Nat.le_refl _) _).trans ((hb1.mono (by simp)).trans (hb2.mono (by omega)))
  clear hc1 hf1 hz1 hb1 hb2
  go_wp2
  refine bodyPost_ret (v := .agg #[.string (s.extract 0 (s.size - 4)), .int .i64 0, .int .i64 0]) (by simp [results, Tryz.results47, go_sem, c0, c1, c2]) rfl ⟨rfl, ?_⟩
  exact ((HB.out.setCell (by simp) _).setCell (by simp) _).setCell (by simp) _
theorem tl_inj {a b : ByteArray} (h : a.toList = b.toList) : a = b := by
  rw [ByteArray.toList_eq, ByteArray.toList_eq] at h
  cases a; cases b; congr 1; exact Array.toList_inj.1 h
theorem cut_join (s : ByteArray) (k : Nat) (h : k ≤ s.size) : s.extract 0 k ++ s.extract k s.size = s := by
  rw [ByteArray.extract_append_extract]; simp [Nat.min_eq_left (Nat.zero_le k), Nat.max_eq_right h]
theorem append_left_inj' {a b c : ByteArray} (h : a ++ b = a ++ c) : b = c := by
  have h1 : (a ++ b).data.toList = (a ++ c).data.toList := by rw [h]
  simp at h1
  cases b; cases c; congr 1
theorem seal_test (s : ByteArray) (hs0 : s.size ≤ 8000) (h : 4 ≤ s.size) :
    ((sealB (s.extract 0 (s.size - 4))).toList == s.toList) = ((four (crcOf 0 (s.extract 0 (s.size - 4)))).toList == (s.extract (s.size - 4) s.size).toList) := by
  have e1 : sealB (s.extract 0 (s.size - 4)) = s.extract 0 (s.size - 4) ++ four (crcOf 0 (s.extract 0 (s.size - 4))) := if_neg (by simp; omega)
  have e2 := cut_join s (s.size - 4) (by omega)
  rw [e1, Bool.eq_iff_iff, beq_iff_eq, beq_iff_eq]
  constructor
  · intro h1
    have h2 := tl_inj h1
    rw [← append_left_inj' (h2.trans e2.symm)]
  · intro h1
    rw [tl_inj h1, e2]
set_option maxHeartbeats 400000 in
theorem implUnseal_low (s : ByteArray) (w : World) (h : s.size < 4) :
    Calls Tryz.prog 47 #[.string s] w fun e w' => e = .returned (.agg #[.string ⟨#[]⟩, .int .i64 0, .int .i64 4]) ∧ Below w.heap.size w w' := by
  go_enter Tryz.func47, Tryz.ntmps47
  go_wp2
  exact bodyPost_ret (v := .agg #[.string ⟨#[]⟩, .int .i64 0, .int .i64 4]) (by simp [results, Tryz.results47, go_sem]) rfl ⟨rfl, (Below.refl _ _).alloc (Nat.le_refl _) _⟩

def unsealT (s : ByteArray) : ByteArray := if 8000 < s.size then ⟨#[]⟩ else if s.size < 4 then ⟨#[]⟩ else if ((sealB (s.extract 0 (s.size - 4))).toList == s.toList) then s.extract 0 (s.size - 4) else ⟨#[]⟩
def unsealC (s : ByteArray) : Int := if 8000 < s.size then 2 else if s.size < 4 then 4 else if ((sealB (s.extract 0 (s.size - 4))).toList == s.toList) then 0 else 5
theorem implUnseal_any (s : ByteArray) (w : World) (hs0 : s.size ≤ maxLen) :
    Calls Tryz.prog 47 #[.string s] w fun e w' => e = .returned (.agg #[.string (unsealT s), .int .i64 0, .int .i64 (unsealC s)]) ∧ Below w.heap.size w w' := by
  unfold unsealT unsealC
  by_cases h1 : 8000 < s.size
  · rw [if_pos h1, if_pos h1]; exact implUnseal_big s w hs0 h1
  by_cases h2 : s.size < 4
  · rw [if_neg h1, if_neg h1, if_pos h2, if_pos h2]; exact implUnseal_low s w h2
  rw [if_neg h1, if_neg h1, if_neg h2, if_neg h2]
  cases hq : ((sealB (s.extract 0 (s.size - 4))).toList == s.toList)
  · rw [if_neg (by simp), if_neg (by simp)]; exact implUnseal_bad s w (by omega) (by omega) hq
  · rw [if_pos rfl, if_pos rfl]; exact implUnseal_good s w (by omega) (by omega) hq
end Go.Proofs.YtnhehdobpibgkaaGreatDoor
