/- Instructions: Encode of the specification, all kinds together. -/
import Derived.Test.YtdokiccfjbieiaaDoorRows
import Derived.WalkKit
import Derived.WalkSpells
import Derived.WalkLawsBesides
import Derived.Outline
import Derived.Test.YtdokiccfjbieiaaDoorBun26
import Derived.Test.YtdokiccfjbieiaaDoorIsaE7X
import Derived.Test.YtdokiccfjbieiaaDoorBun34
import Derived.Test.YtdokiccfjbieiaaDoorIsaN3aX
import Derived.Test.YtdokiccfjbieiaaDoorIsaN3bX
import Derived.Test.YtdokiccfjbieiaaDoorIsaN3cX
import Derived.Test.YtdokiccfjbieiaaDoorIsaN3dX
namespace Go.Proofs.YtdokiccfjbieiaaDoor
open Go.RowKit

theorem twos_jumps {op : ByteArray} (h : 0 ≤ atI twosL op) : atI jumpsL op = -1 := by
  have := atI_mem h
  simp only [twosL, List.mem_cons, List.not_mem_nil, or_false] at this
  rcases this with rfl | rfl | rfl | rfl | rfl | rfl | rfl | rfl | rfl | rfl | rfl | rfl <;> decide +kernel
theorem l02Encode_any (op : ByteArray) (b : Bool) (m r n : Int) (l : Bool) (m2 r2 n2 : Int) (l2 : Bool) (j : Int) (w : World) (hN : insnB op b m r n l m2 r2 n2 l2 j = true) :
    Calls Tryd.prog 41 #[.agg #[.string op, .bool b, .int .i64 m, .int .i64 r, .int .i64 n, .bool l, .int .i64 m2, .int .i64 r2, .int .i64 n2, .bool l2, .int .i64 j]] w fun e w' => ∃ v, e = .returned v ∧ OwnI w' w.heap.size v (encI op b m r n l m2 r2 n2 l2 j) ∧ Below w.heap.size w w' := by
  have hK := (insn_kinds op b m r n l m2 r2 n2 l2 j).symm.trans hN
  unfold encI
  by_cases hr : op = ⟨#[114, 101, 116, 105]⟩
  · obtain ⟨e1, e2, e3⟩ := reti_at hr
    rw [if_neg (by omega), if_pos (by omega)] at hK ⊢
    have hK' := hK
    unfold oneB at hK'
    rw [if_pos hr] at hK'
    simp only [Bool.and_eq_true] at hK'
    obtain ⟨⟨⟨h1, h2⟩, h3⟩, h4⟩ := hK'
    obtain ⟨rfl, rfl, rfl, rfl⟩ := zero_is h2
    obtain ⟨rfl, rfl, rfl, rfl⟩ := zero_is h3
    obtain rfl : b = false := by simpa using h1
    have e : wordsI (4096 + 128 * atI onesL op + markI false + 16 * (asI 0 0 0 false).1 + (asI 0 0 0 false).2.1) 0 0 0 false 0 0 0 false = [4864] := by rw [e1]; rfl
    rw [e]
    exact specEnc_reti op false 0 0 0 false 0 0 0 false j w (by rw [text_is]; simpa using hr)
  have hr' := text_no [114, 101, 116, 105] hr
  by_cases h1 : 0 ≤ atI twosL op
  · rw [if_pos h1] at hK ⊢
    simp only [Bool.and_eq_true] at hK
    obtain ⟨⟨k1, k2⟩, _⟩ := hK
    obtain ⟨⟨a0, a1⟩, ⟨a2, a3⟩, a4, a5⟩ := src_as k1
    obtain ⟨⟨b0, b1⟩, ⟨b2, b3⟩, b4, b5⟩ := dst_as k2
    have hlt := atI_lt twosL op
    have hl : twosL.length = 12 := rfl
    have n3 : ¬ 0 ≤ atI onesL op := fun h => by have := (ones_jumps h).2; omega
    have n2' : ¬ 0 ≤ atI jumpsL op := fun h => by have := twos_jumps h1; omega
    unfold wordsI
    cases ht : (asI m r n l).2.2 <;> cases b
    · exact specEnc_two_00 _ _ _ op m r n l m2 r2 n2 l2 j _ _ _ _ _ w rfl rfl rfl hr' n2' n3 h1 (by omega) a0 a1 rfl rfl ht a2 a3 a4 a5 b0 b1 rfl rfl rfl b2 b3 b4 b5
    · exact specEnc_two_01 _ _ _ op m r n l m2 r2 n2 l2 j _ _ _ _ _ w rfl rfl rfl hr' n2' n3 h1 (by omega) a0 a1 rfl rfl ht a2 a3 a4 a5 b0 b1 rfl rfl rfl b2 b3 b4 b5
    · exact specEnc_two_10 _ _ _ op m r n l m2 r2 n2 l2 j _ _ _ _ _ w rfl rfl rfl hr' n2' n3 h1 (by omega) a0 a1 rfl rfl ht a2 a3 a4 a5 b0 b1 rfl rfl rfl b2 b3 b4 b5
    · exact specEnc_two_11 _ _ _ op m r n l m2 r2 n2 l2 j _ _ _ _ _ w rfl rfl rfl hr' n2' n3 h1 (by omega) a0 a1 rfl rfl ht a2 a3 a4 a5 b0 b1 rfl rfl rfl b2 b3 b4 b5
  rw [if_neg h1] at hK ⊢
  by_cases h3 : 0 ≤ atI onesL op
  · rw [if_pos h3] at hK ⊢
    obtain ⟨⟨⟨a0, a1⟩, ⟨a2, a3⟩, a4, a5⟩, rfl, rfl, rfl, rfl, rfl⟩ := one_parts hK
    have hlt := atI_lt onesL op
    have hl : onesL.length = 7 := rfl
    have n2' : ¬ 0 ≤ atI jumpsL op := by have := (ones_jumps h3).1; omega
    have e : wordsI (4096 + 128 * atI onesL op + markI b + 16 * (asI m r n l).1 + (asI m r n l).2.1) m r n l 0 0 0 false = (4096 + 128 * atI onesL op + markI b + 16 * (asI m r n l).1 + (asI m r n l).2.1) :: optI (asI m r n l).2.2 n := by simp [wordsI, optI, asI]
    rw [e]
    exact specEnc_one _ _ op b m r n l 0 0 0 false 0 _ _ _ w rfl rfl hr' n2' h3 (by omega) a0 a1 rfl rfl rfl a2 a3 a4 a5
  rw [if_neg h3] at hK ⊢
  by_cases h2 : 0 ≤ atI jumpsL op
  · rw [if_pos h2] at hK
    simp only [Bool.and_eq_true] at hK
    obtain ⟨⟨⟨_, k1⟩, k2⟩, k3⟩ := hK
    obtain ⟨rfl, rfl, rfl, rfl⟩ := zero_is k1
    obtain ⟨rfl, rfl, rfl, rfl⟩ := zero_is k2
    have hj := isB_iff.1 k3
    have hlt := atI_lt jumpsL op
    have hl : jumpsL.length = 8 := rfl
    have e : wordsI (8192 + 1024 * atI jumpsL op + j % 1024) 0 0 0 false 0 0 0 false = [8192 + 1024 * atI jumpsL op + j % 1024] := by simp [wordsI, optI, asI]
    rw [e]
    exact specEnc_jump _ op b 0 0 0 false 0 0 0 false j w rfl hr' h2 (by omega) hj.1 hj.2
  · rw [if_neg h2] at hK; cases hK
theorem own_empty {w x : World} {g : Nat} (h : Below w.heap.size w x) (hg : x.heap.size = g) : OwnI (x.alloc (.cells #[] 2)) w.heap.size (.slice (some ⟨g, 0, none⟩) 0 0) [] := by
  subst hg
  exact OwnI.mk (L := []) h.size (heap_alloc_new x _) (by simp) (by simp [maxLen]) rfl (fun i hi => by simp at hi)
set_option maxRecDepth 100000 in
set_option maxHeartbeats 1600000 in
theorem specEncode_any (op : ByteArray) (b : Bool) (m r n : Int) (l : Bool) (m2 r2 n2 : Int) (l2 : Bool) (j : Int) (w : World) :
    Calls Tryd.prog 16 #[.agg #[.string op, .bool b, .int .i64 m, .int .i64 r, .int .i64 n, .bool l, .int .i64 m2, .int .i64 r2, .int .i64 n2, .bool l2, .int .i64 j]] w fun e w' => ∃ v, e = .returned v ∧ OwnI w' w.heap.size v (allI op b m r n l m2 r2 n2 l2 j) ∧ Below w.heap.size w w' := by
  unfold allI
  cases hN : insnB op b m r n l m2 r2 n2 l2 j
  · have HN : Hid (_ = _) := hN
    clear hN
    go_enter Tryd.func16, Tryd.ntmps16
    go_wp2_with fail
    refine (specRight_any op b m r n l m2 r2 n2 l2 j _).mono ?_
    rintro e x1 ⟨rfl, hb⟩
    rw [HN.out]
    have HB1 : Hid (Below w.heap.size w x1) := below_call (below_new _ _) hb
    clear hb
    go_wp2
    go_ret
    exact ⟨_, rfl, own_empty HB1.out rfl, below_more HB1.out _⟩
  · have HN : Hid (_ = _) := hN
    clear hN
    go_enter Tryd.func16, Tryd.ntmps16
    go_wp2_with fail
    refine (specRight_any op b m r n l m2 r2 n2 l2 j _).mono ?_
    rintro e x1 ⟨rfl, hb⟩
    rw [HN.out]
    have HI1 : Hid (_ = _) := heap_keep (heap_alloc_new w _) hb
    have HB1 : Hid (Below w.heap.size w x1) := below_call (below_new _ _) hb
    clear hb
    obtain ⟨c0, c1, c2, c3, c4, c5, c6, c7, c8, c9, c10⟩ := cells11 HI1.out
    go_wp2_with fail
    refine (l02Encode_any op b m r n l m2 r2 n2 l2 j _ HN.out).mono ?_
    rintro e x2 ⟨v, rfl, ho, hb⟩
    go_wp2
    go_ret
    exact ⟨_, rfl, ho.low HB1.out.size, below_call HB1.out hb⟩
end Go.Proofs.YtdokiccfjbieiaaDoor
