/- Instructions: InsnRight of the program. -/
import Derived.Test.YtdokiccfjbieiaeDoorRows
import Derived.WalkKit
import Derived.WalkSpells
import Derived.WalkLawsBesides
import Derived.Outline
import Derived.Test.YtdokiccfjbieiaeDoorBase
import Derived.Test.YtdokiccfjbieiaeDoorIsa3
import Derived.Test.YtdokiccfjbieiaeDoorIsaJ
import Derived.Test.YtdokiccfjbieiaeDoorIsaM
namespace Go.Proofs.YtdokiccfjbieiaeDoor
open Go.RowKit

set_option maxRecDepth 100000 in
set_option maxHeartbeats 1600000 in
theorem implRight_any (op : ByteArray) (b : Bool) (m r n : Int) (l : Bool) (m2 r2 n2 : Int) (l2 : Bool) (j : Int) (w : World) (hT : Tabs w) :
    Calls Tryd.prog 11 #[.agg #[.string op, .bool b, .int .i64 m, .int .i64 r, .int .i64 n, .bool l, .int .i64 m2, .int .i64 r2, .int .i64 n2, .bool l2, .int .i64 j]] w fun e w' => e = .returned (.bool (insnB op b m r n l m2 r2 n2 l2 j)) ∧ Below w.heap.size w w' := by
  have HF : Hid (_ = _) := find_kinds op
  have HK : Hid (_ = _) := insn_kinds op b m r n l m2 r2 n2 l2 j
  have HT : Hid (∀ o, Tabs (w.alloc o)) := fun o => hT.alloc o
  clear hT
  go_enter Tryd.func11, Tryd.ntmps11
  go_wp2_with fail
  refine (findOp_any op _ (HT.out _)).mono ?_
  rintro e x1 ⟨rfl, hb⟩
  have HI1 : Hid (_ = _) := heap_keep (heap_alloc_new w _) hb
  have HB1 : Hid (Below w.heap.size w x1) := Below.trans ((Below.refl _ _).alloc (Nat.le_refl _) _) (hb.mono (by simp))
  have HT1 : Hid (∀ o, Tabs (x1.alloc o)) := fun o => ((HT.out _).below hb).alloc o
  clear hb
  have hz := heap_lt HI1.out
  obtain ⟨c0, c1, c2, c3, c4, c5, c6, c7, c8, c9, c10⟩ := cells11 HI1.out
  rw [HF.out]
  by_cases h1 : 0 ≤ atI twosL op
  · rw [if_pos h1]
    have HR : Hid (_ = _) := HK.out.trans (if_pos h1)
    generalize atI twosL op = k1 at *
    go_wp2_with fail
    refine (rightTwo_any op b m r n l m2 r2 n2 l2 j _ (HT1.out _)).mono ?_
    rintro e x2 ⟨rfl, hb⟩
    go_wp2
    go_ret
    exact ⟨ret_bool HR.out.symm, (HB1.out.alloc HB1.out.size _).trans (hb.mono (by have := HB1.out.size; simp; omega))⟩
  · rw [if_neg h1]
    replace HK : Hid (_ = _) := HK.out.trans (if_neg h1)
    clear h1
    by_cases h3 : 0 ≤ atI onesL op
    · rw [if_pos h3]
      have HR : Hid (_ = _) := HK.out.trans (if_pos h3)
      generalize atI onesL op = k3 at *
      go_wp2_with fail
      refine (rightOne_any op b m r n l m2 r2 n2 l2 j _ (HT1.out _)).mono ?_
      rintro e x2 ⟨rfl, hb⟩
      go_wp2
      go_ret
      exact ⟨ret_bool HR.out.symm, (HB1.out.alloc HB1.out.size _).trans (hb.mono (by have := HB1.out.size; simp; omega))⟩
    · rw [if_neg h3]
      replace HK : Hid (_ = _) := HK.out.trans (if_neg h3)
      clear h3
      by_cases h2 : 0 ≤ atI jumpsL op
      · rw [if_pos h2]
        have HR : Hid (_ = _) := HK.out.trans (if_pos h2)
        generalize atI jumpsL op = k2 at *
        go_wp2_with fail
        refine (rightJump_any op b m r n l m2 r2 n2 l2 j _).mono ?_
        rintro e x2 ⟨rfl, hb⟩
        go_wp2
        go_ret
        exact ⟨ret_bool HR.out.symm, (HB1.out.alloc HB1.out.size _).trans (hb.mono (by have := HB1.out.size; simp; omega))⟩
      · rw [if_neg h2]
        have HR : Hid (_ = _) := HK.out.trans (if_neg h2)
        clear h2
        go_wp2
        go_ret
        exact ⟨ret_bool HR.out.symm, HB1.out.alloc HB1.out.size _⟩
end Go.Proofs.YtdokiccfjbieiaeDoor
