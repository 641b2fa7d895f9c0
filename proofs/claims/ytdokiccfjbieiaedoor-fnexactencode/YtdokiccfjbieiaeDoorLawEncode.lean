/- The walk of FnExactEncode. -/
import Derived.Test.YtdokiccfjbieiaeDoorRows
import Derived.WalkKit
import Derived.WalkSpells
import Derived.WalkLawsBesides
import Derived.Outline
import Derived.Test.YtdokiccfjbieiaeDoorBase
import Derived.Test.YtdokiccfjbieiaeDoorRes
import Derived.Test.YtdokiccfjbieiaeDoorIsa3
import Derived.Test.YtdokiccfjbieiaeDoorOwn
import Derived.Test.YtdokiccfjbieiaeDoorIsaN4
import Derived.Test.YtdokiccfjbieiaeDoorToInsn
namespace Go.Proofs.YtdokiccfjbieiaeDoor
open Go.RowKit

theorem optI_len (b : Bool) (n : Int) : (optI b n).length ≤ 1 := by cases b <;> simp [optI]
theorem words_len (f m r n : Int) (l : Bool) (m2 r2 n2 : Int) (l2 : Bool) : (wordsI f m r n l m2 r2 n2 l2).length ≤ 3 := by
  have h1 := optI_len (asI m r n l).2.2 n
  have h2 := optI_len (asI m2 r2 n2 l2).2.2 n2
  simp only [wordsI, List.length_cons, List.length_append]; omega
theorem all_len (op : ByteArray) (b : Bool) (m r n : Int) (l : Bool) (m2 r2 n2 : Int) (l2 : Bool) (j : Int) : (allI op b m r n l m2 r2 n2 l2 j).length ≤ 3 := by
  unfold allI encI
  split
  · split
    · exact words_len _ _ _ _ _ _ _ _ _
    · split <;> exact words_len _ _ _ _ _ _ _ _ _
  · simp
set_option maxRecDepth 100000 in
set_option maxHeartbeats 1600000 in
theorem lawEncode_walk (op : ByteArray) (b : Bool) (m r n : Int) (l : Bool) (m2 r2 n2 : Int) (l2 : Bool) (j : Int) (w : World) (w0 : op.size ≤ maxLen) (hT : Tabs w) :
    Calls Tryd.prog 4 #[.agg #[.string op, .bool b, .int .i64 m, .int .i64 r, .int .i64 n, .bool l, .int .i64 m2, .int .i64 r2, .int .i64 n2, .bool l2, .int .i64 j]] w fun e w' => e = .returned (.bool true) ∧ Below w.heap.size w w' := by
  have HT : Hid (_) := hT
  clear hT
  by_cases hbig : 1048576 < op.size
  · go_enter Tryd.func4, Tryd.ntmps4
    go_wp2_with fail
    refine (szInsn_any op _ _ _ _ _ _ _ _ _ _ 1048576 _ w0 (by omega) (by omega)).mono ?_
    rintro e x1 ⟨rfl, hb⟩
    rw [if_pos (by omega)]
    go_wp2
    go_ret
    exact ⟨rfl, below_call (below_new _ _) hb⟩
  · have hnb : ¬ ((1048576 : Int) - op.size < 0) := by omega
    obtain ⟨L, hLe⟩ : ∃ L, allI op b m r n l m2 r2 n2 l2 j = L := ⟨_, rfl⟩
    have hL : L.length ≤ 3 := hLe ▸ all_len op b m r n l m2 r2 n2 l2 j
    have HE : Hid (_ = _) := hLe
    clear hLe
    go_enter Tryd.func4, Tryd.ntmps4
    go_wp2_with fail
    refine (szInsn_any op _ _ _ _ _ _ _ _ _ _ 1048576 _ w0 (by omega) (by omega)).mono ?_
    rintro e x1 ⟨rfl, hb⟩
    rw [if_neg (by omega)]
    have HI1 : Hid (_ = _) := heap_keep (heap_alloc_new w _) hb
    have HB1 : Hid (Below w.heap.size w x1) := below_call (below_new _ _) hb
    clear hb
    obtain ⟨c0, c1, c2, c3, c4, c5, c6, c7, c8, c9, c10⟩ := cells11 HI1.out
    go_wp2_with fail
    refine (toInsn_any op b m r n l m2 r2 n2 l2 j _).mono ?_
    rintro e x2 ⟨rfl, hb⟩
    have HI2 : Hid (_ = _) := heap_keep HI1.out hb
    have HB2 : Hid (Below w.heap.size w x2) := below_call HB1.out hb
    clear hb c0 c1 c2 c3 c4 c5 c6 c7 c8 c9 c10
    obtain ⟨c0, c1, c2, c3, c4, c5, c6, c7, c8, c9, c10⟩ := cells11 HI2.out
    go_wp2_with fail
    refine (specEncode_any op b m r n l m2 r2 n2 l2 j _).mono ?_
    rintro e x3 ⟨v0, rfl, ho0, hb⟩
    have HO3 : Hid (OwnI x3 x2.heap.size v0 L) := HE.out ▸ ho0
    have HI3 : Hid (_ = _) := heap_keep HI2.out hb
    have HB3 : Hid (Below w.heap.size w x3) := below_call HB2.out hb
    clear hb c0 c1 c2 c3 c4 c5 c6 c7 c8 c9 c10 ho0
    obtain ⟨c0, c1, c2, c3, c4, c5, c6, c7, c8, c9, c10⟩ := cells11 HI3.out
    go_wp2_with fail
    refine (toInsn_any op b m r n l m2 r2 n2 l2 j _).mono ?_
    rintro e x4 ⟨rfl, hb⟩
    have HO4 : Hid (OwnI x4 x2.heap.size v0 L) := HO3.out.stays hb
    have HI4 : Hid (_ = _) := heap_keep HI3.out hb
    have HB4 : Hid (Below w.heap.size w x4) := below_call HB3.out hb
    clear hb c0 c1 c2 c3 c4 c5 c6 c7 c8 c9 c10
    go_wp2_with fail
    refine (implEncode_any op b m r n l m2 r2 n2 l2 j _ (HT.out.below HB4.out)).mono ?_
    rintro e x5 ⟨v1, rfl, ho1, hb⟩
    have HO5 : Hid (OwnI x5 x2.heap.size v0 L) := HO4.out.stays hb
    have HP5 : Hid (OwnI x5 x4.heap.size v1 L) := HE.out ▸ ho1
    have HI5 : Hid (_ = _) := heap_keep HI4.out hb
    have HB5 : Hid (Below w.heap.size w x5) := below_call HB4.out hb
    have HQ5 : Hid (Below x4.heap.size x4 x5) := hb
    clear hb ho1
    go_wp2_with fail
    refine (eqInt64S_any _ _ _ _ L L _ HP5.out HO5.out (by omega) (by omega)).mono ?_
    rintro e x6 ⟨rfl, hb⟩
    have HO6 : Hid (OwnI x6 x2.heap.size v0 L) := HO5.out.stays hb
    have HP6 : Hid (OwnI x6 x4.heap.size v1 L) := HP5.out.stays hb
    have HI6 : Hid (_ = _) := heap_keep HI5.out hb
    have HB6 : Hid (Below w.heap.size w x6) := below_call HB5.out hb
    have HQ6 : Hid (Below x4.heap.size x4 x6) := below_call HQ5.out hb
    clear hb
    rw [decide_eq_true rfl]
    go_wp2_with fail
    refine (markInt64S_any _ _ L 1 _ HP6.out (by omega) (by omega) (by omega)).mono ?_
    rintro e x7 ⟨rfl, ho, hb⟩
    have HP7 : Hid (OwnI x7 x4.heap.size v1 (marksI 1 L.length)) := ho
    have HQ7 : Hid (Below x4.heap.size x4 x7) := HQ6.out.trans hb
    have HO7 : Hid (OwnI x7 x2.heap.size v0 L) := HO4.out.stays HQ7.out
    have HI7 : Hid (_ = _) := heap_keep HI4.out HQ7.out
    have HB7 : Hid (Below w.heap.size w x7) := below_call HB4.out HQ7.out
    clear hb ho
    have hn0 : ¬ (1 + (L.length : Int) < 0) := by omega
    go_wp2_with fail
    refine (heldInt64S_any _ _ L.length 1 _ HP7.out (by omega) (by omega) (by omega)).mono ?_
    rintro e x8 ⟨rfl, rfl⟩
    obtain ⟨c0, c1, c2, c3, c4, c5, c6, c7, c8, c9, c10⟩ := cells11 HI7.out
    go_wp2_with fail
    refine (toInsn_any op b m r n l m2 r2 n2 l2 j _).mono ?_
    rintro e x9 ⟨rfl, hb⟩
    have HO9 : Hid (OwnI x9 x2.heap.size v0 L) := HO7.out.stays hb
    have HP9 : Hid (OwnI x9 x4.heap.size v1 (marksI 1 L.length)) := HP7.out.stays hb
    have HB9 : Hid (Below w.heap.size w x9) := below_call HB7.out hb
    clear hb c0 c1 c2 c3 c4 c5 c6 c7 c8 c9 c10
    go_wp2_with fail
    refine (implEncode_any op b m r n l m2 r2 n2 l2 j _ (HT.out.below HB9.out)).mono ?_
    rintro e x10 ⟨v2, rfl, ho2, hb⟩
    have HO10 : Hid (OwnI x10 x2.heap.size v0 L) := HO9.out.stays hb
    have HP10 : Hid (OwnI x10 x4.heap.size v1 (marksI 1 L.length)) := HP9.out.stays hb
    have HR10 : Hid (OwnI x10 x9.heap.size v2 L) := HE.out ▸ ho2
    have HB10 : Hid (Below w.heap.size w x10) := below_call HB9.out hb
    clear hb ho2
    go_wp2_with fail
    refine (eqInt64S_any _ _ _ _ L L _ HR10.out HO10.out (by omega) (by omega)).mono ?_
    rintro e x11 ⟨rfl, hb⟩
    rw [decide_eq_true rfl]
    have HP11 : Hid (OwnI x11 x4.heap.size v1 (marksI 1 L.length)) := HP10.out.stays hb
    have HB11 : Hid (Below w.heap.size w x11) := below_call HB10.out hb
    clear hb
    go_wp2_with fail
    refine (heldInt64S_any _ _ L.length 1 _ HP11.out (by omega) (by omega) (by omega)).mono ?_
    rintro e x12 ⟨rfl, rfl⟩
    go_wp2
    go_ret
    exact ⟨rfl, HB11.out⟩
end Go.Proofs.YtdokiccfjbieiaeDoor
