/- Instructions: Encode of the program, all kinds together. -/
import Derived.Test.YtodjccipfonaiaaGreatDoorRows
import Derived.WalkKit
import Derived.WalkSpells
import Derived.WalkLawsBesides
import Derived.Outline
import Derived.Test.YtodjccipfonaiaaGreatDoorBun7
import Derived.Test.YtodjccipfonaiaaGreatDoorBun9
import Derived.RegionTactic
import Derived.BigRegion
import Derived.Deep.RegionHeld3
import Derived.Test.YtodjccipfonaiaaGreatDoorBun0
import Derived.Test.YtodjccipfonaiaaGreatDoorBun5
import Derived.Test.YtodjccipfonaiaaGreatDoorBun8
namespace Go.Proofs.YtodjccipfonaiaaGreatDoor
open Go.RowKit

theorem isB_iff {n a c : Int} : isB n a c = true ↔ a ≤ n ∧ n ≤ c := by simp [isB]
theorem short_as (n : Int) (h : (shortI n).2.2 = true) : 0 ≤ (shortI n).1 ∧ (shortI n).1 ≤ 3 ∧ 0 ≤ (shortI n).2.1 ∧ (shortI n).2.1 ≤ 15 := by
  unfold shortI at h ⊢
  split
  · simp; omega
  · split
    · simp
    · split
      · simp
      · split
        · simp
        · simp_all
theorem src_as {m r n : Int} {l : Bool} (h : srcB m r n l = true) : (0 ≤ m ∧ m ≤ 5) ∧ (0 ≤ (asI m r n l).1 ∧ (asI m r n l).1 ≤ 3) ∧ 0 ≤ (asI m r n l).2.1 ∧ (asI m r n l).2.1 ≤ 15 := by
  unfold srcB at h
  by_cases h0 : m = 0
  · subst h0
    simp [isB_iff] at h
    simp [asI]; omega
  rw [if_neg h0] at h
  by_cases h1 : m = 1
  · subst h1
    simp [plainB, isB_iff] at h
    simp [asI]; omega
  rw [if_neg h1] at h
  by_cases h2 : m = 2
  · subst h2; simp [asI]
  rw [if_neg h2] at h
  by_cases h3 : m = 3
  · subst h3
    simp [plainB, isB_iff] at h
    simp [asI]; omega
  rw [if_neg h3] at h
  by_cases h4 : m = 4
  · subst h4
    simp [plainB, isB_iff] at h
    simp [asI]; omega
  rw [if_neg h4] at h
  by_cases h5 : m = 5
  · subst h5
    have := short_as n
    by_cases hs : (shortI n).2.2 = true
    · cases l
      · simp [asI, hs]; have := this hs; omega
      · simp [asI, hs]
    · simp [asI, hs]
  rw [if_neg h5] at h
  cases h
theorem dst_as {m r n : Int} {l : Bool} (h : dstB m r n l = true) : (0 ≤ m ∧ m ≤ 5) ∧ (0 ≤ (asI m r n l).1 ∧ (asI m r n l).1 ≤ 3) ∧ 0 ≤ (asI m r n l).2.1 ∧ (asI m r n l).2.1 ≤ 15 := by
  unfold dstB at h
  by_cases h0 : m = 0
  · subst h0
    simp [isB_iff] at h
    simp [asI]; omega
  rw [if_neg h0] at h
  by_cases h1 : m = 1 ∨ m = 2
  · rw [if_pos h1] at h; exact src_as h
  · rw [if_neg h1] at h; cases h
theorem zero_is {m r n : Int} {l : Bool} (h : zeroB m r n l = true) : m = 0 ∧ r = 0 ∧ n = 0 ∧ l = false := by
  simpa [zeroB, and_assoc] using h
theorem atF_lt (L : List ByteArray) (t : ByteArray) (i : Nat) : atF L t i < (i + L.length : Nat) := by
  induction L generalizing i with
  | nil => simp [atF]; omega
  | cons s L ih =>
    rw [atF_cons]
    split
    · simp only [List.length_cons]; omega
    · have := ih (i + 1); simp only [List.length_cons]; omega
theorem atI_lt (L : List ByteArray) (t : ByteArray) : atI L t < L.length := by have := atF_lt L t 0; simpa [atI] using this
/- The words of an Insn. -/
def encI (op : ByteArray) (b : Bool) (m r n : Int) (l : Bool) (m2 r2 n2 : Int) (l2 : Bool) (j : Int) : List Int :=
  if 0 ≤ atI twosL op then wordsI (4096 * (4 + atI twosL op) + 256 * (asI m r n l).2.1 + 128 * (asI m2 r2 n2 l2).1 + markI b + 16 * (asI m r n l).1 + (asI m2 r2 n2 l2).2.1) m r n l m2 r2 n2 l2
  else if 0 ≤ atI onesL op then wordsI (4096 + 128 * atI onesL op + markI b + 16 * (asI m r n l).1 + (asI m r n l).2.1) m r n l m2 r2 n2 l2
  else wordsI (8192 + 1024 * atI jumpsL op + j % 1024) m r n l m2 r2 n2 l2
def allI (op : ByteArray) (b : Bool) (m r n : Int) (l : Bool) (m2 r2 n2 : Int) (l2 : Bool) (j : Int) : List Int :=
  if insnB op b m r n l m2 r2 n2 l2 j then encI op b m r n l m2 r2 n2 l2 j else []
theorem one_parts {op : ByteArray} {b : Bool} {m r n : Int} {l : Bool} {m2 r2 n2 : Int} {l2 : Bool} {j : Int} (h : oneB op b m r n l m2 r2 n2 l2 j = true) : ((0 ≤ m ∧ m ≤ 5) ∧ (0 ≤ (asI m r n l).1 ∧ (asI m r n l).1 ≤ 3) ∧ 0 ≤ (asI m r n l).2.1 ∧ (asI m r n l).2.1 ≤ 15) ∧ m2 = 0 ∧ r2 = 0 ∧ n2 = 0 ∧ l2 = false ∧ j = 0 := by
  unfold oneB at h
  by_cases hr : op = ⟨#[114, 101, 116, 105]⟩
  · rw [if_pos hr] at h
    simp only [Bool.and_eq_true] at h
    obtain ⟨⟨⟨h1, h2⟩, h3⟩, h4⟩ := h
    obtain ⟨rfl, rfl, rfl, rfl⟩ := zero_is h2
    obtain ⟨rfl, rfl, rfl, rfl⟩ := zero_is h3
    simp at h4
    simp [asI, h4]
  · rw [if_neg hr] at h
    simp only [Bool.and_eq_true] at h
    obtain ⟨⟨⟨⟨h1, h2⟩, h3⟩, h4⟩, h5⟩ := h
    obtain ⟨rfl, rfl, rfl, rfl⟩ := zero_is h2
    simp at h3
    exact ⟨src_as h1, rfl, rfl, rfl, rfl, h3⟩
theorem implEnc_no (op : ByteArray) (b : Bool) (m r n : Int) (l : Bool) (m2 r2 n2 : Int) (l2 : Bool) (j : Int) (w : World) (HN : Hid (insnB op b m r n l m2 r2 n2 l2 j = false)) (hT : Tabs w) :
    Calls Tryz.prog 12 #[.agg #[.string op, .bool b, .int .i64 m, .int .i64 r, .int .i64 n, .bool l, .int .i64 m2, .int .i64 r2, .int .i64 n2, .bool l2, .int .i64 j]] w fun e w' => ∃ v, e = .returned v ∧ OwnI w' w.heap.size v [] ∧ Below w.heap.size w w' := by
  have HT : Hid (∀ o, Tabs (w.alloc o)) := fun o => hT.alloc o
  clear hT
  go_enter Tryz.func12, Tryz.ntmps12
  go_wp2_with fail
  refine (implRight_any op b m r n l m2 r2 n2 l2 j _ (HT.out _)).mono ?_
  rintro e x1 ⟨rfl, hb⟩
  rw [HN.out]
  go_wp2
  go_ret
  exact ⟨_, rfl, OwnI.nil _ _, below_call (below_new _ _) hb⟩
theorem implEncode_any (op : ByteArray) (b : Bool) (m r n : Int) (l : Bool) (m2 r2 n2 : Int) (l2 : Bool) (j : Int) (w : World) (hT : Tabs w) :
    Calls Tryz.prog 12 #[.agg #[.string op, .bool b, .int .i64 m, .int .i64 r, .int .i64 n, .bool l, .int .i64 m2, .int .i64 r2, .int .i64 n2, .bool l2, .int .i64 j]] w fun e w' => ∃ v, e = .returned v ∧ OwnI w' w.heap.size v (allI op b m r n l m2 r2 n2 l2 j) ∧ Below w.heap.size w w' := by
  unfold allI
  cases hN : insnB op b m r n l m2 r2 n2 l2 j
  · exact implEnc_no op b m r n l m2 r2 n2 l2 j w hN hT
  rw [if_pos rfl]
  have hK := (insn_kinds op b m r n l m2 r2 n2 l2 j).symm.trans hN
  have hF := find_kinds op
  unfold encI
  by_cases h1 : 0 ≤ atI twosL op
  · rw [if_pos h1] at hK hF ⊢
    simp only [Bool.and_eq_true] at hK
    obtain ⟨⟨k1, k2⟩, _⟩ := hK
    obtain ⟨⟨a0, a1⟩, ⟨a2, a3⟩, a4, a5⟩ := src_as k1
    obtain ⟨⟨b0, b1⟩, ⟨b2, b3⟩, b4, b5⟩ := dst_as k2
    have := atI_lt twosL op
    have hl : twosL.length = 12 := rfl
    exact implEnc_two op b m r n l m2 r2 n2 l2 j _ _ _ _ _ w hN hF (by omega) (by omega) a0 a1 b0 b1 rfl rfl rfl rfl a2 a3 a4 a5 b2 b3 b4 b5 hT
  rw [if_neg h1] at hK hF ⊢
  by_cases h3 : 0 ≤ atI onesL op
  · rw [if_pos h3] at hK hF ⊢
    obtain ⟨⟨⟨a0, a1⟩, ⟨a2, a3⟩, a4, a5⟩, e1, e2, e3, e4, e5⟩ := one_parts hK
    have := atI_lt onesL op
    have hl : onesL.length = 7 := rfl
    exact implEnc_one op b m r n l m2 r2 n2 l2 j _ _ _ w hN hF (by omega) (by omega) a0 a1 (by omega) (by omega) rfl rfl a2 a3 a4 a5 hT
  rw [if_neg h3] at hK hF ⊢
  by_cases h2 : 0 ≤ atI jumpsL op
  · rw [if_pos h2] at hK hF
    simp only [Bool.and_eq_true] at hK
    obtain ⟨⟨⟨_, k1⟩, k2⟩, _⟩ := hK
    obtain ⟨rfl, rfl, rfl, rfl⟩ := zero_is k1
    obtain ⟨rfl, rfl, rfl, rfl⟩ := zero_is k2
    have := atI_lt jumpsL op
    have hl : jumpsL.length = 8 := rfl
    exact implEnc_jump op b _ _ _ _ _ _ _ _ j _ w hN hF (by omega) (by omega) (by omega) (by omega) (by omega) (by omega) hT
  · rw [if_neg h2] at hK; cases hK
end Go.Proofs.YtodjccipfonaiaaGreatDoor
namespace Go.Proofs.YtodjccipfonaiaaGreatDoor
open Go.RowKit
set_option linter.unusedVariables false

theorem own_one {w x : World} {g : Nat} (h : Below w.heap.size w x) (hg : x.heap.size = g) {f f' : Int} (hf : f = f') : OwnI (x.alloc (.cells #[.int .i64 f] 2)) w.heap.size (.slice (some ⟨g, 0, none⟩) 1 1) [f'] := by
  subst hg hf
  exact OwnI.mk (L := [f]) h.size (heap_alloc_new x _) (by simp) (by simp [maxLen]) rfl (fun i hi => by obtain rfl : i = 0 := (by simpa using hi); rfl)
set_option maxRecDepth 100000 in
set_option maxHeartbeats 4000000 in
theorem specEnc_reti (op : ByteArray) (b : Bool) (m r n : Int) (l : Bool) (m2 r2 n2 : Int) (l2 : Bool) (j : Int) (w : World) (h3 : (op.toList == [114, 101, 116, 105]) = true) :
    Calls Tryz.prog 48 #[.agg #[.string op, .bool b, .int .i64 m, .int .i64 r, .int .i64 n, .bool l, .int .i64 m2, .int .i64 r2, .int .i64 n2, .bool l2, .int .i64 j]] w fun e w' => ∃ v, e = .returned v ∧ OwnI w' w.heap.size v [4864] ∧ Below w.heap.size w w' := by
  go_enter Tryz.func48, Tryz.ntmps48
  go_wp2
  go_ret
  exact ⟨_, rfl, own_one (below_new _ _) (by simp) rfl, below_more (below_new _ _) _⟩
set_option maxRecDepth 100000 in
set_option maxHeartbeats 4000000 in
theorem specEnc_jump (k2 : Int) (op : ByteArray) (b : Bool) (m r n : Int) (l : Bool) (m2 r2 n2 : Int) (l2 : Bool) (j : Int) (w : World) (HK2 : Hid (atI jumpsL op = k2)) (h3 : (op.toList == [114, 101, 116, 105]) = false) (h2 : 0 ≤ k2) (h7 : k2 ≤ 7) (hj0 : -512 ≤ j) (hj1 : j ≤ 511) :
    Calls Tryz.prog 48 #[.agg #[.string op, .bool b, .int .i64 m, .int .i64 r, .int .i64 n, .bool l, .int .i64 m2, .int .i64 r2, .int .i64 n2, .bool l2, .int .i64 j]] w fun e w' => ∃ v, e = .returned v ∧ OwnI w' w.heap.size v [8192 + 1024 * k2 + j % 1024] ∧ Below w.heap.size w w' := by
  go_enter Tryz.func48, Tryz.ntmps48
  go_wp2_with fail
  have HI0 : Hid (_ = _) := heap_alloc_new w (.cells #[.string op, .bool b, .int .i64 m, .int .i64 r, .int .i64 n, .bool l, .int .i64 m2, .int .i64 r2, .int .i64 n2, .bool l2, .int .i64 j] 26)
  have HB0 : Hid (Below w.heap.size w _) := below_new w (.cells #[.string op, .bool b, .int .i64 m, .int .i64 r, .int .i64 n, .bool l, .int .i64 m2, .int .i64 r2, .int .i64 n2, .bool l2, .int .i64 j] 26)
  generalize w.alloc (.cells #[.string op, .bool b, .int .i64 m, .int .i64 r, .int .i64 n, .bool l, .int .i64 m2, .int .i64 r2, .int .i64 n2, .bool l2, .int .i64 j] 26) = x0 at *
  obtain ⟨c0, c1, c2, c3, c4, c5, c6, c7, c8, c9, c10⟩ := cells11 HI0.out
  go_region_held3 (fun w' => w'.cell? ⟨w.heap.size, 0, none⟩ = some (.string op)) (go_keep) (first
    | (go_at_call 67; refine (jumps_b _).mono ?_; rintro e x1 ⟨rfl, HT, hb⟩; have HI1 : Hid (_ = _) := heap_keep (by exact HI0.out) hb; obtain ⟨d0, d1, d2, d3, d4, d5, d6, d7, d8, d9, d10⟩ := cells11 HI1.out; have HB1 : Hid (Below w.heap.size w x1) := below_call (by exact HB0.out.drew) hb; clear hb c0 c1 c2 c3 c4 c5 c6 c7 c8 c9 c10)
    | (go_at_call 53; refine (at_row jumpsL op k2 HK2.out _ 8 _ 9 rfl (by omega) HT.out).mono ?_; rintro e x2 ⟨rfl, rfl⟩))
  go_wp2
  go_ret
  exact ⟨_, rfl, own_one HB1.out rfl (by omega), below_more HB1.out _⟩
end Go.Proofs.YtodjccipfonaiaaGreatDoor
namespace Go.Proofs.YtodjccipfonaiaaGreatDoor
open Go.RowKit
set_option linter.unusedVariables false

theorem own_some {w : World} {B : Nat} {v : Value} {n : Nat} {xs : List Value} (h : w.ownsRow B 2 1 v (n + 1) xs) : ∃ g cap cur, v = .slice (some ⟨g, 0, none⟩) (n + 1) cap ∧ B ≤ g ∧ w.heap[g]? = some (.cells cur 2 (0, 0)) ∧ n + 1 ≤ cap ∧ cap ≤ maxLen ∧ cur.size = cap ∧ cur.toList.take (n + 1) = xs := by
  rcases h.2 with ⟨_, h0⟩ | ⟨g, cap, cur, h1, h2, h3, h4, h5, h6, h7⟩
  · omega
  · exact ⟨g, cap, cur, h1, h2, h3, h4, h5, by omega, by simpa using h7⟩
theorem row_first {w : World} {g : Nat} {cur : Array Value} {t : TypeId} {k : Nat} {x : Value} {xs : List Value} (hg : w.heap[g]? = some (.cells cur t (0, 0))) (hx : cur.toList.take (k + 1) = x :: xs) : w.cell? ⟨g, 0, none⟩ = some x ∧ w.frozen? ⟨g, 0, none⟩ = false := by
  have e := congrArg (fun l => l[0]?) hx
  simp at e
  constructor
  · simp [World.cell?, hg, e]
  · simp [World.frozen?, hg]
theorem own_set {w : World} {B g cap : Nat} {cur : Array Value} {x y y' : Int} {L : List Int} (hy : y = y') (hB : B ≤ g) (hg : w.heap[g]? = some (.cells cur 2 (0, 0))) (h4 : L.length + 1 ≤ cap) (h5 : cap ≤ maxLen) (h6 : cur.size = cap) (h7 : cur.toList.take (L.length + 1) = cellsI (x :: L)) :
    OwnI (w.setCell ⟨g, 0, none⟩ (.int .i64 y)) B (.slice (some ⟨g, 0, none⟩) (L.length + 1) cap) (y' :: L) := by
  subst hy
  refine OwnI.mk (L := y :: L) hB (heap_set hg 0 _) h4 h5 (by simp [h6]) (fun i hi => ?_)
  rw [Array.getElem?_setIfInBounds]
  by_cases e : 0 = i
  · subst e; rw [if_pos rfl, if_pos (by omega)]; rfl
  · rw [if_neg e]
    have hi2 : i < L.length + 1 := by simpa using hi
    have e2 := congrArg (fun l => l[i]?) h7
    simp only [List.getElem?_take, if_pos hi2, cellsI, List.getElem?_map] at e2
    obtain ⟨i, rfl⟩ : ∃ q, i = q + 1 := ⟨i - 1, by omega⟩
    simp only [List.getElem?_cons_succ, List.getElem_cons_succ] at e2 ⊢
    rw [List.getElem?_eq_getElem (show i < L.length by omega)] at e2
    simpa using e2
theorem ne_of_types {W : World} {a b : Nat} {c1 c2 : Array Value} {t1 t2 : TypeId} {f1 f2 : Nat × Nat} (h1 : W.heap[a]? = some (.cells c1 t1 f1)) (h2 : W.heap[b]? = some (.cells c2 t2 f2)) (ht : t1 ≠ t2) : a ≠ b := by
  intro e
  rw [e, h2] at h1
  simp only [Option.some.injEq, Obj.cells.injEq] at h1
  exact ht h1.2.1.symm
theorem some_ne {a b : Nat} (h : a ≠ b) : some a ≠ some b := fun e => h (Option.some.inj e)
theorem markI_f : markI false = 0 := rfl
theorem markI_t : markI true = 64 := rfl
theorem at_size {W x : World} {o p : Obj} (h : W.heap[(x.alloc o).drew.heap.size]? = some p) : W.heap[x.heap.size + 1]? = some p := by simpa using h
theorem cell_one_at {W : World} {g : Nat} (hg : W.heap.size = g) (x : Value) (t : TypeId) : ∀ (q : Nat) (u : Value), [x][q]? = some u → (W.alloc (.cells #[x] t)).cell? ((⟨g, 0, none⟩ : Addr).add q) = some u := by
  subst hg
  exact cell_one_new _ _ _
set_option maxRecDepth 100000 in
set_option maxHeartbeats 4000000 in
theorem specEnc_one (k2 k3 : Int) (op : ByteArray) (b : Bool) (m r n : Int) (l : Bool) (m2 r2 n2 : Int) (l2 : Bool) (j : Int) (a1 a2 : Int) (t : Bool) (w : World) (HK2 : Hid (atI jumpsL op = k2)) (HK3 : Hid (atI onesL op = k3)) (h3 : (op.toList == [114, 101, 116, 105]) = false) (h2 : ¬ 0 ≤ k2) (hk : 0 ≤ k3) (h7 : k3 ≤ 7) (h0 : 0 ≤ m) (h5 : m ≤ 5) (H1 : Hid ((asI m r n l).1 = a1)) (H2 : Hid ((asI m r n l).2.1 = a2)) (H3 : Hid ((asI m r n l).2.2 = t)) (ha0 : 0 ≤ a1) (ha1 : a1 ≤ 3) (hb0 : 0 ≤ a2) (hb1 : a2 ≤ 15) :
    Calls Tryz.prog 48 #[.agg #[.string op, .bool b, .int .i64 m, .int .i64 r, .int .i64 n, .bool l, .int .i64 m2, .int .i64 r2, .int .i64 n2, .bool l2, .int .i64 j]] w fun e w' => ∃ v, e = .returned v ∧ OwnI w' w.heap.size v ((4096 + 128 * k3 + markI b + 16 * a1 + a2) :: optI t n) ∧ Below w.heap.size w w' := by
  go_enter Tryz.func48, Tryz.ntmps48
  go_wp2_with fail
  have HI0 : Hid (_ = _) := heap_alloc_new w (.cells #[.string op, .bool b, .int .i64 m, .int .i64 r, .int .i64 n, .bool l, .int .i64 m2, .int .i64 r2, .int .i64 n2, .bool l2, .int .i64 j] 26)
  have HB0 : Hid (Below w.heap.size w _) := below_new w (.cells #[.string op, .bool b, .int .i64 m, .int .i64 r, .int .i64 n, .bool l, .int .i64 m2, .int .i64 r2, .int .i64 n2, .bool l2, .int .i64 j] 26)
  generalize w.alloc (.cells #[.string op, .bool b, .int .i64 m, .int .i64 r, .int .i64 n, .bool l, .int .i64 m2, .int .i64 r2, .int .i64 n2, .bool l2, .int .i64 j] 26) = x0 at *
  obtain ⟨c0, c1, c2, c3, c4, c5, c6, c7, c8, c9, c10⟩ := cells11 HI0.out
  go_region_held3 (fun w' => w'.cell? ⟨w.heap.size, 0, none⟩ = some (.string op)) (go_keep) (first
    | (go_at_call 67; refine (jumps_b _).mono ?_; rintro e x1 ⟨rfl, HT, hb⟩; have HI1 : Hid (_ = _) := heap_keep (by exact HI0.out) hb; obtain ⟨d0, d1, d2, d3, d4, d5, d6, d7, d8, d9, d10⟩ := cells11 HI1.out; have HB1 : Hid (Below w.heap.size w x1) := below_call (by exact HB0.out.drew) hb; clear hb c0 c1 c2 c3 c4 c5 c6 c7 c8 c9 c10)
    | (go_at_call 53; refine (at_row jumpsL op k2 HK2.out _ 8 _ 9 rfl (by omega) HT.out).mono ?_; rintro e x2 ⟨rfl, rfl⟩))
  go_wp2_with fail
  clear HT
  refine (l02As_any m r n l _ h0 h5).mono ?_
  rintro e x3 ⟨rfl, hb⟩
  rw [H1.out, H2.out, H3.out]
  have HI2 : Hid (_ = _) := heap_keep HI1.out hb
  have HB2 : Hid (Below w.heap.size w x3) := below_call HB1.out hb
  clear hb d0 d1 d2 d3 d4 d5 d6 d7 d8 d9 d10
  obtain ⟨c0, c1, c2, c3, c4, c5, c6, c7, c8, c9, c10⟩ := cells11 HI2.out
  have hz2 := heap_lt HI2.out
  have hsz2 := HB2.out.size
  cases t
  case' false =>
    cases b
    all_goals
      go_wp2_with fail
      go_region_held3 (fun w' => w'.cell? ⟨w.heap.size, 0, none⟩ = some (.string op)) (go_keep) (first
        | (go_at_call 70; refine (ones_b _).mono ?_; rintro e x5 ⟨rfl, HT, hb⟩; have HI3 : Hid (_ = _) := heap_keep (by exact heap_more HI2.out _) hb; obtain ⟨d0, d1, d2, d3, d4, d5, d6, d7, d8, d9, d10⟩ := cells11 HI3.out; have HB3 : Hid (Below w.heap.size w x5) := below_call (by exact (below_more HB2.out _).drew) hb; have HG3 : Hid (_ = _) := heap_keep (by exact heap_alloc_new x3 _) hb; replace HT : Hid (_ = _) := at_size HT.out; clear hb c0 c1 c2 c3 c4 c5 c6 c7 c8 c9 c10)
        | (go_at_call 53; refine (at_row onesL op k3 HK3.out _ 7 _ 9 rfl (by omega) HT.out).mono ?_; rintro e x6 ⟨rfl, rfl⟩))
      obtain ⟨q0, q1⟩ := row_first (k := 0) (xs := []) HG3.out rfl
      go_wp2
      go_ret
      exact ⟨_, rfl, own_set (L := []) (x := 0) (by first | (rw [markI_f]; omega) | (rw [markI_t]; omega)) hsz2 HG3.out (by simp) (by simp [maxLen]) rfl rfl, HB3.out.setCell hsz2 _⟩
  case' true =>
    cases b
    all_goals
      obtain ⟨i0, hi, hz0, hz1', hz2'⟩ := info_parts infoI
      go_wp2_with (at_builtin; refine wpList_append_own _ rfl (.tmp 46) (.tmp 50) 36 rfl w.heap.size 2 i0 (.int .i64 0) 1 8 Tryz.underlying36 hi hz0 hz1' hz2' rfl (by decide) _ _ _ rfl ((own_one (f' := 0) HB2.out rfl rfl).alloc _) ⟨x3.heap.size + 1, 0, none⟩ 1 1 [.int .i64 n] rfl rfl (cell_one_at (by simp) _ _) (one_cellI _) (by simp [maxLen]) (by simp) (by simp; omega) ?_; intro v2 w2 hown2 hgrow2 _; obtain ⟨g, cap, cur, rfl, hB, hg, h4, h5', h6, h7'⟩ := own_some hown2)
      have HG2 : Hid (_ = _) := hg
      have HC2 : Hid (cur.size = cap) := h6
      have HC3 : Hid (_ = _) := h7'
      have HB2' : Hid (Below w.heap.size w w2) := (below_more (below_more HB2.out _) _).grown hgrow2 (below_more (below_more HB2.out _) _).size (fun q hq => by rw [← Option.some.inj hq]; exact hsz2)
      have HI2' : Hid (w2.heap[w.heap.size]? = _) := (hgrow2.block _ (heap_lt (heap_more (heap_more HI2.out _) _)) (some_ne (Nat.ne_of_lt hz2))).trans (heap_more (heap_more HI2.out _) _)
      clear hg h6 h7' hown2 hgrow2
      clear c0 c1 c2 c3 c4 c5 c6 c7 c8 c9 c10 hi hz0 hz1' hz2'
      obtain ⟨c0, c1, c2, c3, c4, c5, c6, c7, c8, c9, c10⟩ := cells11 HI2'.out
      go_region_held3 (fun w' => w'.cell? ⟨w.heap.size, 0, none⟩ = some (.string op)) (go_keep) (first
        | (go_at_call 70; refine (ones_b _).mono ?_; rintro e x5 ⟨rfl, HT, hb⟩; have HI3 : Hid (_ = _) := heap_keep (by exact HI2'.out) hb; obtain ⟨d0, d1, d2, d3, d4, d5, d6, d7, d8, d9, d10⟩ := cells11 HI3.out; have HB3 : Hid (Below w.heap.size w x5) := below_call (by exact HB2'.out.drew) hb; have HG3 : Hid (_ = _) := heap_keep (by exact HG2.out) hb; clear hb c0 c1 c2 c3 c4 c5 c6 c7 c8 c9 c10)
        | (go_at_call 53; refine (at_row onesL op k3 HK3.out _ 7 _ 9 rfl (by omega) HT.out).mono ?_; rintro e x6 ⟨rfl, rfl⟩))
      obtain ⟨q0, q1⟩ := row_first (k := 1) HG3.out HC3.out
      go_wp2
      go_ret
      exact ⟨_, rfl, own_set (L := [n]) (x := 0) (by first | (rw [markI_f]; omega) | (rw [markI_t]; omega)) hB HG3.out h4 h5' HC2.out HC3.out, HB3.out.setCell hB _⟩
end Go.Proofs.YtodjccipfonaiaaGreatDoor
