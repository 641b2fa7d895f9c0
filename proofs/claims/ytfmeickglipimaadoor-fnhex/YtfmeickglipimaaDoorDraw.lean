/- The draws' source: a struct in a block of its own, which its methods turn and nothing else; what each method answers, as far as the laws ask. -/
import Derived.Test.YtfmeickglipimaaDoorRows
import Derived.WalkKit
import Derived.WalkSpells
import Derived.WalkLawsBesides
import Derived.RegionTactic
import Derived.BigRegion
import Derived.OpenShut
import Derived.Test.YtfmeickglipimaaDoorBase
import Derived.Test.YtfmeickglipimaaDoorRow
namespace Go.Proofs.YtfmeickglipimaaDoor
open Go.RowKit

structure Dr (w : World) (g : Nat) (a : Option Addr) (len cap : Nat) : Prop where
  src : ∃ (p m z : Int), w.heap[g]? = some (.cells #[.slice a len cap, .int .i64 p, .int .u64 m, .int .i64 z] 99 (0, 0)) ∧ 0 ≤ p ∧ p ≤ len ∧ (Lit.int .u64 m).wf = true ∧ 0 ≤ z ∧ z ≤ 12
  small : len ≤ 1048576
  arg : 0 < len → ∃ x : Addr, a = some x ∧ x.block ≠ g ∧ ∀ i, i < len → ∃ z : Int, 0 ≤ z ∧ z < 256 ∧ w.cell? (x.add i) = some (.int .u8 z)

theorem add_block (x : Addr) (i : Nat) : (x.add i).block = x.block := by unfold Addr.add; split <;> rfl
theorem Dr.kept {w w' : World} {g : Nat} {a : Option Addr} {len cap : Nat} {row : Option Nat} (h : Dr w g a len cap) (hg : w.grownBy w' row) (hr : row ≠ some g) (ha : 0 < len → ∀ x, a = some x → some x.block ≠ row) : Dr w' g a len cap := by
  obtain ⟨p, m, z, h1, h2⟩ := h.src
  refine ⟨⟨p, m, z, ?_, h2⟩, h.small, fun hl => ?_⟩
  · rw [hg.block g (Array.getElem?_eq_some_iff.1 h1).1 (Ne.symm hr)]; exact h1
  · obtain ⟨x, rfl, hx, hc⟩ := h.arg hl
    refine ⟨x, rfl, hx, fun i hi => ?_⟩
    obtain ⟨u, h0, h3, h4⟩ := hc i hi
    exact ⟨u, h0, h3, hg.cell h4 (by rw [add_block]; exact ha hl x rfl)⟩
theorem Dr.alloc {w : World} {g : Nat} {a : Option Addr} {len cap : Nat} (h : Dr w g a len cap) (o : Obj) : Dr (w.alloc o) g a len cap :=
  h.kept (World.grownBy_alloc w o none) (by simp) (fun _ _ _ => by simp)
theorem Dr.lt {w : World} {g : Nat} {a : Option Addr} {len cap : Nat} (h : Dr w g a len cap) : g < w.heap.size := by
  obtain ⟨p, m, z, h1, _⟩ := h.src
  exact (Array.getElem?_eq_some_iff.1 h1).1
theorem Dr.argLt {w : World} {g : Nat} {a : Option Addr} {len cap : Nat} (h : Dr w g a len cap) (hl : 0 < len) {x : Addr} (hx : a = some x) : x.block < w.heap.size := by
  obtain ⟨y, hy, _, hc⟩ := h.arg hl
  obtain ⟨z, _, _, h4⟩ := hc 0 hl
  rw [hx] at hy
  cases hy
  have := World.block_lt_of_cell? w _ h4
  rwa [add_block] at this
theorem grownBy_more {w w1 w2 : World} {g : Nat} {row : Option Nat} (h : w.grownBy w1 (some g)) (k : w1.grownBy w2 row) (hr : ∀ j, row = some j → w.heap.size ≤ j) : w.grownBy w2 (some g) :=
  ⟨k.os.trans h.os, k.tape.trans h.tape, k.output.trans h.output, Nat.le_trans h.size k.size, fun i hi hne => (k.block i (Nat.lt_of_lt_of_le hi h.size) (fun e => by have := hr i e.symm; omega)).trans (h.block i hi hne)⟩
theorem four_cells {W : World} {B : Nat} {t : TypeId} {v0 v1 v2 v3 : Value} (hR : W.heap[B]? = some (.cells #[v0, v1, v2, v3] t (0, 0))) :
    (W.cell? ⟨B, 0, none⟩ = some v0 ∧ W.cell? ⟨B, 1, none⟩ = some v1 ∧ W.cell? ⟨B, 2, none⟩ = some v2 ∧ W.cell? ⟨B, 3, none⟩ = some v3) ∧ (W.frozen? ⟨B, 0, none⟩ = false ∧ W.frozen? ⟨B, 1, none⟩ = false ∧ W.frozen? ⟨B, 2, none⟩ = false ∧ W.frozen? ⟨B, 3, none⟩ = false) := by
  refine ⟨⟨?_, ?_, ?_, ?_⟩, ?_, ?_, ?_, ?_⟩ <;> simp [World.cell?, World.frozen?, hR]
theorem grownBy_refl (w : World) (r : Option Nat) : w.grownBy w r := ⟨rfl, rfl, rfl, Nat.le_refl _, fun _ _ _ => rfl⟩
theorem grownBy_trans {a b c : World} {r : Option Nat} (h : a.grownBy b r) (k : b.grownBy c r) : a.grownBy c r :=
  ⟨k.os.trans h.os, k.tape.trans h.tape, k.output.trans h.output, Nat.le_trans h.size k.size, fun i hi hne => (k.block i (Nat.lt_of_lt_of_le hi h.size) hne).trans (h.block i hi hne)⟩

theorem set_set {W : World} {B : Nat} {t : TypeId} {cur : Array Value} (hR : W.heap[B]? = some (.cells cur t (0, 0))) (k : Nat) (u v : Value) :
    (W.setCell ⟨B, k, none⟩ u).setCell ⟨B, k, none⟩ v = W.setCell ⟨B, k, none⟩ v := by
  rw [setCell_eq_setRow W B k cur t (0, 0) u hR, setCell_eq_setRow W B k cur t (0, 0) v hR]
  rw [setCell_eq_setRow _ B k _ t (0, 0) v (setRow_heap W B cur _ t _ hR), setRow_setRow]
  congr 1
  simp
theorem row4_set2 {W : World} {B : Nat} {t : TypeId} {v0 v1 v2 v3 : Value} (hR : W.heap[B]? = some (.cells #[v0, v1, v2, v3] t (0, 0))) (v : Value) : (W.setCell ⟨B, 2, none⟩ v).heap[B]? = some (.cells #[v0, v1, v, v3] t (0, 0)) := by
  rw [setCell_eq_setRow W B 2 _ t (0, 0) v hR, setRow_heap W B _ _ t _ hR]; rfl
theorem row4_set1 {W : World} {B : Nat} {t : TypeId} {v0 v1 v2 v3 : Value} (hR : W.heap[B]? = some (.cells #[v0, v1, v2, v3] t (0, 0))) (v : Value) : (W.setCell ⟨B, 1, none⟩ v).heap[B]? = some (.cells #[v0, v, v2, v3] t (0, 0)) := by
  rw [setCell_eq_setRow W B 1 _ t (0, 0) v hR, setRow_heap W B _ _ t _ hR]; rfl
theorem grownBy_set {W : World} {B : Nat} {t : TypeId} {cur : Array Value} (hR : W.heap[B]? = some (.cells cur t (0, 0))) (k : Nat) (v : Value) : W.grownBy (W.setCell ⟨B, k, none⟩ v) (some B) := by
  rw [setCell_eq_setRow W B k cur t (0, 0) v hR]
  exact ⟨rfl, rfl, rfl, by simp [World.setRow], fun i _ hne => setRow_other W B i _ (fun e => hne (by rw [e]))⟩
theorem grownBy_drew {a b : World} {r : Option Nat} (h : a.grownBy b r) : a.grownBy b.drew r := ⟨h.os, h.tape, h.output, h.size, h.block⟩
theorem Dr.turn {w w' : World} {g : Nat} {a : Option Addr} {len cap : Nat} (h : Dr w g a len cap) (hg : w.grownBy w' (some g))
    (hs : ∃ (p m z : Int), w'.heap[g]? = some (.cells #[.slice a len cap, .int .i64 p, .int .u64 m, .int .i64 z] 99 (0, 0)) ∧ 0 ≤ p ∧ p ≤ len ∧ (Lit.int .u64 m).wf = true ∧ 0 ≤ z ∧ z ≤ 12) : Dr w' g a len cap := by
  refine ⟨hs, h.small, fun hl => ?_⟩
  obtain ⟨x, rfl, hx, hc⟩ := h.arg hl
  refine ⟨x, rfl, hx, fun i hi => ?_⟩
  obtain ⟨u, h0, h3, h4⟩ := hc i hi
  exact ⟨u, h0, h3, hg.cell h4 (by rw [add_block]; simpa using hx)⟩
theorem bits_wf (x y : Int) : (Lit.int .u64 (bits BinOp.xor IntKind.u64 x y)).wf = true := wf_bits .xor .u64 x y
set_option maxRecDepth 100000 in
set_option maxHeartbeats 1000000 in
theorem n_any (g : Nat) (a : Option Addr) (len cap : Nat) (most : Int) (w : World) (h : Dr w g a len cap) (hm0 : -9223372036854775808 ≤ most) (hm1 : most ≤ 9223372036854775807) :
    Calls Tryd.prog 24 #[.pointer (some ⟨g, 0, none⟩), .int .i64 most] w fun e w' => ∃ v : Int, e = .returned (.int .i64 v) ∧ 0 ≤ v ∧ (v = 0 ∨ v < most) ∧ Dr w' g a len cap ∧ w.grownBy w' (some g) := by
  have HD : Hid (_) := h
  obtain ⟨p, m, z, hb, hp0, hp1, hmw, hz0, hz1⟩ := h.src
  obtain ⟨⟨c0, c1, c2, c3⟩, f0, f1, f2, f3⟩ := four_cells hb
  have HBk : Hid (_ = _) := hb
  have hsm := h.small
  have HAr : Hid (_ → _) := h.arg
  have hmb := bounds_u64 hmw
  clear hb h hmw
  by_cases h1 : most ≤ 1
  · go_enter Tryd.func24, Tryd.ntmps24
    go_wp2
    go_ret
    exact ⟨0, rfl, by omega, Or.inl rfl, HD.out, grownBy_refl _ _⟩
  obtain ⟨m1, hx1⟩ : ∃ m1, bits BinOp.xor IntKind.u64 m (IntKind.u64.wrap (m * 8192)) = m1 := ⟨_, rfl⟩
  have hw1 := bits_wf m (IntKind.u64.wrap (m * 8192))
  rw [hx1] at hw1
  obtain ⟨m2, hx2⟩ : ∃ m2, bits BinOp.xor IntKind.u64 m1 (m1 / 128) = m2 := ⟨_, rfl⟩
  have hw2 := bits_wf m1 (m1 / 128)
  rw [hx2] at hw2
  obtain ⟨m3, hx3⟩ : ∃ m3, bits BinOp.xor IntKind.u64 m2 (IntKind.u64.wrap (m2 * 131072)) = m3 := ⟨_, rfl⟩
  have hw3 := bits_wf m2 (IntKind.u64.wrap (m2 * 131072))
  rw [hx3] at hw3
  have HW3 : Hid (_) := hw3
  have hb1 := bounds_u64 hw1
  have hb2 := bounds_u64 hw2
  have hb3 := bounds_u64 hw3
  clear hw1 hw2 hw3
  have hss := set_set HBk.out 2
  by_cases hlt : p < len
  · obtain ⟨P, rfl⟩ := Int.eq_ofNat_of_zero_le hp0
    obtain ⟨x, rfl, hxg, hcs⟩ := HAr.out (by omega)
    obtain ⟨y, hy0, hy1, hyc⟩ := hcs P (by omega)
    have hxg2 : (x.add P).block ≠ g := by rw [add_block]; exact hxg
    have HX : Hid (_) := hcs
    clear hcs
    have hss1 := fun u => set_set (W := w.setCell ⟨g, 1, none⟩ u) (row4_set1 HBk.out u) 2
    go_enter Tryd.func24, Tryd.ntmps24
    go_wp2
    go_region
    go_wp2
    go_region
    go_wp2
    go_region
    go_wp2
    go_region
    go_wp2
    go_region
    go_wp2
    go_ret
    have hv0 : 0 ≤ (y + m3 / 1048576) % most := Int.emod_nonneg _ (by omega)
    have hv1 : (y + m3 / 1048576) % most < most := Int.emod_lt_of_pos _ (by omega)
    have hG : w.grownBy ((w.setCell ⟨g, 1, none⟩ (.int .i64 ((P : Int) + 1))).setCell ⟨g, 2, none⟩ (.int .u64 m3)) (some g) :=
      grownBy_trans (grownBy_set HBk.out 1 _) (grownBy_set (row4_set1 HBk.out _) 2 _)
    refine ⟨(y + m3 / 1048576) % most, ret_int (IntWalk.wrap64_in _ (by omega)), hv0, Or.inr hv1, ?_, ?_⟩
    · exact HD.out.turn (grownBy_drew (grownBy_drew (grownBy_drew (grownBy_drew (grownBy_drew hG))))) ⟨(P : Int) + 1, m3, z, row4_set2 (row4_set1 HBk.out _) _, by omega, by omega, HW3.out, hz0, hz1⟩
    · exact grownBy_drew (grownBy_drew (grownBy_drew (grownBy_drew (grownBy_drew hG))))
  · have hd : decide (p < (len : Int)) = false := by simp; omega
    go_enter Tryd.func24, Tryd.ntmps24
    go_wp2
    go_region
    go_wp2
    go_region
    go_wp2
    go_region
    go_wp2
    go_region
    go_wp2
    go_ret
    have hv0 : 0 ≤ m3 / 1048576 % most := Int.emod_nonneg _ (by omega)
    have hv1 : m3 / 1048576 % most < most := Int.emod_lt_of_pos _ (by omega)
    have hG : w.grownBy (w.setCell ⟨g, 2, none⟩ (.int .u64 m3)) (some g) := grownBy_set HBk.out 2 _
    refine ⟨m3 / 1048576 % most, ret_int (IntWalk.wrap64_in _ (by omega)), hv0, Or.inr hv1, ?_, ?_⟩
    · exact HD.out.turn (grownBy_drew (grownBy_drew (grownBy_drew (grownBy_drew hG)))) ⟨p, m3, z, row4_set2 HBk.out _, hp0, hp1, HW3.out, hz0, hz1⟩
    · exact grownBy_drew (grownBy_drew (grownBy_drew (grownBy_drew hG)))

structure Arg (w : World) (a : Option Addr) (len cap : Nat) : Prop where
  small : len ≤ 1048576
  arg : 0 < len → ∃ x : Addr, a = some x ∧ x.block < w.heap.size ∧ ∀ i, i < len → ∃ z : Int, 0 ≤ z ∧ z < 256 ∧ w.cell? (x.add i) = some (.int .u8 z)
theorem Arg.below {w w' : World} {a : Option Addr} {len cap : Nat} (h : Arg w a len cap) (hb : Below w.heap.size w w') : Arg w' a len cap := by
  refine ⟨h.small, fun hl => ?_⟩
  obtain ⟨x, rfl, hx, hc⟩ := h.arg hl
  refine ⟨x, rfl, Nat.lt_of_lt_of_le hx hb.size, fun i hi => ?_⟩
  obtain ⟨z, h0, h1, h2⟩ := hc i hi
  exact ⟨z, h0, h1, (hb.cell (by rw [add_block]; exact hx)).trans h2⟩
theorem row4_set3 {W : World} {B : Nat} {t : TypeId} {v0 v1 v2 v3 : Value} (hR : W.heap[B]? = some (.cells #[v0, v1, v2, v3] t (0, 0))) (v : Value) : (W.setCell ⟨B, 3, none⟩ v).heap[B]? = some (.cells #[v0, v1, v2, v] t (0, 0)) := by
  rw [setCell_eq_setRow W B 3 _ t (0, 0) v hR, setRow_heap W B _ _ t _ hR]; rfl
theorem wf_mul (x y : Int) : (Lit.int .u64 (IntKind.u64.wrap (x * y))).wf = true := wf_wrap _ _

theorem src_done {w wr : World} {a : Option Addr} {len cap : Nat} {m : Int} (HA : Arg w a len cap) (HR : wr.heap[w.heap.size]? = some (.cells #[.slice a len cap, .int .i64 0, .int .u64 m, .int .i64 0] 99 (0, 0)))
    (HM : (Lit.int .u64 m).wf = true) (hB : Below w.heap.size w wr) (z : Int) (hz0 : 0 ≤ z) (hz1 : z ≤ 12) :
    Dr (wr.setCell ⟨w.heap.size, 3, none⟩ (.int .i64 z)) w.heap.size a len cap ∧ Below w.heap.size w (wr.setCell ⟨w.heap.size, 3, none⟩ (.int .i64 z)) := by
  have hb := hB.setCell (p := ⟨w.heap.size, 3, none⟩) (Nat.le_refl _) (.int .i64 z)
  refine ⟨⟨⟨0, m, z, row4_set3 HR _, by omega, by omega, HM, hz0, hz1⟩, HA.small, fun hl => ?_⟩, hb⟩
  obtain ⟨x, rfl, hx, hc⟩ := HA.arg hl
  refine ⟨x, rfl, Nat.ne_of_lt hx, fun i hi => ?_⟩
  obtain ⟨u, h0, h1, h2⟩ := hc i hi
  exact ⟨u, h0, h1, (hb.cell (by rw [add_block]; exact hx)).trans h2⟩
set_option maxRecDepth 100000 in
set_option maxHeartbeats 1000000 in
theorem source_any (a : Option Addr) (len cap : Nat) (w : World) (h : Arg w a len cap) :
    Calls Tryd.prog 23 #[.slice a len cap] w fun e w' => e = .returned (.pointer (some ⟨w.heap.size, 0, none⟩)) ∧ Dr w' w.heap.size a len cap ∧ Below w.heap.size w w' := by
  have hsm := h.small
  have HA : Hid (_) := h
  clear h
  go_enter Tryd.func23, Tryd.ntmps23
  go_wp2
  go_loopw [4] (fun i wr => ∃ (k : Nat) (m : Int), k ≤ len ∧ i = .int .i64 k ∧ Hid (wr.heap[w.heap.size]? = some (.cells #[.slice a len cap, .int .i64 0, .int .u64 m, .int .i64 0] 99 (0, 0))) ∧ Hid ((Lit.int .u64 m).wf = true) ∧ Below w.heap.size w wr) (fun i _ => len - (intOf i).toNat)
  case atStart => exact ⟨0, 88172645463325252, by omega, rfl, heap_alloc_new _ _, (show _ = true by decide), (Below.refl _ _).alloc (Nat.le_refl _) _⟩
  case round =>
    obtain ⟨k, m, hk, rfl, HR, HM, hB⟩ := hrel
    obtain ⟨⟨c0, c1, c2, c3⟩, f0, f1, f2, f3⟩ := four_cells HR.out
    have hmb := bounds_u64 HM.out
    by_cases hlt : k < len
    · obtain ⟨x, rfl, hxg, hcs⟩ := HA.out.arg (by omega)
      obtain ⟨y, hy0, hy1, hyc0⟩ := hcs k hlt
      have hyc : wr.cell? (x.add k) = some (.int .u8 y) := (hB.cell (by rw [add_block]; exact hxg)).trans hyc0
      clear hcs hyc0
      by_cases h64 : k < 64
      · go_wp2
        go_region
        go_wp2
        go_roundw
        case rel => exact ⟨k + 1, _, by omega, by go_num, row4_set2 HR.out _, wf_mul _ _, (hB.setCell (Nat.le_refl _) _).drew⟩
        case measure => simp [intOf]; omega
      · clear hyc
        have HE : Hid (_) := fun z hz0 hz1 => src_done HA.out HR.out HM.out hB z hz0 hz1
        have hss := fun u v => set_set HR.out 3 u v
        go_wp2
        all_goals
          go_ret
          exact ⟨rfl, HE.out _ (by omega) (by omega)⟩
    · have HE : Hid (_) := fun z hz0 hz1 => src_done HA.out HR.out HM.out hB z hz0 hz1
      have hss := fun u v => set_set HR.out 3 u v
      go_wp2
      all_goals
        go_ret
        exact ⟨rfl, HE.out _ (by omega) (by omega)⟩

theorem Dr.low {w w' : World} {g : Nat} {B : Nat} (hg : w.grownBy w' (some g)) (hB : B ≤ g) (h : g < w.heap.size) : Below B w w' :=
  ⟨hg.os, hg.tape, hg.output, hg.size, fun k hk => hg.block k (by omega) (by simp; omega)⟩
set_option maxHeartbeats 400000 in
theorem one_any (g : Nat) (a : Option Addr) (len cap : Nat) (most : Int) (w : World) (h : Dr w g a len cap) (hm0 : -9223372036854775808 ≤ most) (hm1 : most ≤ 9223372036854775807) :
    Calls Tryd.prog 25 #[.pointer (some ⟨g, 0, none⟩), .int .i64 most] w fun e w' => ∃ b : Bool, e = .returned (.bool b) ∧ Dr w' g a len cap ∧ w.grownBy w' (some g) := by
  go_enter Tryd.func25, Tryd.ntmps25
  go_wp2_with fail
  refine (n_any g a len cap most _ h hm0 hm1).mono ?_
  rintro e w1 ⟨v, rfl, hv0, hv1, hD, hG⟩
  go_wp2
  go_ret
  exact ⟨_, rfl, hD, hG⟩
theorem tab_cell {w : World} {g : Nat} {t : TypeId} (L : List Int) (V : Nat) (h : V < L.length) (w1 : World) (hG : (w.alloc (.cells (L.map (Value.int .i64)).toArray t)).grownBy w1 (some g)) (hg : g < w.heap.size) :
    ∃ y, y ∈ L ∧ w1.cell? ⟨w.heap.size, V, none⟩ = some (.int .i64 y) := by
  refine ⟨L[V], List.getElem_mem h, hG.cell ?_ (by simp; omega)⟩
  simp [h]
theorem edge_bd (y : Int) (h : y ∈ [0, 1, -1, 2, 1000, 1001, 2147483648, 2147483647, -2147483648, 4611686018427387904, 9223372036854775807, -9223372036854775808, 1000000, (1000001 : Int)]) : -9223372036854775808 ≤ y ∧ y ≤ 9223372036854775807 := by
  simp at h; omega
theorem own_ne {w wr : World} {g : Nat} {e : TypeId} {size : Nat} {v : Value} {n : Nat} {xs : List Value} (h : wr.ownsRow w.heap.size e size v n xs) (hg : g < w.heap.size) : v.ownBlock = none ∨ v.ownBlock ≠ some g := by
  cases hv : v.ownBlock with
  | none => exact Or.inl rfl
  | some k => exact Or.inr (by have := (h.lt k hv).1; simp; omega)
theorem len_le (k : Nat) (h : k < 1000000) : k + 1 ≤ maxLen := by unfold maxLen; omega
theorem own_text {W : World} (B : Nat) {v : Value} {n : Nat} {L : List UInt8} (h : W.ownsRow B 5 1 v n (cellsU L)) (hL : L.length = n) :
    (convert 22 9 v).run Tryd.prog W = .ok (.string ⟨L.toArray⟩) W := by
  rcases h.2 with ⟨rfl, h0⟩ | ⟨g, cap, cur, rfl, _, hg, _, _, _, hT⟩
  · obtain rfl : L = [] := List.eq_nil_of_length_eq_zero (by omega)
    exact run_convert_bytes_nil W 22 5 Tryd.underlying22 Tryd.underlying5 0 0 9 Tryd.underlying9
  · exact conv_row W g n cap 5 cur.toList L (by simpa using hg) hL (by simpa using hT)
end Go.Proofs.YtfmeickglipimaaDoor
