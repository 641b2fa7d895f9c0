/- Ops, of the program and of the specification. -/
import Derived.Test.YtknielpkmablkaaDoorRows
import Derived.WalkKit
import Derived.WalkSpells
import Derived.WalkLawsBesides
import Derived.Outline
import Derived.Test.YtknielpkmablkaaDoorBun0
import Derived.Test.YtknielpkmablkaaDoorOwnSX
namespace Go.Proofs.YtknielpkmablkaaDoor
open Go.RowKit

def opsT : List ByteArray := [⟨#[109, 111, 118]⟩, ⟨#[97, 100, 100]⟩, ⟨#[97, 100, 100, 99]⟩, ⟨#[115, 117, 98, 99]⟩, ⟨#[115, 117, 98]⟩, ⟨#[99, 109, 112]⟩, ⟨#[100, 97, 100, 100]⟩, ⟨#[98, 105, 116]⟩, ⟨#[98, 105, 99]⟩, ⟨#[98, 105, 115]⟩, ⟨#[120, 111, 114]⟩, ⟨#[97, 110, 100]⟩]
def opsO : List ByteArray := [⟨#[114, 114, 99]⟩, ⟨#[115, 119, 112, 98]⟩, ⟨#[114, 114, 97]⟩, ⟨#[115, 120, 116]⟩, ⟨#[112, 117, 115, 104]⟩, ⟨#[99, 97, 108, 108]⟩, ⟨#[114, 101, 116, 105]⟩]
def opsJ : List ByteArray := [⟨#[106, 110, 101]⟩, ⟨#[106, 101, 113]⟩, ⟨#[106, 110, 99]⟩, ⟨#[106, 99]⟩, ⟨#[106, 110]⟩, ⟨#[106, 103, 101]⟩, ⟨#[106, 108]⟩, ⟨#[106, 109, 112]⟩]
def opsAll : List ByteArray := opsT ++ opsO ++ opsJ
def opsRows : List (List ByteArray) := [⟨#[]⟩ :: ⟨#[]⟩ :: ⟨#[]⟩ :: ⟨#[]⟩ :: opsT, opsO ++ List.replicate 9 ⟨#[]⟩, opsJ ++ List.replicate 8 ⟨#[]⟩]
def opsV : Array Value := (opsRows.flatten.map Value.string).toArray
structure OpsTab (w : World) : Prop where
  ops : ∃ t fr, w.heap[0]? = some (.cells opsV t fr)
theorem OpsTab.below {w w' : World} (h : OpsTab w) (hb : Below w.heap.size w w') : OpsTab w' := by
  obtain ⟨⟨t, fr, h1⟩⟩ := h
  exact ⟨⟨t, fr, heap_keep h1 hb⟩⟩
theorem own_list {w x : World} {L : List ByteArray} (h : Below w.heap.size w x) (hl : L.length ≤ 1000) : OwnS (x.alloc (.cells (L.map Value.string).toArray 9)) w.heap.size (.slice (some ⟨x.heap.size, 0, none⟩) L.length L.length) L :=
  OwnS.mk h.size (heap_alloc_new x _) (Nat.le_refl _) (by unfold maxLen; omega) (by simp) (fun i hi => by simp [hi])
theorem opsT_any (w : World) : Calls Tryd.prog 50 #[] w fun e w' => e = .returned (.slice (some ⟨w.heap.size, 0, none⟩) 12 12) ∧ Hid (w'.heap[w.heap.size]? = some (.cells (opsT.map Value.string).toArray 9)) ∧ Below w.heap.size w w' := by
  go_enter Tryd.func50, Tryd.ntmps50
  go_wp2
  go_ret
  exact ⟨rfl, heap_alloc_new _ _, below_new _ _⟩
theorem opsO_any (w : World) : Calls Tryd.prog 48 #[] w fun e w' => e = .returned (.slice (some ⟨w.heap.size, 0, none⟩) 7 7) ∧ Hid (w'.heap[w.heap.size]? = some (.cells (opsO.map Value.string).toArray 9)) ∧ Below w.heap.size w w' := by
  go_enter Tryd.func48, Tryd.ntmps48
  go_wp2
  go_ret
  exact ⟨rfl, heap_alloc_new _ _, below_new _ _⟩
theorem opsJ_any (w : World) : Calls Tryd.prog 47 #[] w fun e w' => e = .returned (.slice (some ⟨w.heap.size, 0, none⟩) 8 8) ∧ Hid (w'.heap[w.heap.size]? = some (.cells (opsJ.map Value.string).toArray 9)) ∧ Below w.heap.size w w' := by
  go_enter Tryd.func47, Tryd.ntmps47
  go_wp2
  go_ret
  exact ⟨rfl, heap_alloc_new _ _, below_new _ _⟩
theorem list_news {W : World} {B : Nat} {L : List ByteArray} {t : TypeId} (h : W.heap[B]? = some (.cells (L.map Value.string).toArray t)) : ∀ (q : Nat) (u : Value), (cellsS L)[q]? = some u → W.cell? ((⟨B, 0, none⟩ : Addr).add q) = some u := by
  intro q u hq
  have e : (⟨B, 0, none⟩ : Addr).add q = ⟨B, q, none⟩ := by unfold Addr.add; split <;> simp_all
  rw [e]
  simp [World.cell?, h]
  simpa [cellsS] using hq
theorem cellsS_one (L : List ByteArray) : ∀ u ∈ cellsS L, u.oneCell' = true := by
  intro u hu
  simp only [cellsS, List.mem_map] at hu
  obtain ⟨s, _, rfl⟩ := hu
  rfl
theorem own_of {W : World} {B B' : Nat} {L : List ByteArray} (hB : B ≤ B') (h : W.heap[B']? = some (.cells (L.map Value.string).toArray 9)) (hl : L.length ≤ 1000) : OwnS W B (.slice (some ⟨B', 0, none⟩) L.length L.length) L :=
  OwnS.mk hB h (Nat.le_refl _) (by unfold maxLen; omega) (by simp) (fun i hi => by simp [hi])
set_option maxRecDepth 100000 in
set_option maxHeartbeats 1600000 in
theorem specOps_any (w : World) : Calls Tryd.prog 37 #[] w fun e w' => ∃ v, e = .returned v ∧ OwnS w' w.heap.size v opsAll ∧ Below w.heap.size w w' := by
  obtain ⟨i0, hi, hz0, hz1, hz2⟩ := info_parts infoS
  go_enter Tryd.func37, Tryd.ntmps37
  go_wp2_with fail
  refine (opsT_any _).mono ?_
  rintro e x1 ⟨rfl, H1, hb1⟩
  have HB1 : Hid (_) := hb1
  go_wp2_with fail
  refine (opsO_any _).mono ?_
  rintro e x2 ⟨rfl, H2, hb2⟩
  have HT2 : Hid (OwnS x2 w.heap.size (.slice (some ⟨w.heap.size, 0, none⟩) 12 12) opsT) := own_of (Nat.le_refl _) (heap_keep H1.out hb2) (by decide)
  have HB2 : Hid (Below w.heap.size w x2) := below_call HB1.out hb2
  have hs2 := HB2.out.size
  clear hb1 hb2
  go_wp2_with (at_builtin; refine wpList_append_own _ rfl (.tmp 1) (.tmp 2) 63 rfl w.heap.size 9 i0 (.string ⟨#[]⟩) 1 16 Tryd.underlying63 hi hz0 hz1 hz2 rfl (by decide) _ _ _ rfl HT2.out ⟨x1.heap.size, 0, none⟩ 7 7 (cellsS opsO) rfl rfl (list_news H2.out) (cellsS_one _) (Nat.le_of_ble_eq_true rfl) (Nat.le_of_ble_eq_true rfl) hs2 ?_; intro v2 w2 hown2 hgrow2 _)
  have HO3 : Hid (OwnS w2 w.heap.size v2 (opsT ++ opsO)) := hown2
  have HB3 : Hid (Below w.heap.size w w2) := HB2.out.grown hgrow2 hs2 (fun q hq => by rw [← Option.some.inj hq]; exact Nat.le_refl _)
  clear hown2 hgrow2
  refine (opsJ_any _).mono ?_
  rintro e x3 ⟨rfl, H3, hb3⟩
  have HO4 : Hid (OwnS x3 w.heap.size v2 (opsT ++ opsO)) := HO3.out.stays hb3
  have HB4 : Hid (Below w.heap.size w x3) := below_call HB3.out hb3
  have hs4 := HB4.out.size
  clear hb3
  go_wp2_with (at_builtin; refine wpList_append_own _ rfl (.tmp 3) (.tmp 4) 63 rfl w.heap.size 9 i0 (.string ⟨#[]⟩) 1 16 Tryd.underlying63 hi hz0 hz1 hz2 rfl (by decide) _ _ _ rfl HO4.out ⟨w2.heap.size, 0, none⟩ 8 8 (cellsS opsJ) rfl rfl (list_news H3.out) (cellsS_one _) (Nat.le_of_ble_eq_true rfl) (Nat.le_of_ble_eq_true rfl) hs4 ?_; intro v3 w3 hown3 hgrow3 _)
  go_ret
  exact ⟨_, rfl, hown3, HB4.out.grown hgrow3 hs4 (fun q hq => (HO4.out.lt q hq).1)⟩
def flatR (rows : List (List ByteArray)) : List ByteArray := (rows.map fun R => R.filter fun s => !(s.toList == [])).flatten
def rowS16 (R : List ByteArray) : Array Value := (R.map Value.string).toArray
theorem opsRows_i (k : Nat) (hk : k < 3) (W : World) : (Instr.index 76 (.agg opsV) (.int .i64 (k : Int))).run Tryd.prog W = .ok (.agg (rowS16 (opsRows.getD k []))) W := by
  obtain rfl | rfl | rfl : k = 0 ∨ k = 1 ∨ k = 2 := by omega
  · kernel_rfl
  · kernel_rfl
  · kernel_rfl
theorem opsRows_len (k : Nat) (hk : k < 3) : (opsRows.getD k []).length = 16 := by
  obtain rfl | rfl | rfl : k = 0 ∨ k = 1 ∨ k = 2 := by omega
  · kernel_rfl
  · kernel_rfl
  · kernel_rfl
theorem rowS_i0 (a0 a1 a2 a3 a4 a5 a6 a7 a8 a9 a10 a11 a12 a13 a14 a15 : ByteArray) (W : World) : (Instr.index 75 (.agg (rowS16 [a0, a1, a2, a3, a4, a5, a6, a7, a8, a9, a10, a11, a12, a13, a14, a15])) (.int .i64 0)).run Tryd.prog W = .ok (.string a0) W := by kernel_rfl
theorem rowS_i1 (a0 a1 a2 a3 a4 a5 a6 a7 a8 a9 a10 a11 a12 a13 a14 a15 : ByteArray) (W : World) : (Instr.index 75 (.agg (rowS16 [a0, a1, a2, a3, a4, a5, a6, a7, a8, a9, a10, a11, a12, a13, a14, a15])) (.int .i64 1)).run Tryd.prog W = .ok (.string a1) W := by kernel_rfl
theorem rowS_i2 (a0 a1 a2 a3 a4 a5 a6 a7 a8 a9 a10 a11 a12 a13 a14 a15 : ByteArray) (W : World) : (Instr.index 75 (.agg (rowS16 [a0, a1, a2, a3, a4, a5, a6, a7, a8, a9, a10, a11, a12, a13, a14, a15])) (.int .i64 2)).run Tryd.prog W = .ok (.string a2) W := by kernel_rfl
theorem rowS_i3 (a0 a1 a2 a3 a4 a5 a6 a7 a8 a9 a10 a11 a12 a13 a14 a15 : ByteArray) (W : World) : (Instr.index 75 (.agg (rowS16 [a0, a1, a2, a3, a4, a5, a6, a7, a8, a9, a10, a11, a12, a13, a14, a15])) (.int .i64 3)).run Tryd.prog W = .ok (.string a3) W := by kernel_rfl
theorem rowS_i4 (a0 a1 a2 a3 a4 a5 a6 a7 a8 a9 a10 a11 a12 a13 a14 a15 : ByteArray) (W : World) : (Instr.index 75 (.agg (rowS16 [a0, a1, a2, a3, a4, a5, a6, a7, a8, a9, a10, a11, a12, a13, a14, a15])) (.int .i64 4)).run Tryd.prog W = .ok (.string a4) W := by kernel_rfl
theorem rowS_i5 (a0 a1 a2 a3 a4 a5 a6 a7 a8 a9 a10 a11 a12 a13 a14 a15 : ByteArray) (W : World) : (Instr.index 75 (.agg (rowS16 [a0, a1, a2, a3, a4, a5, a6, a7, a8, a9, a10, a11, a12, a13, a14, a15])) (.int .i64 5)).run Tryd.prog W = .ok (.string a5) W := by kernel_rfl
theorem rowS_i6 (a0 a1 a2 a3 a4 a5 a6 a7 a8 a9 a10 a11 a12 a13 a14 a15 : ByteArray) (W : World) : (Instr.index 75 (.agg (rowS16 [a0, a1, a2, a3, a4, a5, a6, a7, a8, a9, a10, a11, a12, a13, a14, a15])) (.int .i64 6)).run Tryd.prog W = .ok (.string a6) W := by kernel_rfl
theorem rowS_i7 (a0 a1 a2 a3 a4 a5 a6 a7 a8 a9 a10 a11 a12 a13 a14 a15 : ByteArray) (W : World) : (Instr.index 75 (.agg (rowS16 [a0, a1, a2, a3, a4, a5, a6, a7, a8, a9, a10, a11, a12, a13, a14, a15])) (.int .i64 7)).run Tryd.prog W = .ok (.string a7) W := by kernel_rfl
theorem rowS_i8 (a0 a1 a2 a3 a4 a5 a6 a7 a8 a9 a10 a11 a12 a13 a14 a15 : ByteArray) (W : World) : (Instr.index 75 (.agg (rowS16 [a0, a1, a2, a3, a4, a5, a6, a7, a8, a9, a10, a11, a12, a13, a14, a15])) (.int .i64 8)).run Tryd.prog W = .ok (.string a8) W := by kernel_rfl
theorem rowS_i9 (a0 a1 a2 a3 a4 a5 a6 a7 a8 a9 a10 a11 a12 a13 a14 a15 : ByteArray) (W : World) : (Instr.index 75 (.agg (rowS16 [a0, a1, a2, a3, a4, a5, a6, a7, a8, a9, a10, a11, a12, a13, a14, a15])) (.int .i64 9)).run Tryd.prog W = .ok (.string a9) W := by kernel_rfl
theorem rowS_i10 (a0 a1 a2 a3 a4 a5 a6 a7 a8 a9 a10 a11 a12 a13 a14 a15 : ByteArray) (W : World) : (Instr.index 75 (.agg (rowS16 [a0, a1, a2, a3, a4, a5, a6, a7, a8, a9, a10, a11, a12, a13, a14, a15])) (.int .i64 10)).run Tryd.prog W = .ok (.string a10) W := by kernel_rfl
theorem rowS_i11 (a0 a1 a2 a3 a4 a5 a6 a7 a8 a9 a10 a11 a12 a13 a14 a15 : ByteArray) (W : World) : (Instr.index 75 (.agg (rowS16 [a0, a1, a2, a3, a4, a5, a6, a7, a8, a9, a10, a11, a12, a13, a14, a15])) (.int .i64 11)).run Tryd.prog W = .ok (.string a11) W := by kernel_rfl
theorem rowS_i12 (a0 a1 a2 a3 a4 a5 a6 a7 a8 a9 a10 a11 a12 a13 a14 a15 : ByteArray) (W : World) : (Instr.index 75 (.agg (rowS16 [a0, a1, a2, a3, a4, a5, a6, a7, a8, a9, a10, a11, a12, a13, a14, a15])) (.int .i64 12)).run Tryd.prog W = .ok (.string a12) W := by kernel_rfl
theorem rowS_i13 (a0 a1 a2 a3 a4 a5 a6 a7 a8 a9 a10 a11 a12 a13 a14 a15 : ByteArray) (W : World) : (Instr.index 75 (.agg (rowS16 [a0, a1, a2, a3, a4, a5, a6, a7, a8, a9, a10, a11, a12, a13, a14, a15])) (.int .i64 13)).run Tryd.prog W = .ok (.string a13) W := by kernel_rfl
theorem rowS_i14 (a0 a1 a2 a3 a4 a5 a6 a7 a8 a9 a10 a11 a12 a13 a14 a15 : ByteArray) (W : World) : (Instr.index 75 (.agg (rowS16 [a0, a1, a2, a3, a4, a5, a6, a7, a8, a9, a10, a11, a12, a13, a14, a15])) (.int .i64 14)).run Tryd.prog W = .ok (.string a14) W := by kernel_rfl
theorem rowS_i15 (a0 a1 a2 a3 a4 a5 a6 a7 a8 a9 a10 a11 a12 a13 a14 a15 : ByteArray) (W : World) : (Instr.index 75 (.agg (rowS16 [a0, a1, a2, a3, a4, a5, a6, a7, a8, a9, a10, a11, a12, a13, a14, a15])) (.int .i64 15)).run Tryd.prog W = .ok (.string a15) W := by kernel_rfl
theorem rowS_i (R : List ByteArray) (hR : R.length = 16) (k : Nat) (hk : k < 16) (W : World) : (Instr.index 75 (.agg (rowS16 R)) (.int .i64 (k : Int))).run Tryd.prog W = .ok (.string (R.getD k ⟨#[]⟩)) W := by
  match R, hR with
  | [a0, a1, a2, a3, a4, a5, a6, a7, a8, a9, a10, a11, a12, a13, a14, a15], _ =>
    obtain rfl | rfl | rfl | rfl | rfl | rfl | rfl | rfl | rfl | rfl | rfl | rfl | rfl | rfl | rfl | rfl : k = 0 ∨ k = 1 ∨ k = 2 ∨ k = 3 ∨ k = 4 ∨ k = 5 ∨ k = 6 ∨ k = 7 ∨ k = 8 ∨ k = 9 ∨ k = 10 ∨ k = 11 ∨ k = 12 ∨ k = 13 ∨ k = 14 ∨ k = 15 := by omega
    · exact rowS_i0 _ _ _ _ _ _ _ _ _ _ _ _ _ _ _ _ W
    · exact rowS_i1 _ _ _ _ _ _ _ _ _ _ _ _ _ _ _ _ W
    · exact rowS_i2 _ _ _ _ _ _ _ _ _ _ _ _ _ _ _ _ W
    · exact rowS_i3 _ _ _ _ _ _ _ _ _ _ _ _ _ _ _ _ W
    · exact rowS_i4 _ _ _ _ _ _ _ _ _ _ _ _ _ _ _ _ W
    · exact rowS_i5 _ _ _ _ _ _ _ _ _ _ _ _ _ _ _ _ W
    · exact rowS_i6 _ _ _ _ _ _ _ _ _ _ _ _ _ _ _ _ W
    · exact rowS_i7 _ _ _ _ _ _ _ _ _ _ _ _ _ _ _ _ W
    · exact rowS_i8 _ _ _ _ _ _ _ _ _ _ _ _ _ _ _ _ W
    · exact rowS_i9 _ _ _ _ _ _ _ _ _ _ _ _ _ _ _ _ W
    · exact rowS_i10 _ _ _ _ _ _ _ _ _ _ _ _ _ _ _ _ W
    · exact rowS_i11 _ _ _ _ _ _ _ _ _ _ _ _ _ _ _ _ W
    · exact rowS_i12 _ _ _ _ _ _ _ _ _ _ _ _ _ _ _ _ W
    · exact rowS_i13 _ _ _ _ _ _ _ _ _ _ _ _ _ _ _ _ W
    · exact rowS_i14 _ _ _ _ _ _ _ _ _ _ _ _ _ _ _ _ W
    · exact rowS_i15 _ _ _ _ _ _ _ _ _ _ _ _ _ _ _ _ W
theorem rowS16_size (R : List ByteArray) : (rowS16 R).size = R.length := by simp [rowS16]
theorem rowS16_one (R : List ByteArray) : (rowS16 R).all (·.oneCell') = true := by simp [rowS16, Value.oneCell']
end Go.Proofs.YtknielpkmablkaaDoor
