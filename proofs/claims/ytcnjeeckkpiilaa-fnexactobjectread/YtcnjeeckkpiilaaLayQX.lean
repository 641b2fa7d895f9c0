/- Rows as bytes, whole, by the program: layEach, layRow, ObjectBytes. -/
import Derived.Test.YtcnjeeckkpiilaaRows
import Derived.WalkKit
import Derived.WalkSpells
import Derived.WalkLawsBesides
import Derived.Outline
import Derived.RegionTactic
import Derived.BigRegion
import Derived.Deep.RegionHeld3
import Derived.Test.YtcnjeeckkpiilaaBun0
import Derived.Test.YtcnjeeckkpiilaaBun1
import Derived.Test.YtcnjeeckkpiilaaOwnX
import Derived.Test.YtcnjeeckkpiilaaOwnSX
import Derived.Test.YtcnjeeckkpiilaaBun9
import Derived.Test.YtcnjeeckkpiilaaNameX
import Derived.Test.YtcnjeeckkpiilaaBun3
import Derived.Test.YtcnjeeckkpiilaaRowXX
import Derived.Test.YtcnjeeckkpiilaaBun22
import Derived.Test.YtcnjeeckkpiilaaPutNumX
import Derived.Test.YtcnjeeckkpiilaaSymAX
import Derived.Test.YtcnjeeckkpiilaaRefAX
import Derived.Test.YtcnjeeckkpiilaaLayPX
import Derived.Test.YtcnjeeckkpiilaaObjPX
namespace Go.Proofs.Ytcnjeeckkpiilaa
open Go.RowKit
set_option linter.unusedVariables false

theorem OwnS.moreX {w : World} {B : Nat} {v : Value} {L : List ByteArray} {t : ByteArray} (h : w.ownsRow B 9 1 v (L.length + 1) (cellsS L ++ [.string t])) : OwnS w B v (L ++ [t]) := by
  unfold OwnS
  rw [List.length_append]
  simpa [cellsS] using h
theorem catL_bound {ts : List ByteArray} {c : Nat} (h : ∀ t ∈ ts, t.size ≤ c) : (catL ts).size ≤ ts.length * c := by
  induction ts with
  | nil => simp [catL]
  | cons t ts ih =>
    have h1 := h t (List.mem_cons_self ..)
    have h2 := ih (fun u hu => h u (List.mem_cons_of_mem _ hu))
    simp only [catL, ByteArray.size_append, List.length_cons, Nat.succ_mul]
    omega
theorem take_map_succ {α : Type} (f : α → ByteArray) (L : List α) (k : Nat) (h : k < L.length) : (L.take (k + 1)).map f = (L.take k).map f ++ [f L[k]] := by
  rw [List.take_succ_eq_append_getElem h, List.map_append]; rfl
theorem putT_small {s : ByteArray} (h : s.size ≤ 20) : (putT s).size ≤ 30 := by
  unfold putT
  rw [if_neg (by omega), ByteArray.size_append]
  have := putS_le (foldN (s.size : Int))
  omega
theorem symT_le {s : symE} (h : s.1.size ≤ 20) : (symT s).size ≤ 60 := by
  have h1 := putT_small h
  have h2 := numT_le s.2.1
  have h3 := flagT_le s.2.2
  unfold symT
  simp only [catL, ByteArray.size_append]
  show _ + (_ + (_ + 0)) ≤ 60
  omega
theorem refT_le {s : refE} (h : s.2.1.size ≤ 20) : (refT s).size ≤ 70 := by
  have h1 := putT_small h
  have h2 := numT_le s.1
  have h4 := numT_le s.2.2.1
  have h3 := flagT_le s.2.2.2
  unfold refT
  simp only [catL, ByteArray.size_append]
  show _ + (_ + (_ + (_ + 0))) ≤ 70
  omega
set_option maxRecDepth 100000 in
set_option maxHeartbeats 1600000 in
theorem layEachN_any (a : Option Addr) (L : List Int) (cap : Nat) (w : World) (hR : ReadI w a L) (hW : ∀ n ∈ L, is64 n) (hl : L.length ≤ 1048576) :
    Calls Try.prog 75 #[.slice a L.length cap, .func (.func 38) #[] #[]] w fun e w' => e = .returned (.string (catL (L.map numT))) ∧ Below w.heap.size w w' := by
  obtain ⟨i0, hi, hz0, hz1, hz2⟩ := info_parts infoS
  have HR : Hid (ReadI w a L) := hR
  have HW : Hid (∀ n ∈ L, is64 n) := hW
  clear hR hW
  go_enter Try.func75, Try.ntmps75
  go_wp2
  go_loopw [5, 10] (fun v iv wr => ∃ k : Nat, k ≤ L.length ∧ iv = .int .i64 k ∧ Hid (OwnS wr w.heap.size v ((L.take k).map numT)) ∧ Hid (Below w.heap.size w wr)) (fun _ iv _ => L.length - (intOf iv).toNat)
  case atStart => exact ⟨0, by omega, rfl, OwnS.nil _ _, Below.refl _ _⟩
  case round =>
    obtain ⟨k, hk, rfl, HO, HB⟩ := hrel
    have hsz := HB.out.size
    by_cases hlt : k < L.length
    · obtain ⟨x, rfl, hx, hc⟩ := (HR.out.below HB.out) (by omega)
      have c0 := hc k hlt
      obtain ⟨q0, q1⟩ := HW.out L[k] (List.getElem_mem hlt)
      clear hc
      have HTK : Hid (_ = _) := take_map_succ numT L k hlt
      have hlk : ((L.take k).map numT).length = k := by simp; omega
      have HLK : Hid (_ = _) := hlk
      clear hlk
      have hi0 : (0 : Int) ≤ (k : Int) := by omega
      have hi1 : (k : Int) < (L.length : Int) := by omega
      go_wp2_with fail
      refine (implNum_any L[k] _ q0 q1).mono ?_
      rintro e x2 ⟨rfl, hb⟩
      have HBx : Hid (Below w.heap.size w x2) := below_call (HB.out) hb
      have HOx : Hid (OwnS x2 w.heap.size _ ((L.take k).map numT)) := OwnS.stays HO.out hb
      have hsx := HBx.out.size
      clear hb
      generalize numT L[k] = t at *
      have hkk : ((L.take k).map numT).length ≤ 1048576 := by rw [HLK.out]; omega
      generalize (L.take k).map numT = TS at *
      go_wp2_with (at_builtin; refine wpList_append_own _ rfl (.tmp 14) (.tmp 18) 103 rfl w.heap.size 9 i0 (.string ⟨#[]⟩) 1 16 Try.underlying103 hi hz0 hz1 hz2 rfl (by decide) _ TS.length (cellsS TS) rfl (HOx.out.alloc _) ⟨x2.heap.size, 0, none⟩ 1 1 [.string t] rfl rfl (cell_one_new _ _ _) (one_cellS _) (by unfold maxLen; omega) (by omega) (by simp; omega) ?_; intro v2 w2 hown2 hgrow2 _)
      have HOW : Hid (OwnS w2 w.heap.size v2 (TS ++ [t])) := OwnS.moreX hown2
      have HBW : Hid (Below w.heap.size w w2) := (below_more HBx.out _).grown hgrow2 (by simp; omega) (fun j hj => (HOx.out.lt j hj).1)
      clear hown2 hgrow2
      go_roundw
      case rel => exact ⟨k + 1, by omega, by go_num, by rw [HTK.out]; exact HOW.out, HBW.out⟩
      case measure => simp [intOf]; omega
    · obtain rfl : k = L.length := by omega
      have HTA : Hid ((L.take L.length).map numT = L.map numT) := by show _ = _; rw [List.take_length]
      have HBD : Hid ((catL (L.map numT)).size ≤ 400000000) := (Nat.le_trans (catL_bound (c := 10) (fun t ht => by obtain ⟨n, _, rfl⟩ := List.mem_map.1 ht; exact numT_le n)) (by rw [List.length_map]; omega))
      rw [HTA.out] at HO
      go_wp2_with fail
      refine (join_ownX (L.map numT) _ _ _ HO.out (by rw [List.length_map]; omega) HBD.out).mono ?_
      rintro e x2 ⟨rfl, hb⟩
      have HB2 : Hid (Below w.heap.size w x2) := below_call HB.out hb
      go_wp2
      go_ret
      exact ⟨rfl, HB2.out⟩
set_option maxRecDepth 100000 in
set_option maxHeartbeats 1600000 in
theorem layRowN_any (a : Option Addr) (L : List Int) (cap : Nat) (w : World) (hR : ReadI w a L) (hW : ∀ n ∈ L, is64 n) (hl : L.length ≤ 1048576) :
    Calls Try.prog 37 #[.slice a L.length cap, .func (.func 38) #[] #[]] w fun e w' => e = .returned (.string (catL [numT (L.length : Int), catL (L.map numT)])) ∧ Below w.heap.size w w' := by
  have HR : Hid (ReadI w a L) := hR
  have HW : Hid (∀ n ∈ L, is64 n) := hW
  clear hR hW
  have HBD : Hid ((catL (L.map numT)).size ≤ 300000000) := (Nat.le_trans (catL_bound (c := 10) (fun t ht => by obtain ⟨n, _, rfl⟩ := List.mem_map.1 ht; exact numT_le n)) (by rw [List.length_map]; omega))
  have hnl := numT_le (L.length : Int)
  go_enter Try.func37, Try.ntmps37
  go_wp2_with fail
  refine (implNum_any (L.length : Int) _ (by omega) (by omega)).mono ?_
  rintro e x1 ⟨rfl, hb⟩
  have HB1 : Hid (Below w.heap.size w x1) := hb
  clear hb
  go_wp2_with fail
  refine (layEachN_any a L cap x1 (HR.out.below HB1.out) HW.out hl).mono ?_
  rintro e x2 ⟨rfl, hb⟩
  have HB2 : Hid (Below w.heap.size w x2) := below_call HB1.out hb
  clear hb
  have hcb := HBD.out
  go_wp2_with fail
  refine (join2X (numT (L.length : Int)) (catL (L.map numT)) x2 (by omega)).mono ?_
  rintro e x3 ⟨rfl, hb⟩
  have HB3 : Hid (Below w.heap.size w x3) := below_call HB2.out hb
  go_wp2
  go_ret
  exact ⟨rfl, HB3.out⟩
set_option maxRecDepth 100000 in
set_option maxHeartbeats 1600000 in
theorem layEachS_any (a : Option Addr) (L : List symE) (cap : Nat) (w : World) (hR : RowIs 3 symC w a L) (hW : ∀ s ∈ L, s.1.size ≤ 20 ∧ is64 s.2.1) (hl : L.length ≤ 1048576) :
    Calls Try.prog 77 #[.slice a L.length cap, .func (.func 40) #[] #[]] w fun e w' => e = .returned (.string (catL (L.map symT))) ∧ Below w.heap.size w w' := by
  obtain ⟨i0, hi, hz0, hz1, hz2⟩ := info_parts infoS
  have HN : Hid (∀ s ∈ L, s.1.size ≤ 20) := fun s hs => (hW s hs).1
  have HR : Hid (RowIs 3 symC w a L) := hR
  have HW : Hid (∀ s ∈ L, s.1.size ≤ 20 ∧ is64 s.2.1) := hW
  clear hR hW
  go_enter Try.func77, Try.ntmps77
  go_wp2
  go_loopw [5, 10] (fun v iv wr => ∃ k : Nat, k ≤ L.length ∧ iv = .int .i64 k ∧ Hid (OwnS wr w.heap.size v ((L.take k).map symT)) ∧ Hid (Below w.heap.size w wr)) (fun _ iv _ => L.length - (intOf iv).toNat)
  case atStart => exact ⟨0, by omega, rfl, OwnS.nil _ _, Below.refl _ _⟩
  case round =>
    obtain ⟨k, hk, rfl, HO, HB⟩ := hrel
    have hsz := HB.out.size
    by_cases hlt : k < L.length
    · obtain ⟨x, rfl, hx, hE⟩ := (HR.out.below HB.out).elem k hlt
      obtain ⟨c0, c1, c2⟩ := ElemAt.three hE
      obtain ⟨q0, q1⟩ := HW.out L[k] (List.getElem_mem hlt)
      clear hE
      have HTK : Hid (_ = _) := take_map_succ symT L k hlt
      have hlk : ((L.take k).map symT).length = k := by simp; omega
      have HLK : Hid (_ = _) := hlk
      clear hlk
      have hi0 : (0 : Int) ≤ (k : Int) := by omega
      have hi1 : (k : Int) < (L.length : Int) := by omega
      have HSB := symBytes_any L[k].1 L[k].2.1 L[k].2.2 (wr.alloc (.cells #[.string L[k].1, .int .i64 L[k].2.1, .bool L[k].2.2] 65)) (by unfold maxLen; omega) q1
      go_wp2_with fail
      refine HSB.mono ?_
      rintro e x2 ⟨rfl, hb⟩
      have HBx : Hid (Below w.heap.size w x2) := below_call (below_more HB.out _) hb
      have HOx : Hid (OwnS x2 w.heap.size _ ((L.take k).map symT)) := OwnS.stays (HO.out.alloc _) hb
      have hsx := HBx.out.size
      clear hb
      generalize symT L[k] = t at *
      have hkk : ((L.take k).map symT).length ≤ 1048576 := by rw [HLK.out]; omega
      generalize (L.take k).map symT = TS at *
      go_wp2_with (at_builtin; refine wpList_append_own _ rfl (.tmp 14) (.tmp 18) 103 rfl w.heap.size 9 i0 (.string ⟨#[]⟩) 1 16 Try.underlying103 hi hz0 hz1 hz2 rfl (by decide) _ TS.length (cellsS TS) rfl (HOx.out.alloc _) ⟨x2.heap.size, 0, none⟩ 1 1 [.string t] rfl rfl (cell_one_new _ _ _) (one_cellS _) (by unfold maxLen; omega) (by omega) (by simp; omega) ?_; intro v2 w2 hown2 hgrow2 _)
      have HOW : Hid (OwnS w2 w.heap.size v2 (TS ++ [t])) := OwnS.moreX hown2
      have HBW : Hid (Below w.heap.size w w2) := (below_more HBx.out _).grown hgrow2 (by simp; omega) (fun j hj => (HOx.out.lt j hj).1)
      clear hown2 hgrow2
      go_roundw
      case rel => exact ⟨k + 1, by omega, by go_num, by rw [HTK.out]; exact HOW.out, HBW.out⟩
      case measure => simp [intOf]; omega
    · obtain rfl : k = L.length := by omega
      have HTA : Hid ((L.take L.length).map symT = L.map symT) := by show _ = _; rw [List.take_length]
      have HBD : Hid ((catL (L.map symT)).size ≤ 400000000) := (Nat.le_trans (catL_bound (c := 60) (fun t ht => by obtain ⟨n, _, rfl⟩ := List.mem_map.1 ht; exact symT_le (HN.out n ‹_›))) (by rw [List.length_map]; omega))
      rw [HTA.out] at HO
      go_wp2_with fail
      refine (join_ownX (L.map symT) _ _ _ HO.out (by rw [List.length_map]; omega) HBD.out).mono ?_
      rintro e x2 ⟨rfl, hb⟩
      have HB2 : Hid (Below w.heap.size w x2) := below_call HB.out hb
      go_wp2
      go_ret
      exact ⟨rfl, HB2.out⟩
set_option maxRecDepth 100000 in
set_option maxHeartbeats 1600000 in
theorem layRowS_any (a : Option Addr) (L : List symE) (cap : Nat) (w : World) (hR : RowIs 3 symC w a L) (hW : ∀ s ∈ L, s.1.size ≤ 20 ∧ is64 s.2.1) (hl : L.length ≤ 1048576) :
    Calls Try.prog 39 #[.slice a L.length cap, .func (.func 40) #[] #[]] w fun e w' => e = .returned (.string (catL [numT (L.length : Int), catL (L.map symT)])) ∧ Below w.heap.size w w' := by
  have HN : Hid (∀ s ∈ L, s.1.size ≤ 20) := fun s hs => (hW s hs).1
  have HR : Hid (RowIs 3 symC w a L) := hR
  have HW : Hid (∀ s ∈ L, s.1.size ≤ 20 ∧ is64 s.2.1) := hW
  clear hR hW
  have HBD : Hid ((catL (L.map symT)).size ≤ 300000000) := (Nat.le_trans (catL_bound (c := 60) (fun t ht => by obtain ⟨n, _, rfl⟩ := List.mem_map.1 ht; exact symT_le (HN.out n ‹_›))) (by rw [List.length_map]; omega))
  have hnl := numT_le (L.length : Int)
  go_enter Try.func39, Try.ntmps39
  go_wp2_with fail
  refine (implNum_any (L.length : Int) _ (by omega) (by omega)).mono ?_
  rintro e x1 ⟨rfl, hb⟩
  have HB1 : Hid (Below w.heap.size w x1) := hb
  clear hb
  go_wp2_with fail
  refine (layEachS_any a L cap x1 (HR.out.below HB1.out) HW.out hl).mono ?_
  rintro e x2 ⟨rfl, hb⟩
  have HB2 : Hid (Below w.heap.size w x2) := below_call HB1.out hb
  clear hb
  have hcb := HBD.out
  go_wp2_with fail
  refine (join2X (numT (L.length : Int)) (catL (L.map symT)) x2 (by omega)).mono ?_
  rintro e x3 ⟨rfl, hb⟩
  have HB3 : Hid (Below w.heap.size w x3) := below_call HB2.out hb
  go_wp2
  go_ret
  exact ⟨rfl, HB3.out⟩
set_option maxRecDepth 100000 in
set_option maxHeartbeats 1600000 in
theorem layEachR_any (a : Option Addr) (L : List refE) (cap : Nat) (w : World) (hR : RowIs 4 refC w a L) (hW : ∀ s ∈ L, s.2.1.size ≤ 20 ∧ is64 s.1 ∧ is64 s.2.2.1) (hl : L.length ≤ 1048576) :
    Calls Try.prog 80 #[.slice a L.length cap, .func (.func 42) #[] #[]] w fun e w' => e = .returned (.string (catL (L.map refT))) ∧ Below w.heap.size w w' := by
  obtain ⟨i0, hi, hz0, hz1, hz2⟩ := info_parts infoS
  have HN : Hid (∀ s ∈ L, s.2.1.size ≤ 20) := fun s hs => (hW s hs).1
  have HR : Hid (RowIs 4 refC w a L) := hR
  have HW : Hid (∀ s ∈ L, s.2.1.size ≤ 20 ∧ is64 s.1 ∧ is64 s.2.2.1) := hW
  clear hR hW
  go_enter Try.func80, Try.ntmps80
  go_wp2
  go_loopw [5, 10] (fun v iv wr => ∃ k : Nat, k ≤ L.length ∧ iv = .int .i64 k ∧ Hid (OwnS wr w.heap.size v ((L.take k).map refT)) ∧ Hid (Below w.heap.size w wr)) (fun _ iv _ => L.length - (intOf iv).toNat)
  case atStart => exact ⟨0, by omega, rfl, OwnS.nil _ _, Below.refl _ _⟩
  case round =>
    obtain ⟨k, hk, rfl, HO, HB⟩ := hrel
    have hsz := HB.out.size
    by_cases hlt : k < L.length
    · obtain ⟨x, rfl, hx, hE⟩ := (HR.out.below HB.out).elem k hlt
      obtain ⟨c0, c1, c2, c3⟩ := ElemAt.four hE
      obtain ⟨q0, q1, q2⟩ := HW.out L[k] (List.getElem_mem hlt)
      clear hE
      have HTK : Hid (_ = _) := take_map_succ refT L k hlt
      have hlk : ((L.take k).map refT).length = k := by simp; omega
      have HLK : Hid (_ = _) := hlk
      clear hlk
      have hi0 : (0 : Int) ≤ (k : Int) := by omega
      have hi1 : (k : Int) < (L.length : Int) := by omega
      have HSB := refBytes_any L[k].1 L[k].2.1 L[k].2.2.1 L[k].2.2.2 (wr.alloc (.cells #[.int .i64 L[k].1, .string L[k].2.1, .int .i64 L[k].2.2.1, .bool L[k].2.2.2] 70)) (by unfold maxLen; omega) q1 q2
      go_wp2_with fail
      refine HSB.mono ?_
      rintro e x2 ⟨rfl, hb⟩
      have HBx : Hid (Below w.heap.size w x2) := below_call (below_more HB.out _) hb
      have HOx : Hid (OwnS x2 w.heap.size _ ((L.take k).map refT)) := OwnS.stays (HO.out.alloc _) hb
      have hsx := HBx.out.size
      clear hb
      generalize refT L[k] = t at *
      have hkk : ((L.take k).map refT).length ≤ 1048576 := by rw [HLK.out]; omega
      generalize (L.take k).map refT = TS at *
      go_wp2_with (at_builtin; refine wpList_append_own _ rfl (.tmp 14) (.tmp 18) 103 rfl w.heap.size 9 i0 (.string ⟨#[]⟩) 1 16 Try.underlying103 hi hz0 hz1 hz2 rfl (by decide) _ TS.length (cellsS TS) rfl (HOx.out.alloc _) ⟨x2.heap.size, 0, none⟩ 1 1 [.string t] rfl rfl (cell_one_new _ _ _) (one_cellS _) (by unfold maxLen; omega) (by omega) (by simp; omega) ?_; intro v2 w2 hown2 hgrow2 _)
      have HOW : Hid (OwnS w2 w.heap.size v2 (TS ++ [t])) := OwnS.moreX hown2
      have HBW : Hid (Below w.heap.size w w2) := (below_more HBx.out _).grown hgrow2 (by simp; omega) (fun j hj => (HOx.out.lt j hj).1)
      clear hown2 hgrow2
      go_roundw
      case rel => exact ⟨k + 1, by omega, by go_num, by rw [HTK.out]; exact HOW.out, HBW.out⟩
      case measure => simp [intOf]; omega
    · obtain rfl : k = L.length := by omega
      have HTA : Hid ((L.take L.length).map refT = L.map refT) := by show _ = _; rw [List.take_length]
      have HBD : Hid ((catL (L.map refT)).size ≤ 400000000) := (Nat.le_trans (catL_bound (c := 70) (fun t ht => by obtain ⟨n, _, rfl⟩ := List.mem_map.1 ht; exact refT_le (HN.out n ‹_›))) (by rw [List.length_map]; omega))
      rw [HTA.out] at HO
      go_wp2_with fail
      refine (join_ownX (L.map refT) _ _ _ HO.out (by rw [List.length_map]; omega) HBD.out).mono ?_
      rintro e x2 ⟨rfl, hb⟩
      have HB2 : Hid (Below w.heap.size w x2) := below_call HB.out hb
      go_wp2
      go_ret
      exact ⟨rfl, HB2.out⟩
set_option maxRecDepth 100000 in
set_option maxHeartbeats 1600000 in
theorem layRowR_any (a : Option Addr) (L : List refE) (cap : Nat) (w : World) (hR : RowIs 4 refC w a L) (hW : ∀ s ∈ L, s.2.1.size ≤ 20 ∧ is64 s.1 ∧ is64 s.2.2.1) (hl : L.length ≤ 1048576) :
    Calls Try.prog 41 #[.slice a L.length cap, .func (.func 42) #[] #[]] w fun e w' => e = .returned (.string (catL [numT (L.length : Int), catL (L.map refT)])) ∧ Below w.heap.size w w' := by
  have HN : Hid (∀ s ∈ L, s.2.1.size ≤ 20) := fun s hs => (hW s hs).1
  have HR : Hid (RowIs 4 refC w a L) := hR
  have HW : Hid (∀ s ∈ L, s.2.1.size ≤ 20 ∧ is64 s.1 ∧ is64 s.2.2.1) := hW
  clear hR hW
  have HBD : Hid ((catL (L.map refT)).size ≤ 300000000) := (Nat.le_trans (catL_bound (c := 70) (fun t ht => by obtain ⟨n, _, rfl⟩ := List.mem_map.1 ht; exact refT_le (HN.out n ‹_›))) (by rw [List.length_map]; omega))
  have hnl := numT_le (L.length : Int)
  go_enter Try.func41, Try.ntmps41
  go_wp2_with fail
  refine (implNum_any (L.length : Int) _ (by omega) (by omega)).mono ?_
  rintro e x1 ⟨rfl, hb⟩
  have HB1 : Hid (Below w.heap.size w x1) := hb
  clear hb
  go_wp2_with fail
  refine (layEachR_any a L cap x1 (HR.out.below HB1.out) HW.out hl).mono ?_
  rintro e x2 ⟨rfl, hb⟩
  have HB2 : Hid (Below w.heap.size w x2) := below_call HB1.out hb
  clear hb
  have hcb := HBD.out
  go_wp2_with fail
  refine (join2X (numT (L.length : Int)) (catL (L.map refT)) x2 (by omega)).mono ?_
  rintro e x3 ⟨rfl, hb⟩
  have HB3 : Hid (Below w.heap.size w x3) := below_call HB2.out hb
  go_wp2
  go_ret
  exact ⟨rfl, HB3.out⟩
def layN (W : List Int) : ByteArray := catL [numT (W.length : Int), catL (W.map numT)]
def layS (S : List symE) : ByteArray := catL [numT (S.length : Int), catL (S.map symT)]
def layR (R : List refE) : ByteArray := catL [numT (R.length : Int), catL (R.map refT)]
def objT (W : List Int) (S : List symE) (R : List refE) : ByteArray := catL [layN W, layS S, layR R]
def objU (W : List Int) (S : List symE) (R : List refE) : ByteArray := if 8000 < (objT W S R).size then ⟨#[]⟩ else objT W S R
def objO (W : List Int) (S : List symE) (R : List refE) : ByteArray := if objB W S R = true then objU W S R else ⟨#[]⟩
theorem lay_le {α : Type} (f : α → ByteArray) (L : List α) (c : Nat) (h : ∀ a ∈ L, (f a).size ≤ c) (hl : L.length ≤ 1048576) : (catL [numT (L.length : Int), catL (L.map f)]).size ≤ 10 + 1048576 * c := by
  have h1 := numT_le (L.length : Int)
  have h2 : (catL (L.map f)).size ≤ L.length * c := by
    have := catL_bound (ts := L.map f) (c := c) (fun t ht => by obtain ⟨n, hn, rfl⟩ := List.mem_map.1 ht; exact h n hn)
    rwa [List.length_map] at this
  have h3 : L.length * c ≤ 1048576 * c := Nat.mul_le_mul_right c hl
  simp only [catL, ByteArray.size_append]
  show _ + (_ + 0) ≤ _
  omega
theorem nameB_size {s : ByteArray} (h : nameB s = true) : s.size ≤ 20 := by
  by_cases h2 : s.size ≤ 20
  · exact h2
  · rw [nameB_f (.inr (by omega))] at h; cases h
/- What a right object holds. -/
theorem obj_nums {W : List Int} {S : List symE} {R : List refE} (h : objB W S R = true) : (∀ n ∈ W, is64 n) ∧ (∀ s ∈ S, s.1.size ≤ 20 ∧ is64 s.2.1) ∧ (∀ s ∈ R, s.2.1.size ≤ 20 ∧ is64 s.1 ∧ is64 s.2.2.1) := by
  unfold objB at h
  simp only [Bool.and_eq_true, decide_eq_true_iff] at h
  obtain ⟨hl, hw, hs, hr⟩ := h
  have hs' := of_decide_eq_true hs
  have hr' := of_decide_eq_true hr
  refine ⟨fun n hn => ?_, fun s hs1 => ?_, fun s hs1 => ?_⟩
  · have := isB_yes (List.all_eq_true.1 hw n hn)
    unfold is64; omega
  · obtain ⟨k, hk, rfl⟩ := List.getElem_of_mem hs1
    have := hs' k hk
    unfold symOk at this
    rw [List.getElem?_eq_getElem hk] at this
    simp only [Bool.and_eq_true] at this
    obtain ⟨h1, h2, _⟩ := this
    have h3 := isB_yes h2
    refine ⟨nameB_size h1, ?_⟩
    unfold is64; omega
  · obtain ⟨k, hk, rfl⟩ := List.getElem_of_mem hs1
    have := hr' k hk
    unfold refOk at this
    rw [List.getElem?_eq_getElem hk] at this
    simp only [Bool.and_eq_true] at this
    obtain ⟨h1, h2, h4, _⟩ := this
    have h3 := isB_yes h2
    have h5 := isB_yes h4
    refine ⟨nameB_size h1, ?_, ?_⟩ <;> (unfold is64; omega)
set_option maxRecDepth 100000 in
set_option maxHeartbeats 3200000 in
theorem implBytes_any (a b c : Option Addr) (W : List Int) (S : List symE) (R : List refE) (ka kb kc : Nat) (w : World) (hO : ObjIs w a b c W S R) (hF : ObjFits W S R) : Calls Try.prog 12 #[.agg #[.slice a W.length ka, .slice b S.length kb, .slice c R.length kc]] w fun e w' => e = .returned (.string (objO W S R)) ∧ Below w.heap.size w w' := by
  have HO : Hid (ObjIs w a b c W S R) := hO
  have HF : Hid (ObjFits W S R) := hF
  clear hO hF
  go_enter Try.func12, Try.ntmps12
  go_wp2_with fail
  refine (implObject_any a b c W S R ka kb kc _ (HO.out.below (below_new w _)) HF.out).mono ?_
  rintro e x1 ⟨rfl, hb⟩
  have HVc : Hid (x1.heap[w.heap.size]? = _) := heap_keep (heap_alloc_new w _) hb
  have HBc : Hid (Below w.heap.size w x1) := below_call (below_new _ _) hb
  clear hb
  cases hok : objB W S R
  · have HI : Hid (objO W S R = ⟨#[]⟩) := by show _ = _; unfold objO; rw [hok]; rfl
    clear hok
    go_wp2
    go_ret
    exact ⟨ret_str HI.out.symm, HBc.out⟩
  have HI : Hid (objO W S R = if 8000 < (objT W S R).size then ⟨#[]⟩ else objT W S R) := by show _ = _; unfold objO; rw [hok]; rfl
  obtain ⟨hn1, hn2, hn3⟩ := obj_nums hok
  have HN1 : Hid (∀ n ∈ W, is64 n) := hn1
  have HN2 : Hid (∀ s ∈ S, s.1.size ≤ 20 ∧ is64 s.2.1) := hn2
  have HN3 : Hid (∀ s ∈ R, s.2.1.size ≤ 20 ∧ is64 s.1 ∧ is64 s.2.2.1) := hn3
  have s1 : (layN W).size ≤ 10485770 := lay_le numT W 10 (fun n _ => numT_le n) HF.out.wl
  have s2 : (layS S).size ≤ 62914570 := lay_le symT S 60 (fun s hs => symT_le (hn2 s hs).1) HF.out.sl
  have s3 : (layR R).size ≤ 73400330 := lay_le refT R 70 (fun s hs => refT_le (hn3 s hs).1) HF.out.rl
  clear hok hn1 hn2 hn3
  obtain ⟨c0, c1, c2⟩ := cells3L HVc.out
  go_wp2_with fail
  go_region_held3 (fun w' => w'.cell? ⟨w.heap.size, 0, none⟩ = some (.slice a W.length ka) ∧ w'.cell? ⟨w.heap.size, 1, none⟩ = some (.slice b S.length kb) ∧ w'.cell? ⟨w.heap.size, 2, none⟩ = some (.slice c R.length kc)) (exact cells3L (by repeat (first | with_reducible exact HVc.out | with_reducible apply heap_drewn | with_reducible apply heap_more))) (first
    | (go_at_call 37; refine (layRowN_any a W ka _ (HO.out.ws.below (by repeat (first | with_reducible exact HBc.out | with_reducible refine Below.drew ?_))) HN1.out HF.out.wl).mono ?_; rintro e xc ⟨rfl, hb⟩; have HVc : Hid (_ = _) := heap_keep (by repeat (first | with_reducible exact HVc.out | with_reducible apply heap_drewn)) hb; have HBc : Hid (Below w.heap.size w xc) := below_call (by repeat (first | with_reducible exact HBc.out | with_reducible refine Below.drew ?_)) hb; clear hb)
    | (go_at_call 39; refine (layRowS_any b S kb _ (HO.out.ss.below (by repeat (first | with_reducible exact HBc.out | with_reducible refine Below.drew ?_))) HN2.out HF.out.sl).mono ?_; rintro e xc ⟨rfl, hb⟩; have HVc : Hid (_ = _) := heap_keep (by repeat (first | with_reducible exact HVc.out | with_reducible apply heap_drewn)) hb; have HBc : Hid (Below w.heap.size w xc) := below_call (by repeat (first | with_reducible exact HBc.out | with_reducible refine Below.drew ?_)) hb; clear hb)
    | (go_at_call 41; refine (layRowR_any c R kc _ (HO.out.rs.below (by repeat (first | with_reducible exact HBc.out | with_reducible refine Below.drew ?_))) HN3.out HF.out.rl).mono ?_; rintro e xc ⟨rfl, hb⟩; have HVc : Hid (_ = _) := heap_keep (by repeat (first | with_reducible exact HVc.out | with_reducible apply heap_drewn)) hb; have HBc : Hid (Below w.heap.size w xc) := below_call (by repeat (first | with_reducible exact HBc.out | with_reducible refine Below.drew ?_)) hb; clear hb)
    | (go_at_call 26; refine (join3X (layN W) (layS S) (layR R) _ (by omega)).mono ?_; rintro e xc ⟨rfl, hb⟩; have HVc : Hid (_ = _) := heap_keep (by repeat (first | with_reducible exact HVc.out | with_reducible apply heap_drewn)) hb; have HBc : Hid (Below w.heap.size w xc) := below_call (by repeat (first | with_reducible exact HBc.out | with_reducible refine Below.drew ?_)) hb; clear hb))
  all_goals
    by_cases h8 : 8000 < (objT W S R).size
    · have HI2 : Hid (objO W S R = ⟨#[]⟩) := by show _ = _; rw [HI.out, if_pos h8]
      have h8' : (8000 : Int) < ((catL [layN W, layS S, layR R]).size : Int) := by show (8000 : Int) < ((objT W S R).size : Int); omega
      go_wp2
      go_ret
      exact ⟨ret_str HI2.out.symm, HBc.out⟩
    · have HI2 : Hid (objO W S R = objT W S R) := by show _ = _; rw [HI.out, if_neg h8]
      have h8' : ¬ (8000 : Int) < ((catL [layN W, layS S, layR R]).size : Int) := by show ¬ (8000 : Int) < ((objT W S R).size : Int); omega
      go_wp2
      go_ret
      exact ⟨ret_str HI2.out.symm, HBc.out⟩
end Go.Proofs.Ytcnjeeckkpiilaa
