/- Rows of numbers, Syms and Refs as bytes, by the program. -/
import Derived.Test.YtcnjeeckkpiilaaRows
import Derived.WalkKit
import Derived.WalkSpells
import Derived.WalkLawsBesides
import Derived.Outline
import Derived.RegionTactic
import Derived.BigRegion
import Derived.Deep.RegionHeld3
import Derived.Test.YtcnjeeckkpiilaaBun0
import Derived.Test.YtcnjeeckkpiilaaBun1
import Derived.Test.YtcnjeeckkpiilaaOwnSX
import Derived.Test.YtcnjeeckkpiilaaBun3
import Derived.Test.YtcnjeeckkpiilaaRowXX
import Derived.Test.YtcnjeeckkpiilaaBun22
import Derived.Test.YtcnjeeckkpiilaaPutNumX
import Derived.Test.YtcnjeeckkpiilaaSymAX
import Derived.Test.YtcnjeeckkpiilaaRefAX
namespace Go.Proofs.Ytcnjeeckkpiilaa
open Go.RowKit
set_option linter.unusedVariables false

def numT (n : Int) : ByteArray := putS (foldN n)
def flagT (b : Bool) : ByteArray := putS (foldN (if b then 1 else 0))
theorem numT_le (n : Int) : (numT n).size ≤ 10 := putS_le _
theorem flagT_le (b : Bool) : (flagT b).size ≤ 10 := putS_le _
theorem putT_le (s : ByteArray) : (putT s).size ≤ 8010 := by
  unfold putT
  by_cases h : 8000 < s.size
  · rw [if_pos h]; show 0 ≤ _; omega
  · rw [if_neg h, ByteArray.size_append]
    have := putS_le (foldN (s.size : Int))
    omega
def symT (s : symE) : ByteArray := catL [putT s.1, numT s.2.1, flagT s.2.2]
def refT (r : refE) : ByteArray := catL [numT r.1, putT r.2.1, numT r.2.2.1, flagT r.2.2.2]
theorem implNum_any (n : Int) (w : World) (h0 : -9223372036854775808 ≤ n) (h1 : n ≤ 9223372036854775807) :
    Calls Try.prog 38 #[.int .i64 n] w fun e w' => e = .returned (.string (numT n)) ∧ Below w.heap.size w w' := implPutNum_any n w h0 h1
theorem putFlag_any (b : Bool) (w : World) : Calls Try.prog 79 #[.bool b] w fun e w' => e = .returned (.string (flagT b)) ∧ Below w.heap.size w w' := by
  cases b
  · go_enter Try.func79, Try.ntmps79
    go_wp2_with fail
    refine (implPutNum_any 0 _ (by omega) (by omega)).mono ?_
    rintro e x ⟨rfl, hb⟩
    go_wp2
    go_ret
    exact ⟨rfl, hb⟩
  · go_enter Try.func79, Try.ntmps79
    go_wp2_with fail
    refine (implPutNum_any 1 _ (by omega) (by omega)).mono ?_
    rintro e x ⟨rfl, hb⟩
    go_wp2
    go_ret
    exact ⟨rfl, hb⟩
theorem join3X (a b c : ByteArray) (w : World) (h : a.size + b.size + c.size ≤ 400000000) :
    Calls Try.prog 26 #[.slice (some ⟨w.heap.size, 0, none⟩) 3 3] (w.alloc (.cells #[.string a, .string b, .string c] 9)) fun e w' => e = .returned (.string (catL [a, b, c])) ∧ Below w.heap.size w w' :=
  join_new [a, b, c] 3 w rfl (by omega) (by simp [catL]; omega)
theorem join4X (a b c d : ByteArray) (w : World) (h : a.size + b.size + c.size + d.size ≤ 400000000) :
    Calls Try.prog 26 #[.slice (some ⟨w.heap.size, 0, none⟩) 4 4] (w.alloc (.cells #[.string a, .string b, .string c, .string d] 9)) fun e w' => e = .returned (.string (catL [a, b, c, d])) ∧ Below w.heap.size w w' :=
  join_new [a, b, c, d] 4 w rfl (by omega) (by simp [catL]; omega)
theorem join2X (a b : ByteArray) (w : World) (h : a.size + b.size ≤ 400000000) :
    Calls Try.prog 26 #[.slice (some ⟨w.heap.size, 0, none⟩) 2 2] (w.alloc (.cells #[.string a, .string b] 9)) fun e w' => e = .returned (.string (catL [a, b])) ∧ Below w.heap.size w w' :=
  join_new [a, b] 2 w rfl (by omega) (by simp [catL]; omega)
theorem cells3L {W : World} {B : Nat} {t : TypeId} {v0 v1 v2 : Value} (hR : W.heap[B]? = some (.cells #[v0, v1, v2] t (0, 0))) : W.cell? ⟨B, 0, none⟩ = some v0 ∧ W.cell? ⟨B, 1, none⟩ = some v1 ∧ W.cell? ⟨B, 2, none⟩ = some v2 := ⟨cell_of_row _ _ 0 _ _ _ hR, cell_of_row _ _ 1 _ _ _ hR, cell_of_row _ _ 2 _ _ _ hR⟩
theorem cells4L {W : World} {B : Nat} {t : TypeId} {v0 v1 v2 v3 : Value} (hR : W.heap[B]? = some (.cells #[v0, v1, v2, v3] t (0, 0))) : W.cell? ⟨B, 0, none⟩ = some v0 ∧ W.cell? ⟨B, 1, none⟩ = some v1 ∧ W.cell? ⟨B, 2, none⟩ = some v2 ∧ W.cell? ⟨B, 3, none⟩ = some v3 := ⟨cell_of_row _ _ 0 _ _ _ hR, cell_of_row _ _ 1 _ _ _ hR, cell_of_row _ _ 2 _ _ _ hR, cell_of_row _ _ 3 _ _ _ hR⟩
def is64 (n : Int) : Prop := -9223372036854775808 ≤ n ∧ n ≤ 9223372036854775807
set_option maxRecDepth 100000 in
set_option maxHeartbeats 1600000 in
theorem symBytes_any (nm : ByteArray) (p : Int) (g : Bool) (w : World) (hn : nm.size ≤ maxLen) (hp : is64 p) : Calls Try.prog 40 #[.agg #[.string nm, .int .i64 p, .bool g]] w fun e w' => e = .returned (.string (symT (nm, p, g))) ∧ Below w.heap.size w w' := by
  obtain ⟨p0, p1⟩ := hp
  have s1 := putT_le nm
  have s2 := numT_le p
  have s3 := flagT_le g
  go_enter Try.func40, Try.ntmps40
  go_wp2_with fail
  have HVc : Hid (_ = _) := heap_alloc_new w (.cells #[.string nm, .int .i64 p, .bool g] 65)
  have HBc : Hid (Below w.heap.size w _) := below_new w (.cells #[.string nm, .int .i64 p, .bool g] 65)
  generalize w.alloc (.cells #[.string nm, .int .i64 p, .bool g] 65) = x0 at *
  obtain ⟨c0, c1, c2⟩ := cells3L HVc.out
  go_region_held3 (fun w' => w'.cell? ⟨w.heap.size, 0, none⟩ = some (.string nm) ∧ w'.cell? ⟨w.heap.size, 1, none⟩ = some (.int .i64 p) ∧ w'.cell? ⟨w.heap.size, 2, none⟩ = some (.bool g)) (exact cells3L (by repeat (first | with_reducible exact HVc.out | with_reducible apply heap_drewn | with_reducible apply heap_more))) (first
    | (go_at_call 78; refine (implPutText_any nm _ hn).mono ?_; rintro e xc ⟨rfl, hb⟩; have HVc : Hid (_ = _) := heap_keep (by repeat (first | with_reducible exact HVc.out | with_reducible apply heap_drewn)) hb; have HBc : Hid (Below w.heap.size w xc) := below_call (by repeat (first | with_reducible exact HBc.out | with_reducible refine Below.drew ?_)) hb; clear hb)
    | (go_at_call 38; refine (implNum_any p _ p0 p1).mono ?_; rintro e xc ⟨rfl, hb⟩; have HVc : Hid (_ = _) := heap_keep (by repeat (first | with_reducible exact HVc.out | with_reducible apply heap_drewn)) hb; have HBc : Hid (Below w.heap.size w xc) := below_call (by repeat (first | with_reducible exact HBc.out | with_reducible refine Below.drew ?_)) hb; clear hb)
    | (go_at_call 79; refine (putFlag_any g _).mono ?_; rintro e xc ⟨rfl, hb⟩; have HVc : Hid (_ = _) := heap_keep (by repeat (first | with_reducible exact HVc.out | with_reducible apply heap_drewn)) hb; have HBc : Hid (Below w.heap.size w xc) := below_call (by repeat (first | with_reducible exact HBc.out | with_reducible refine Below.drew ?_)) hb; clear hb)
    | (go_at_call 26; refine (join3X (putT nm) (numT p) (flagT g) _ (by omega)).mono ?_; rintro e xc ⟨rfl, hb⟩; have HVc : Hid (_ = _) := heap_keep (by repeat (first | with_reducible exact HVc.out | with_reducible apply heap_drewn)) hb; have HBc : Hid (Below w.heap.size w xc) := below_call (by repeat (first | with_reducible exact HBc.out | with_reducible refine Below.drew ?_)) hb; clear hb))
  all_goals
    go_wp2
    go_ret
    exact ⟨rfl, HBc.out⟩
set_option maxRecDepth 100000 in
set_option maxHeartbeats 1600000 in
theorem refBytes_any (p : Int) (nm : ByteArray) (q : Int) (g : Bool) (w : World) (hn : nm.size ≤ maxLen) (hp : is64 p) (hq : is64 q) : Calls Try.prog 42 #[.agg #[.int .i64 p, .string nm, .int .i64 q, .bool g]] w fun e w' => e = .returned (.string (refT (p, nm, q, g))) ∧ Below w.heap.size w w' := by
  obtain ⟨p0, p1⟩ := hp
  obtain ⟨q0, q1⟩ := hq
  have s1 := putT_le nm
  have s2 := numT_le p
  have s4 := numT_le q
  have s3 := flagT_le g
  go_enter Try.func42, Try.ntmps42
  go_wp2_with fail
  have HVc : Hid (_ = _) := heap_alloc_new w (.cells #[.int .i64 p, .string nm, .int .i64 q, .bool g] 70)
  have HBc : Hid (Below w.heap.size w _) := below_new w (.cells #[.int .i64 p, .string nm, .int .i64 q, .bool g] 70)
  generalize w.alloc (.cells #[.int .i64 p, .string nm, .int .i64 q, .bool g] 70) = x0 at *
  obtain ⟨c0, c1, c2, c3⟩ := cells4L HVc.out
  go_region_held3 (fun w' => w'.cell? ⟨w.heap.size, 0, none⟩ = some (.int .i64 p) ∧ w'.cell? ⟨w.heap.size, 1, none⟩ = some (.string nm) ∧ w'.cell? ⟨w.heap.size, 2, none⟩ = some (.int .i64 q) ∧ w'.cell? ⟨w.heap.size, 3, none⟩ = some (.bool g)) (exact cells4L (by repeat (first | with_reducible exact HVc.out | with_reducible apply heap_drewn | with_reducible apply heap_more))) (first
    | (go_at_call 78; refine (implPutText_any nm _ hn).mono ?_; rintro e xc ⟨rfl, hb⟩; have HVc : Hid (_ = _) := heap_keep (by repeat (first | with_reducible exact HVc.out | with_reducible apply heap_drewn)) hb; have HBc : Hid (Below w.heap.size w xc) := below_call (by repeat (first | with_reducible exact HBc.out | with_reducible refine Below.drew ?_)) hb; clear hb)
    | (go_at_call_of 38 (Value.int .i64 p); refine (implNum_any p _ p0 p1).mono ?_; rintro e xc ⟨rfl, hb⟩; have HVc : Hid (_ = _) := heap_keep (by repeat (first | with_reducible exact HVc.out | with_reducible apply heap_drewn)) hb; have HBc : Hid (Below w.heap.size w xc) := below_call (by repeat (first | with_reducible exact HBc.out | with_reducible refine Below.drew ?_)) hb; clear hb)
    | (go_at_call_of 38 (Value.int .i64 q); refine (implNum_any q _ q0 q1).mono ?_; rintro e xc ⟨rfl, hb⟩; have HVc : Hid (_ = _) := heap_keep (by repeat (first | with_reducible exact HVc.out | with_reducible apply heap_drewn)) hb; have HBc : Hid (Below w.heap.size w xc) := below_call (by repeat (first | with_reducible exact HBc.out | with_reducible refine Below.drew ?_)) hb; clear hb)
    | (go_at_call 79; refine (putFlag_any g _).mono ?_; rintro e xc ⟨rfl, hb⟩; have HVc : Hid (_ = _) := heap_keep (by repeat (first | with_reducible exact HVc.out | with_reducible apply heap_drewn)) hb; have HBc : Hid (Below w.heap.size w xc) := below_call (by repeat (first | with_reducible exact HBc.out | with_reducible refine Below.drew ?_)) hb; clear hb)
    | (go_at_call 26; refine (join4X (numT p) (putT nm) (numT q) (flagT g) _ (by omega)).mono ?_; rintro e xc ⟨rfl, hb⟩; have HVc : Hid (_ = _) := heap_keep (by repeat (first | with_reducible exact HVc.out | with_reducible apply heap_drewn)) hb; have HBc : Hid (Below w.heap.size w xc) := below_call (by repeat (first | with_reducible exact HBc.out | with_reducible refine Below.drew ?_)) hb; clear hb))
  all_goals
    go_wp2
    go_ret
    exact ⟨rfl, HBc.out⟩
end Go.Proofs.Ytcnjeeckkpiilaa
