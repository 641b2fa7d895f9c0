/- How operands are written, by the program and by the specification. -/
import Derived.Test.YtknielpkmablkaaDoorRows
import Derived.WalkKit
import Derived.WalkSpells
import Derived.WalkLawsBesides
import Derived.Outline
import Derived.Deep.RegionHeld3
import Derived.Test.YtknielpkmablkaaDoorBun0
import Derived.Test.YtknielpkmablkaaDoorBun1
import Derived.Test.YtknielpkmablkaaDoorBun31
import Derived.Test.YtknielpkmablkaaDoorBun11
import Derived.Test.YtknielpkmablkaaDoorBun33
namespace Go.Proofs.YtknielpkmablkaaDoor
open Go.RowKit
set_option linter.unusedVariables false

theorem join_three (a b c : ByteArray) (w : World) (h : a.size + b.size + c.size ≤ 1000000) :
    Calls Tryd.prog 45 #[.slice (some ⟨w.heap.size, 0, none⟩) 3 3] (w.alloc (.cells #[.string a, .string b, .string c] 9)) fun e w' => e = .returned (.string (catL [a, b, c])) ∧ Below w.heap.size w w' := by
  have hj := join_any [a, b, c] w.heap.size (w.alloc (.cells #[.string a, .string b, .string c] 9)) (fun j hj => by
    match j, hj with
    | 0, _ => simp
    | 1, _ => simp
    | 2, _ => simp) (by simp) (by simp) (by simp [catL]; omega)
  exact hj.mono fun e w' hw => ⟨hw.1, ((Below.refl _ _).alloc (Nat.le_refl _) _).trans (hw.2.mono (by simp))⟩
theorem join_four (a b c d : ByteArray) (w : World) (h : a.size + b.size + c.size + d.size ≤ 1000000) :
    Calls Tryd.prog 45 #[.slice (some ⟨w.heap.size, 0, none⟩) 4 4] (w.alloc (.cells #[.string a, .string b, .string c, .string d] 9)) fun e w' => e = .returned (.string (catL [a, b, c, d])) ∧ Below w.heap.size w w' := by
  have hj := join_any [a, b, c, d] w.heap.size (w.alloc (.cells #[.string a, .string b, .string c, .string d] 9)) (fun j hj => by
    match j, hj with
    | 0, _ => simp
    | 1, _ => simp
    | 2, _ => simp
    | 3, _ => simp) (by simp) (by simp) (by simp [catL]; omega)
  exact hj.mono fun e w' hw => ⟨hw.1, ((Below.refl _ _).alloc (Nat.le_refl _) _).trans (hw.2.mono (by simp))⟩
theorem join_five (a b c d f : ByteArray) (w : World) (h : a.size + b.size + c.size + d.size + f.size ≤ 1000000) :
    Calls Tryd.prog 45 #[.slice (some ⟨w.heap.size, 0, none⟩) 5 5] (w.alloc (.cells #[.string a, .string b, .string c, .string d, .string f] 9)) fun e w' => e = .returned (.string (catL [a, b, c, d, f])) ∧ Below w.heap.size w w' := by
  have hj := join_any [a, b, c, d, f] w.heap.size (w.alloc (.cells #[.string a, .string b, .string c, .string d, .string f] 9)) (fun j hj => by
    match j, hj with
    | 0, _ => simp
    | 1, _ => simp
    | 2, _ => simp
    | 3, _ => simp
    | 4, _ => simp) (by simp) (by simp) (by simp [catL]; omega)
  exact hj.mono fun e w' hw => ⟨hw.1, ((Below.refl _ _).alloc (Nat.le_refl _) _).trans (hw.2.mono (by simp))⟩
def dg (n : Int) : ByteArray := digs (Lib.itoa n)
theorem dg_size (n : Int) (h0 : -100000 ≤ n) (h1 : n ≤ 100000) : (dg n).size ≤ 7 := itoa_len n (by omega) (by omega)
def rg (r : Int) : ByteArray := ⟨#[114]⟩ ++ dg r
theorem rg_size (n : Int) (h0 : -100000 ≤ n) (h1 : n ≤ 100000) : (rg n).size ≤ 8 := by
  unfold rg
  rw [ByteArray.size_append]
  have := dg_size n h0 h1
  show 1 + _ ≤ 8
  omega
theorem dgI_any (n : Int) (w : World) (h0 : -100000 ≤ n) (h1 : n ≤ 100000) (hP : Pow w) : Calls Tryd.prog 46 #[.int .i64 n] w fun e w' => e = .returned (.string (dg n)) ∧ Below w.heap.size w w' := digitsOf_any n w (by omega) (by omega) hP
theorem dgS_any (n : Int) (w : World) (h0 : -100000 ≤ n) (h1 : n ≤ 100000) : Calls Tryd.prog 25 #[.int .i64 n] w fun e w' => e = .returned (.string (dg n)) ∧ Below w.heap.size w w' := l01Dec_any n w (by omega) (by omega)
set_option maxRecDepth 100000 in
set_option maxHeartbeats 1600000 in
theorem regText_any (r : Int) (w : World) (h0 : -100000 ≤ r) (h1 : r ≤ 100000) (hP : Pow w) : Calls Tryd.prog 69 #[.int .i64 r] w fun e w' => e = .returned (.string (rg r)) ∧ Below w.heap.size w w' := by
  have HP : Hid (Pow w) := hP
  clear hP
  have hsz := dg_size r h0 h1
  go_enter Tryd.func69, Tryd.ntmps69
  go_wp2_with fail
  refine (dgI_any r _ h0 h1 HP.out).mono ?_
  rintro e x1 ⟨rfl, hb⟩
  go_wp2_with fail
  refine (join_two ⟨#[114]⟩ (dg r) x1 (by show 1 + (dg r).size ≤ _; omega)).mono ?_
  rintro e x2 ⟨rfl, hb2⟩
  go_wp2
  go_ret
  exact ⟨rfl, below_call hb hb2⟩
def opdB (m r n : Int) (l : Bool) : ByteArray :=
  if m = 1 then catL [dg n, ⟨#[40]⟩, rg r, ⟨#[41]⟩] else if m = 2 then ⟨#[38]⟩ ++ dg n else if m = 3 then ⟨#[64]⟩ ++ rg r else if m = 4 then catL [⟨#[64]⟩, rg r, ⟨#[43]⟩]
  else if m = 5 then (if l then ⟨#[35, 35]⟩ ++ dg n else ⟨#[35]⟩ ++ dg n) else rg r
theorem opd_size (m r n : Int) (l : Bool) (g0 : -100000 ≤ r) (g1 : r ≤ 100000) (h0 : -100000 ≤ n) (h1 : n ≤ 100000) : (opdB m r n l).size ≤ 20 := by
  have hd := dg_size n h0 h1
  have hr := rg_size r g0 g1
  have e1 : ∀ c : UInt8, (⟨#[c]⟩ : ByteArray).size = 1 := fun _ => rfl
  have e2 : ∀ c d : UInt8, (⟨#[c, d]⟩ : ByteArray).size = 2 := fun _ _ => rfl
  unfold opdB
  repeat' split
  all_goals first | omega | (simp only [catL, ByteArray.size_append, ByteArray.size_empty, e1, e2]; omega)
set_option maxRecDepth 100000 in
set_option maxHeartbeats 1600000 in
theorem implOpd_2 (r n : Int) (l : Bool) (w : World) (g0 : -100000 ≤ r) (g1 : r ≤ 100000) (h0 : -100000 ≤ n) (h1 : n ≤ 100000) (hP : Pow w) : Calls Tryd.prog 60 #[.agg #[.int .i64 2, .int .i64 r, .int .i64 n, .bool l]] w fun e w' => e = .returned (.string (opdB 2 r n l)) ∧ Below w.heap.size w w' := by
  have HP : Hid (∀ o, Pow (w.alloc o)) := fun o => hP.alloc o
  clear hP
  have hd := dg_size n h0 h1
  have hr := rg_size r g0 g1
  go_enter Tryd.func60, Tryd.ntmps60
  go_wp2_with fail
  refine (dgI_any n _ h0 h1 (HP.out _)).mono ?_
  rintro e x1 ⟨rfl, hb⟩
  have HB1 : Hid (Below w.heap.size w x1) := below_call (below_new _ _) hb
  clear hb
  go_wp2_with fail
  refine (join_two ⟨#[38]⟩ (dg n) x1 (by show 1 + (dg n).size ≤ _; omega)).mono ?_
  rintro e x2 ⟨rfl, hb⟩
  go_wp2
  go_ret
  exact ⟨rfl, below_call HB1.out hb⟩
set_option maxRecDepth 100000 in
set_option maxHeartbeats 1600000 in
theorem implOpd_3 (r n : Int) (l : Bool) (w : World) (g0 : -100000 ≤ r) (g1 : r ≤ 100000) (h0 : -100000 ≤ n) (h1 : n ≤ 100000) (hP : Pow w) : Calls Tryd.prog 60 #[.agg #[.int .i64 3, .int .i64 r, .int .i64 n, .bool l]] w fun e w' => e = .returned (.string (opdB 3 r n l)) ∧ Below w.heap.size w w' := by
  have HP : Hid (∀ o, Pow (w.alloc o)) := fun o => hP.alloc o
  clear hP
  have hd := dg_size n h0 h1
  have hr := rg_size r g0 g1
  go_enter Tryd.func60, Tryd.ntmps60
  go_wp2_with fail
  refine (regText_any r _ g0 g1 (HP.out _)).mono ?_
  rintro e x1 ⟨rfl, hb⟩
  have HB1 : Hid (Below w.heap.size w x1) := below_call (below_new _ _) hb
  clear hb
  go_wp2_with fail
  refine (join_two ⟨#[64]⟩ (rg r) x1 (by show 1 + (rg r).size ≤ _; omega)).mono ?_
  rintro e x2 ⟨rfl, hb⟩
  go_wp2
  go_ret
  exact ⟨rfl, below_call HB1.out hb⟩
set_option maxRecDepth 100000 in
set_option maxHeartbeats 1600000 in
theorem implOpd_4 (r n : Int) (l : Bool) (w : World) (g0 : -100000 ≤ r) (g1 : r ≤ 100000) (h0 : -100000 ≤ n) (h1 : n ≤ 100000) (hP : Pow w) : Calls Tryd.prog 60 #[.agg #[.int .i64 4, .int .i64 r, .int .i64 n, .bool l]] w fun e w' => e = .returned (.string (opdB 4 r n l)) ∧ Below w.heap.size w w' := by
  have HP : Hid (∀ o, Pow (w.alloc o)) := fun o => hP.alloc o
  clear hP
  have hd := dg_size n h0 h1
  have hr := rg_size r g0 g1
  go_enter Tryd.func60, Tryd.ntmps60
  go_wp2_with fail
  refine (regText_any r _ g0 g1 (HP.out _)).mono ?_
  rintro e x1 ⟨rfl, hb⟩
  have HB1 : Hid (Below w.heap.size w x1) := below_call (below_new _ _) hb
  clear hb
  go_wp2_with fail
  refine (join_three ⟨#[64]⟩ (rg r) ⟨#[43]⟩ x1 (by show 1 + (rg r).size + 1 ≤ _; omega)).mono ?_
  rintro e x2 ⟨rfl, hb⟩
  go_wp2
  go_ret
  exact ⟨rfl, below_call HB1.out hb⟩
set_option maxRecDepth 100000 in
set_option maxHeartbeats 1600000 in
theorem implOpd_5t (r n : Int) (w : World) (g0 : -100000 ≤ r) (g1 : r ≤ 100000) (h0 : -100000 ≤ n) (h1 : n ≤ 100000) (hP : Pow w) : Calls Tryd.prog 60 #[.agg #[.int .i64 5, .int .i64 r, .int .i64 n, .bool true]] w fun e w' => e = .returned (.string (opdB 5 r n true)) ∧ Below w.heap.size w w' := by
  have HP : Hid (∀ o, Pow (w.alloc o)) := fun o => hP.alloc o
  clear hP
  have hd := dg_size n h0 h1
  have hr := rg_size r g0 g1
  go_enter Tryd.func60, Tryd.ntmps60
  go_wp2_with fail
  refine (dgI_any n _ h0 h1 (HP.out _)).mono ?_
  rintro e x1 ⟨rfl, hb⟩
  have HB1 : Hid (Below w.heap.size w x1) := below_call (below_new _ _) hb
  clear hb
  go_wp2_with fail
  refine (join_two ⟨#[35, 35]⟩ (dg n) x1 (by show 2 + (dg n).size ≤ _; omega)).mono ?_
  rintro e x2 ⟨rfl, hb⟩
  go_wp2
  go_ret
  exact ⟨rfl, below_call HB1.out hb⟩
set_option maxRecDepth 100000 in
set_option maxHeartbeats 1600000 in
theorem implOpd_5f (r n : Int) (w : World) (g0 : -100000 ≤ r) (g1 : r ≤ 100000) (h0 : -100000 ≤ n) (h1 : n ≤ 100000) (hP : Pow w) : Calls Tryd.prog 60 #[.agg #[.int .i64 5, .int .i64 r, .int .i64 n, .bool false]] w fun e w' => e = .returned (.string (opdB 5 r n false)) ∧ Below w.heap.size w w' := by
  have HP : Hid (∀ o, Pow (w.alloc o)) := fun o => hP.alloc o
  clear hP
  have hd := dg_size n h0 h1
  have hr := rg_size r g0 g1
  go_enter Tryd.func60, Tryd.ntmps60
  go_wp2_with fail
  refine (dgI_any n _ h0 h1 (HP.out _)).mono ?_
  rintro e x1 ⟨rfl, hb⟩
  have HB1 : Hid (Below w.heap.size w x1) := below_call (below_new _ _) hb
  clear hb
  go_wp2_with fail
  refine (join_two ⟨#[35]⟩ (dg n) x1 (by show 1 + (dg n).size ≤ _; omega)).mono ?_
  rintro e x2 ⟨rfl, hb⟩
  go_wp2
  go_ret
  exact ⟨rfl, below_call HB1.out hb⟩
set_option maxRecDepth 100000 in
set_option maxHeartbeats 1600000 in
theorem implOpd_0 (r n : Int) (l : Bool) (w : World) (g0 : -100000 ≤ r) (g1 : r ≤ 100000) (h0 : -100000 ≤ n) (h1 : n ≤ 100000) (hP : Pow w) : Calls Tryd.prog 60 #[.agg #[.int .i64 0, .int .i64 r, .int .i64 n, .bool l]] w fun e w' => e = .returned (.string (opdB 0 r n l)) ∧ Below w.heap.size w w' := by
  have HP : Hid (∀ o, Pow (w.alloc o)) := fun o => hP.alloc o
  clear hP
  have hd := dg_size n h0 h1
  have hr := rg_size r g0 g1
  go_enter Tryd.func60, Tryd.ntmps60
  go_wp2_with fail
  refine (regText_any r _ g0 g1 (HP.out _)).mono ?_
  rintro e x1 ⟨rfl, hb⟩
  go_wp2
  go_ret
  exact ⟨rfl, below_call (below_new _ _) hb⟩
set_option maxRecDepth 100000 in
set_option maxHeartbeats 1600000 in
theorem implOpd_1 (r n : Int) (l : Bool) (w : World) (g0 : -100000 ≤ r) (g1 : r ≤ 100000) (h0 : -100000 ≤ n) (h1 : n ≤ 100000) (hP : Pow w) : Calls Tryd.prog 60 #[.agg #[.int .i64 1, .int .i64 r, .int .i64 n, .bool l]] w fun e w' => e = .returned (.string (opdB 1 r n l)) ∧ Below w.heap.size w w' := by
  have HPw : Hid (Pow w) := hP
  clear hP
  have hd := dg_size n h0 h1
  have hr := rg_size r g0 g1
  go_enter Tryd.func60, Tryd.ntmps60
  go_wp2_with fail
  have HVc : Hid (_ = _) := heap_alloc_new w (.cells #[.int .i64 1, .int .i64 r, .int .i64 n, .bool l] 43)
  have HBc : Hid (Below w.heap.size w _) := below_new w (.cells #[.int .i64 1, .int .i64 r, .int .i64 n, .bool l] 43)
  generalize w.alloc (.cells #[.int .i64 1, .int .i64 r, .int .i64 n, .bool l] 43) = x0 at *
  obtain ⟨c0, c1, c2, c3⟩ := cells4h HVc.out
  go_region_held3 (fun w' => w'.cell? ⟨w.heap.size, 0, none⟩ = some (.int .i64 1) ∧ w'.cell? ⟨w.heap.size, 1, none⟩ = some (.int .i64 r) ∧ w'.cell? ⟨w.heap.size, 2, none⟩ = some (.int .i64 n) ∧ w'.cell? ⟨w.heap.size, 3, none⟩ = some (.bool l)) (exact cells4h (by repeat (first | with_reducible exact HVc.out | with_reducible apply heap_drewn | with_reducible apply heap_more))) (first
    | (go_at_call 46; refine (dgI_any n _ h0 h1 (HPw.out.below (by repeat (first | with_reducible exact HBc.out | with_reducible refine Below.drew ?_)))).mono ?_; rintro e xc ⟨rfl, hb⟩; have HVc : Hid (_ = _) := heap_keep (by repeat (first | with_reducible exact HVc.out | with_reducible apply heap_drewn)) hb; have HBc : Hid (Below w.heap.size w xc) := below_call (by repeat (first | with_reducible exact HBc.out | with_reducible refine Below.drew ?_)) hb; clear hb)
    | (go_at_call 69; refine (regText_any r _ g0 g1 (HPw.out.below (by repeat (first | with_reducible exact HBc.out | with_reducible refine Below.drew ?_)))).mono ?_; rintro e xc ⟨rfl, hb⟩; have HVc : Hid (_ = _) := heap_keep (by repeat (first | with_reducible exact HVc.out | with_reducible apply heap_drewn)) hb; have HBc : Hid (Below w.heap.size w xc) := below_call (by repeat (first | with_reducible exact HBc.out | with_reducible refine Below.drew ?_)) hb; clear hb)
    | (go_at_call 45; refine (join_four (dg n) ⟨#[40]⟩ (rg r) ⟨#[41]⟩ _ (by show (dg n).size + 1 + (rg r).size + 1 ≤ _; omega)).mono ?_; rintro e xc ⟨rfl, hb⟩; have HVc : Hid (_ = _) := heap_keep (by repeat (first | with_reducible exact HVc.out | with_reducible apply heap_drewn)) hb; have HBc : Hid (Below w.heap.size w xc) := below_call (by repeat (first | with_reducible exact HBc.out | with_reducible refine Below.drew ?_)) hb; clear hb))
  all_goals
    go_wp2
    go_ret
    exact ⟨rfl, HBc.out⟩
theorem implOpd_any (m r n : Int) (l : Bool) (w : World) (m0 : 0 ≤ m) (m5 : m ≤ 5) (g0 : -100000 ≤ r) (g1 : r ≤ 100000) (h0 : -100000 ≤ n) (h1 : n ≤ 100000) (hP : Pow w) : Calls Tryd.prog 60 #[.agg #[.int .i64 m, .int .i64 r, .int .i64 n, .bool l]] w fun e w' => e = .returned (.string (opdB m r n l)) ∧ Below w.heap.size w w' := by
  obtain rfl | rfl | rfl | rfl | rfl | rfl : m = 0 ∨ m = 1 ∨ m = 2 ∨ m = 3 ∨ m = 4 ∨ m = 5 := by omega
  · exact implOpd_0 r n l w g0 g1 h0 h1 hP
  · exact implOpd_1 r n l w g0 g1 h0 h1 hP
  · exact implOpd_2 r n l w g0 g1 h0 h1 hP
  · exact implOpd_3 r n l w g0 g1 h0 h1 hP
  · exact implOpd_4 r n l w g0 g1 h0 h1 hP
  · cases l
    · exact implOpd_5f r n w g0 g1 h0 h1 hP
    · exact implOpd_5t r n w g0 g1 h0 h1 hP
end Go.Proofs.YtknielpkmablkaaDoor
