/- The specification's reader: a number, a text. -/
import Derived.Test.YtcnjeeckkpiilaaRows
import Derived.WalkKit
import Derived.WalkSpells
import Derived.WalkLawsBesides
import Derived.Outline
import Derived.RegionTactic
import Derived.BigRegion
import Derived.Deep.QuietTactic
import Derived.BigQuiet
import Derived.Deep.RegionHeld3
import Derived.Test.YtcnjeeckkpiilaaBun0
import Derived.Test.YtcnjeeckkpiilaaBun1
import Derived.Test.YtcnjeeckkpiilaaBun3
import Derived.Test.YtcnjeeckkpiilaaGetNumX
import Derived.Test.YtcnjeeckkpiilaaSpecTextX
import Derived.Test.YtcnjeeckkpiilaaGetTextX
import Derived.Test.YtcnjeeckkpiilaaReadMX
import Derived.Test.YtcnjeeckkpiilaaRowRdX
import Derived.Test.YtcnjeeckkpiilaaRowTkX
namespace Go.Proofs.Ytcnjeeckkpiilaa
open Go.RowKit
set_option linter.unusedVariables false

structure RQ (w : World) (b : Nat) (s : ByteArray) (q : Int) (wr : Bool) : Prop where
  row : w.heap[b]? = some (.cells #[.string s, .int .i64 q, .bool wr] 123 (0, 0))
  lo : 0 ≤ q
  hi : q ≤ s.size
theorem RQ.call {w w' : World} {b : Nat} {s : ByteArray} {q : Int} {wr : Bool} (h : RQ w b s q wr) (hb : Below w.heap.size w w') : RQ w' b s q wr := ⟨heap_keep h.row hb, h.lo, h.hi⟩
theorem RQ.cells {w : World} {b : Nat} {s : ByteArray} {q : Int} {wr : Bool} (h : RQ w b s q wr) : w.cell? ⟨b, 0, none⟩ = some (.string s) ∧ w.cell? ⟨b, 1, none⟩ = some (.int .i64 q) ∧ w.cell? ⟨b, 2, none⟩ = some (.bool wr) := cells3L h.row
theorem RQ.free {w : World} {b : Nat} {s : ByteArray} {q : Int} {wr : Bool} (h : RQ w b s q wr) (i : Nat) : w.frozen? ⟨b, i, none⟩ = false := frozen_of_row _ _ _ _ _ h.row
theorem RQ.wrong {w : World} {b : Nat} {s : ByteArray} {q : Int} {wr : Bool} (h : RQ w b s q wr) : RQ (w.setCell ⟨b, 2, none⟩ (.bool true)) b s q true := ⟨heap_set h.row 2 _, h.lo, h.hi⟩
theorem RQ.go {w : World} {b : Nat} {s : ByteArray} {q : Int} {wr : Bool} (h : RQ w b s q wr) (q2 : Int) (h0 : 0 ≤ q2) (h1 : q2 ≤ s.size) : RQ (w.setCell ⟨b, 1, none⟩ (.int .i64 q2)) b s q2 wr := ⟨heap_set h.row 1 _, h0, h1⟩
/- What a reading call leaves: its value, the reader behind it; right if and only if x tells something. -/
def ROq {α : Type} (vs : α → Value) (b : Nat) (s : ByteArray) (w : World) (x : Option (α × Int)) (e : Ending) (w' : World) : Prop :=
  But b w w' ∧ ∃ (a : α) (q : Int) (wr : Bool), e = .returned (vs a) ∧ RQ w' b s q wr ∧ ((wr = false ∧ x = some (a, q)) ∨ (wr = true ∧ x = none))
theorem keep3d {w w1 : World} {a b c : Value} {t : TypeId} (hb : Below (w.alloc (.cells #[a, b, c] t)).drew.heap.size (w.alloc (.cells #[a, b, c] t)).drew w1) : (w1.cell? ⟨w.heap.size, 0, none⟩ = some a ∧ w1.cell? ⟨w.heap.size, 1, none⟩ = some b ∧ w1.cell? ⟨w.heap.size, 2, none⟩ = some c) ∧ (w1.frozen? ⟨w.heap.size, 0, none⟩ = false ∧ w1.frozen? ⟨w.heap.size, 1, none⟩ = false ∧ w1.frozen? ⟨w.heap.size, 2, none⟩ = false) := by
  have hr : w1.heap[w.heap.size]? = some (.cells #[a, b, c] t (0, 0)) := heap_keep (heap_drewn (heap_alloc_new w _)) hb
  exact ⟨cells3L hr, frozen_of_row _ _ _ _ _ hr, frozen_of_row _ _ _ _ _ hr, frozen_of_row _ _ _ _ _ hr⟩
set_option maxRecDepth 100000 in
set_option maxHeartbeats 1600000 in
theorem qNum_any (b : Nat) (s : ByteArray) (q : Int) (wr : Bool) (w : World) (h : RQ w b s q wr) (hs : s.size ≤ 8000) :
    Calls Try.prog 83 #[.pointer (some ⟨b, 0, none⟩)] w (ROq (Value.int .i64) b s w (unlessB wr (pN s q))) := by
  have HR : Hid (RQ w b s q wr) := h
  have HVc : Hid (w.heap[b]? = _) := h.row
  have HBc : Hid (Below w.heap.size w w) := Below.refl _ _
  obtain ⟨c0, c1, c2⟩ := h.cells
  have hlo := h.lo
  have hhi := h.hi
  have hbs := heap_lt h.row
  clear h
  obtain ⟨t, q2, c, e⟩ : ∃ t q2 c, getN s q = (t, q2, c) := ⟨_, _, _, rfl⟩
  have HE : Hid (getN s q = (t, q2, c)) := e
  have HAT : c = 0 → 0 ≤ q2 ∧ q2 ≤ s.size := fun hc => by
    subst hc
    obtain ⟨p, rfl⟩ := Int.eq_ofNat_of_zero_le hlo
    have e2 : pN s (p : Int) = some (t, q2) := by unfold pN; rw [e]; rfl
    obtain ⟨_, rfl, hd⟩ := (codecN s).can p t q2 (by omega) e2
    have := (drop_fits (by omega) hd).1
    omega
  have env : numV s q = getN s q := if_neg (by omega)
  have HRN := fun w => specGetNum_any s q w (by unfold maxLen; omega) (by omega) (by omega)
  rw [env, e] at HRN
  have HN : Hid (∀ w, Calls Try.prog 99 #[.string s, .int .i64 q] w fun e w' => e = .returned (.agg #[.int .i64 t, .int .i64 q2, .int .i64 c]) ∧ Below w.heap.size w w') := HRN
  clear HRN e env
  go_enter Try.func83, Try.ntmps83
  go_wp2_with fail
  go_region_held3 (fun w' => w'.cell? ⟨b, 0, none⟩ = some (.string s) ∧ w'.cell? ⟨b, 1, none⟩ = some (.int .i64 q)) (exact ⟨(cells3L (by repeat (first | with_reducible exact HVc.out | with_reducible apply heap_drewn | with_reducible apply heap_more | refine set_far (by show b ≠ _; dsimp only; omega) ?_))).1, (cells3L (by repeat (first | with_reducible exact HVc.out | with_reducible apply heap_drewn | with_reducible apply heap_more | refine set_far (by show b ≠ _; dsimp only; omega) ?_))).2.1⟩) (first
    | (go_at_call 99; refine (HN.out _).mono ?_; rintro e xc ⟨rfl, hb⟩; have HVc : Hid (_ = _) := heap_keep (by repeat (first | with_reducible exact HVc.out | with_reducible apply heap_drewn | with_reducible apply heap_more)) hb; have HBc : Hid (Below w.heap.size w xc) := below_call (by repeat (first | with_reducible exact HBc.out | with_reducible refine Below.drew ?_ | with_reducible refine below_more ?_ _)) hb; obtain ⟨⟨n0, n1, n2⟩, ⟨m0, m1, m2⟩⟩ := keep3d hb; have HNB : Hid (_ = _) := heap_keep (heap_drewn (heap_alloc_new w _)) hb; have hsz := HBc.out.size; clear hb)
    | (go_at_call 99; refine (HN.out _).mono ?_; rintro e xc ⟨rfl, hb⟩; have HVc : Hid (_ = _) := heap_keep (by repeat (first | with_reducible exact HVc.out | with_reducible apply heap_drewn | with_reducible apply heap_more)) hb; have HBc : Hid (Below w.heap.size w xc) := below_call (by repeat (first | with_reducible exact HBc.out | with_reducible refine Below.drew ?_ | with_reducible refine below_more ?_ _)) hb;  have hsz := HBc.out.size; clear hb))
  · have HVz : Hid (_ = _) := heap_more HVc.out (.cells #[.int .i64 t, .int .i64 q2, .int .i64 c] 134)
    have HNz : Hid (_ = _) := heap_alloc_new xc (.cells #[.int .i64 t, .int .i64 q2, .int .i64 c] 134)
    have HBz : Hid (Below w.heap.size w _) := below_more HBc.out (.cells #[.int .i64 t, .int .i64 q2, .int .i64 c] 134)
    generalize xc.alloc (.cells #[.int .i64 t, .int .i64 q2, .int .i64 c] 134) = z at *
    obtain ⟨d0, d1, d2⟩ := cells3L HVz.out
    obtain ⟨n0, n1, n2⟩ := cells3L HNz.out
    have fb1 : z.frozen? ⟨b, 1, none⟩ = false := frozen_of_row _ _ _ _ _ HVz.out
    have fb2 : z.frozen? ⟨b, 2, none⟩ = false := frozen_of_row _ _ _ _ _ HVz.out
    cases wr
    · by_cases hc : c = 0
      · subst hc
        obtain ⟨h0, h1⟩ := HAT rfl
        go_wp2
        go_ret
        exact ⟨(But.of HBz.out).setB (p := ⟨b, 1, none⟩) rfl _, t, q2, false, rfl, ⟨heap_set HVz.out 1 _, h0, h1⟩, .inl ⟨rfl, by show pN s q = _; unfold pN; rw [HE.out]; rfl⟩⟩
      · have hcb : (c != 0) = true := by rw [bne_iff_ne]; exact hc
        go_wp2
        go_ret
        exact ⟨(But.of HBz.out).setB (p := ⟨b, 2, none⟩) rfl _, 0, q, true, rfl, ⟨heap_set HVz.out 2 _, HR.out.lo, HR.out.hi⟩, .inr ⟨rfl, by show pN s q = none; unfold pN; rw [HE.out]; exact if_neg hc⟩⟩
    · go_wp2
      go_ret
      exact ⟨(But.of HBz.out).setB (p := ⟨b, 2, none⟩) rfl _, 0, q, true, rfl, ⟨heap_set HVz.out 2 _, HR.out.lo, HR.out.hi⟩, .inr ⟨rfl, rfl⟩⟩
  · have HVz : Hid (_ = _) := set_far (a := ⟨w.heap.size, 2, none⟩) (v := .int .i64 c) (by show b ≠ w.heap.size; omega) (set_far (a := ⟨w.heap.size, 1, none⟩) (v := .int .i64 q2) (by show b ≠ w.heap.size; omega) (set_far (a := ⟨w.heap.size, 0, none⟩) (v := .int .i64 t) (by show b ≠ w.heap.size; omega) HVc.out))
    have HNz : Hid ((((xc.setCell ⟨w.heap.size, 0, none⟩ (.int .i64 t)).setCell ⟨w.heap.size, 1, none⟩ (.int .i64 q2)).setCell ⟨w.heap.size, 2, none⟩ (.int .i64 c)).heap[w.heap.size]? = some (.cells #[.int .i64 t, .int .i64 q2, .int .i64 c] 134 (0, 0))) := heap_set (heap_set (heap_set HNB.out 0 (.int .i64 t)) 1 (.int .i64 q2)) 2 (.int .i64 c)
    have HBz : Hid (Below w.heap.size w _) := below_set (p := ⟨w.heap.size, 2, none⟩) (v := .int .i64 c) (Nat.le_refl _) (below_set (p := ⟨w.heap.size, 1, none⟩) (v := .int .i64 q2) (Nat.le_refl _) (below_set (p := ⟨w.heap.size, 0, none⟩) (v := .int .i64 t) (Nat.le_refl _) HBc.out))
    generalize ((xc.setCell ⟨w.heap.size, 0, none⟩ (.int .i64 t)).setCell ⟨w.heap.size, 1, none⟩ (.int .i64 q2)).setCell ⟨w.heap.size, 2, none⟩ (.int .i64 c) = z at *
    obtain ⟨d0, d1, d2⟩ := cells3L HVz.out
    obtain ⟨n0, n1, n2⟩ := cells3L HNz.out
    have fb1 : z.frozen? ⟨b, 1, none⟩ = false := frozen_of_row _ _ _ _ _ HVz.out
    have fb2 : z.frozen? ⟨b, 2, none⟩ = false := frozen_of_row _ _ _ _ _ HVz.out
    cases wr
    · by_cases hc : c = 0
      · subst hc
        obtain ⟨h0, h1⟩ := HAT rfl
        go_wp2
        go_ret
        exact ⟨(But.of HBz.out).setB (p := ⟨b, 1, none⟩) rfl _, t, q2, false, rfl, ⟨heap_set HVz.out 1 _, h0, h1⟩, .inl ⟨rfl, by show pN s q = _; unfold pN; rw [HE.out]; rfl⟩⟩
      · have hcb : (c != 0) = true := by rw [bne_iff_ne]; exact hc
        go_wp2
        go_ret
        exact ⟨(But.of HBz.out).setB (p := ⟨b, 2, none⟩) rfl _, 0, q, true, rfl, ⟨heap_set HVz.out 2 _, HR.out.lo, HR.out.hi⟩, .inr ⟨rfl, by show pN s q = none; unfold pN; rw [HE.out]; exact if_neg hc⟩⟩
    · go_wp2
      go_ret
      exact ⟨(But.of HBz.out).setB (p := ⟨b, 2, none⟩) rfl _, 0, q, true, rfl, ⟨heap_set HVz.out 2 _, HR.out.lo, HR.out.hi⟩, .inr ⟨rfl, rfl⟩⟩
set_option maxRecDepth 100000 in
set_option maxHeartbeats 1600000 in
theorem qText_any (b : Nat) (s : ByteArray) (q : Int) (wr : Bool) (w : World) (h : RQ w b s q wr) (hs : s.size ≤ 8000) :
    Calls Try.prog 84 #[.pointer (some ⟨b, 0, none⟩)] w (ROq Value.string b s w (unlessB wr (pT s q))) := by
  have HR : Hid (RQ w b s q wr) := h
  have HVc : Hid (w.heap[b]? = _) := h.row
  have HBc : Hid (Below w.heap.size w w) := Below.refl _ _
  obtain ⟨c0, c1, c2⟩ := h.cells
  have hlo := h.lo
  have hhi := h.hi
  have hbs := heap_lt h.row
  clear h
  obtain ⟨t, q2, c, e⟩ : ∃ t q2 c, getT s (getN s q) = (t, q2, c) := ⟨_, _, _, rfl⟩
  have HE : Hid (getT s (getN s q) = (t, q2, c)) := e
  have HAT : c = 0 → 0 ≤ q2 ∧ q2 ≤ s.size := fun hc => by
    subst hc
    obtain ⟨p, rfl⟩ := Int.eq_ofNat_of_zero_le hlo
    have e2 : pT s (p : Int) = some (t, q2) := by unfold pT; rw [e]; rfl
    obtain ⟨_, rfl, hd⟩ := (codecT s).can p t q2 (by omega) e2
    have := (drop_fits (by omega) hd).1
    omega
  have env : numV s q = getN s q := if_neg (by omega)
  have HRN := fun w => specGetText_any s q w (by unfold maxLen; omega) (by omega) (by omega)
  rw [env, e] at HRN
  have HN : Hid (∀ w, Calls Try.prog 100 #[.string s, .int .i64 q] w fun e w' => e = .returned (.agg #[.string t, .int .i64 q2, .int .i64 c]) ∧ Below w.heap.size w w') := HRN
  clear HRN e env
  go_enter Try.func84, Try.ntmps84
  go_wp2_with fail
  go_region_held3 (fun w' => w'.cell? ⟨b, 0, none⟩ = some (.string s) ∧ w'.cell? ⟨b, 1, none⟩ = some (.int .i64 q)) (exact ⟨(cells3L (by repeat (first | with_reducible exact HVc.out | with_reducible apply heap_drewn | with_reducible apply heap_more | refine set_far (by show b ≠ _; dsimp only; omega) ?_))).1, (cells3L (by repeat (first | with_reducible exact HVc.out | with_reducible apply heap_drewn | with_reducible apply heap_more | refine set_far (by show b ≠ _; dsimp only; omega) ?_))).2.1⟩) (first
    | (go_at_call 100; refine (HN.out _).mono ?_; rintro e xc ⟨rfl, hb⟩; have HVc : Hid (_ = _) := heap_keep (by repeat (first | with_reducible exact HVc.out | with_reducible apply heap_drewn | with_reducible apply heap_more)) hb; have HBc : Hid (Below w.heap.size w xc) := below_call (by repeat (first | with_reducible exact HBc.out | with_reducible refine Below.drew ?_ | with_reducible refine below_more ?_ _)) hb; obtain ⟨⟨n0, n1, n2⟩, ⟨m0, m1, m2⟩⟩ := keep3d hb; have HNB : Hid (_ = _) := heap_keep (heap_drewn (heap_alloc_new w _)) hb; have hsz := HBc.out.size; clear hb)
    | (go_at_call 100; refine (HN.out _).mono ?_; rintro e xc ⟨rfl, hb⟩; have HVc : Hid (_ = _) := heap_keep (by repeat (first | with_reducible exact HVc.out | with_reducible apply heap_drewn | with_reducible apply heap_more)) hb; have HBc : Hid (Below w.heap.size w xc) := below_call (by repeat (first | with_reducible exact HBc.out | with_reducible refine Below.drew ?_ | with_reducible refine below_more ?_ _)) hb;  have hsz := HBc.out.size; clear hb))
  · have HVz : Hid (_ = _) := heap_more HVc.out (.cells #[.string t, .int .i64 q2, .int .i64 c] 137)
    have HNz : Hid (_ = _) := heap_alloc_new xc (.cells #[.string t, .int .i64 q2, .int .i64 c] 137)
    have HBz : Hid (Below w.heap.size w _) := below_more HBc.out (.cells #[.string t, .int .i64 q2, .int .i64 c] 137)
    generalize xc.alloc (.cells #[.string t, .int .i64 q2, .int .i64 c] 137) = z at *
    obtain ⟨d0, d1, d2⟩ := cells3L HVz.out
    obtain ⟨n0, n1, n2⟩ := cells3L HNz.out
    have fb1 : z.frozen? ⟨b, 1, none⟩ = false := frozen_of_row _ _ _ _ _ HVz.out
    have fb2 : z.frozen? ⟨b, 2, none⟩ = false := frozen_of_row _ _ _ _ _ HVz.out
    cases wr
    · by_cases hc : c = 0
      · subst hc
        obtain ⟨h0, h1⟩ := HAT rfl
        go_wp2
        go_ret
        exact ⟨(But.of HBz.out).setB (p := ⟨b, 1, none⟩) rfl _, t, q2, false, rfl, ⟨heap_set HVz.out 1 _, h0, h1⟩, .inl ⟨rfl, by show pT s q = _; unfold pT; rw [HE.out]; rfl⟩⟩
      · have hcb : (c != 0) = true := by rw [bne_iff_ne]; exact hc
        go_wp2
        go_ret
        exact ⟨(But.of HBz.out).setB (p := ⟨b, 2, none⟩) rfl _, ⟨#[]⟩, q, true, rfl, ⟨heap_set HVz.out 2 _, HR.out.lo, HR.out.hi⟩, .inr ⟨rfl, by show pT s q = none; unfold pT; rw [HE.out]; exact if_neg hc⟩⟩
    · go_wp2
      go_ret
      exact ⟨(But.of HBz.out).setB (p := ⟨b, 2, none⟩) rfl _, ⟨#[]⟩, q, true, rfl, ⟨heap_set HVz.out 2 _, HR.out.lo, HR.out.hi⟩, .inr ⟨rfl, rfl⟩⟩
  · have HVz : Hid (_ = _) := set_far (a := ⟨w.heap.size, 2, none⟩) (v := .int .i64 c) (by show b ≠ w.heap.size; omega) (set_far (a := ⟨w.heap.size, 1, none⟩) (v := .int .i64 q2) (by show b ≠ w.heap.size; omega) (set_far (a := ⟨w.heap.size, 0, none⟩) (v := .string t) (by show b ≠ w.heap.size; omega) HVc.out))
    have HNz : Hid ((((xc.setCell ⟨w.heap.size, 0, none⟩ (.string t)).setCell ⟨w.heap.size, 1, none⟩ (.int .i64 q2)).setCell ⟨w.heap.size, 2, none⟩ (.int .i64 c)).heap[w.heap.size]? = some (.cells #[.string t, .int .i64 q2, .int .i64 c] 137 (0, 0))) := heap_set (heap_set (heap_set HNB.out 0 (.string t)) 1 (.int .i64 q2)) 2 (.int .i64 c)
    have HBz : Hid (Below w.heap.size w _) := below_set (p := ⟨w.heap.size, 2, none⟩) (v := .int .i64 c) (Nat.le_refl _) (below_set (p := ⟨w.heap.size, 1, none⟩) (v := .int .i64 q2) (Nat.le_refl _) (below_set (p := ⟨w.heap.size, 0, none⟩) (v := .string t) (Nat.le_refl _) HBc.out))
    generalize ((xc.setCell ⟨w.heap.size, 0, none⟩ (.string t)).setCell ⟨w.heap.size, 1, none⟩ (.int .i64 q2)).setCell ⟨w.heap.size, 2, none⟩ (.int .i64 c) = z at *
    obtain ⟨d0, d1, d2⟩ := cells3L HVz.out
    obtain ⟨n0, n1, n2⟩ := cells3L HNz.out
    have fb1 : z.frozen? ⟨b, 1, none⟩ = false := frozen_of_row _ _ _ _ _ HVz.out
    have fb2 : z.frozen? ⟨b, 2, none⟩ = false := frozen_of_row _ _ _ _ _ HVz.out
    cases wr
    · by_cases hc : c = 0
      · subst hc
        obtain ⟨h0, h1⟩ := HAT rfl
        go_wp2
        go_ret
        exact ⟨(But.of HBz.out).setB (p := ⟨b, 1, none⟩) rfl _, t, q2, false, rfl, ⟨heap_set HVz.out 1 _, h0, h1⟩, .inl ⟨rfl, by show pT s q = _; unfold pT; rw [HE.out]; rfl⟩⟩
      · have hcb : (c != 0) = true := by rw [bne_iff_ne]; exact hc
        go_wp2
        go_ret
        exact ⟨(But.of HBz.out).setB (p := ⟨b, 2, none⟩) rfl _, ⟨#[]⟩, q, true, rfl, ⟨heap_set HVz.out 2 _, HR.out.lo, HR.out.hi⟩, .inr ⟨rfl, by show pT s q = none; unfold pT; rw [HE.out]; exact if_neg hc⟩⟩
    · go_wp2
      go_ret
      exact ⟨(But.of HBz.out).setB (p := ⟨b, 2, none⟩) rfl _, ⟨#[]⟩, q, true, rfl, ⟨heap_set HVz.out 2 _, HR.out.lo, HR.out.hi⟩, .inr ⟨rfl, rfl⟩⟩
end Go.Proofs.Ytcnjeeckkpiilaa
