/- The program's reader of rows: a number, a text, a flag, a Sym, a Ref. -/
import Derived.Test.YtcnjeeckkpiilaaRows
import Derived.WalkKit
import Derived.WalkSpells
import Derived.WalkLawsBesides
import Derived.Outline
import Derived.RegionTactic
import Derived.BigRegion
import Derived.Deep.QuietTactic
import Derived.BigQuiet
import Derived.Deep.RegionHeld3
import Derived.Test.YtcnjeeckkpiilaaBun0
import Derived.Test.YtcnjeeckkpiilaaBun1
import Derived.Test.YtcnjeeckkpiilaaBun3
import Derived.Test.YtcnjeeckkpiilaaBun16
import Derived.Test.YtcnjeeckkpiilaaReadNumX
import Derived.Test.YtcnjeeckkpiilaaGetTextX
import Derived.Test.YtcnjeeckkpiilaaReadMX
namespace Go.Proofs.Ytcnjeeckkpiilaa
open Go.RowKit
set_option linter.unusedVariables false

structure RR (w : World) (b : Nat) (s : ByteArray) (q : Int) (wr : Bool) : Prop where
  row : w.heap[b]? = some (.cells #[.string s, .int .i64 q, .bool wr] 79 (0, 0))
  lo : 0 ≤ q
  hi : q ≤ s.size
theorem RR.call {w w' : World} {b : Nat} {s : ByteArray} {q : Int} {wr : Bool} (h : RR w b s q wr) (hb : Below w.heap.size w w') : RR w' b s q wr := ⟨heap_keep h.row hb, h.lo, h.hi⟩
theorem RR.cells {w : World} {b : Nat} {s : ByteArray} {q : Int} {wr : Bool} (h : RR w b s q wr) : w.cell? ⟨b, 0, none⟩ = some (.string s) ∧ w.cell? ⟨b, 1, none⟩ = some (.int .i64 q) ∧ w.cell? ⟨b, 2, none⟩ = some (.bool wr) := cells3L h.row
theorem RR.free {w : World} {b : Nat} {s : ByteArray} {q : Int} {wr : Bool} (h : RR w b s q wr) (i : Nat) : w.frozen? ⟨b, i, none⟩ = false := frozen_of_row _ _ _ _ _ h.row
theorem RR.wrong {w : World} {b : Nat} {s : ByteArray} {q : Int} {wr : Bool} (h : RR w b s q wr) : RR (w.setCell ⟨b, 2, none⟩ (.bool true)) b s q true := ⟨heap_set h.row 2 _, h.lo, h.hi⟩
theorem RR.go {w : World} {b : Nat} {s : ByteArray} {q : Int} {wr : Bool} (h : RR w b s q wr) (q2 : Int) (h0 : 0 ≤ q2) (h1 : q2 ≤ s.size) : RR (w.setCell ⟨b, 1, none⟩ (.int .i64 q2)) b s q2 wr := ⟨heap_set h.row 1 _, h0, h1⟩
/- What a reading call leaves: its value, the reader behind it; right if and only if x tells something. -/
def RO {α : Type} (vs : α → Value) (b : Nat) (s : ByteArray) (w : World) (x : Option (α × Int)) (e : Ending) (w' : World) : Prop :=
  But b w w' ∧ ∃ (a : α) (q : Int) (wr : Bool), e = .returned (vs a) ∧ RR w' b s q wr ∧ ((wr = false ∧ x = some (a, q)) ∨ (wr = true ∧ x = none))
def unlessB {α : Type} (wr : Bool) (x : Option α) : Option α := if wr then none else x
theorem seq_step {α β : Type} {f : Int → Option (α × Int)} {g : Int → Option (β × Int)} {x : Option (α × Int)} {a : α} {q1 : Int} {w1 : Bool} {b : β} {q2 : Int} {w2 : Bool}
    (h1 : (w1 = false ∧ x = some (a, q1)) ∨ (w1 = true ∧ x = none)) (h2 : (w2 = false ∧ unlessB w1 (g q1) = some (b, q2)) ∨ (w2 = true ∧ unlessB w1 (g q1) = none)) :
    (w2 = false ∧ (x.bind fun x => (g x.2).bind fun y => some ((x.1, y.1), y.2)) = some ((a, b), q2)) ∨ (w2 = true ∧ (x.bind fun x => (g x.2).bind fun y => some ((x.1, y.1), y.2)) = none) := by
  rcases h1 with ⟨rfl, rfl⟩ | ⟨rfl, rfl⟩
  · rcases h2 with ⟨rfl, h⟩ | ⟨rfl, h⟩
    · refine .inl ⟨rfl, ?_⟩
      have h' : g q1 = some (b, q2) := h
      rw [Option.bind_some, h']; rfl
    · refine .inr ⟨rfl, ?_⟩
      have h' : g q1 = none := h
      rw [Option.bind_some, h']; rfl
  · rcases h2 with ⟨rfl, h⟩ | ⟨rfl, h⟩
    · cases h
    · exact .inr ⟨rfl, rfl⟩
theorem errV_eq0 : errV 0 = .nilIface := rfl
theorem errV_ne {c : Int} (h : ¬ c = 0) : errV c = .iface 140 (.agg #[.int .i64 c]) := if_neg h
set_option maxRecDepth 100000 in
set_option maxHeartbeats 1600000 in
theorem goOn_ok (b : Nat) (s : ByteArray) (q q2 : Int) (wr : Bool) (w : World) (h : RR w b s q wr) (h0 : 0 ≤ q2) (h1 : q2 ≤ s.size) :
    Calls Try.prog 86 #[.pointer (some ⟨b, 0, none⟩), .int .i64 q2, .nilIface] w fun e w' => e = .returned (.tuple #[]) ∧ RR w' b s q2 wr ∧ But b w w' := by
  have HR : Hid (RR w b s q wr) := h
  obtain ⟨c0, c1, c2⟩ := h.cells
  have f1 := h.free 1
  go_enter Try.func86, Try.ntmps86
  go_wp2
  go_end0
  exact ⟨rfl, HR.out.go q2 h0 h1, But.setB (But.refl b w) (p := ⟨b, 1, none⟩) rfl _⟩
set_option maxRecDepth 100000 in
set_option maxHeartbeats 1600000 in
theorem goOn_no (b : Nat) (s : ByteArray) (q q2 c : Int) (wr : Bool) (w : World) (h : RR w b s q wr) :
    Calls Try.prog 86 #[.pointer (some ⟨b, 0, none⟩), .int .i64 q2, .iface 140 (.agg #[.int .i64 c])] w fun e w' => e = .returned (.tuple #[]) ∧ RR w' b s q true ∧ But b w w' := by
  have HR : Hid (RR w b s q wr) := h
  obtain ⟨c0, c1, c2⟩ := h.cells
  have f2 := h.free 2
  go_enter Try.func86, Try.ntmps86
  go_wp2
  refine bodyPost_ret (results_none rfl _ _ _) rfl ?_
  exact ⟨rfl, HR.out.wrong, But.setB (But.refl b w) (p := ⟨b, 2, none⟩) rfl _⟩
set_option maxRecDepth 100000 in
set_option maxHeartbeats 1600000 in
theorem rowNum_any (b : Nat) (s : ByteArray) (q : Int) (wr : Bool) (w : World) (h : RR w b s q wr) (hs : s.size ≤ 8000) :
    Calls Try.prog 48 #[.pointer (some ⟨b, 0, none⟩)] w (RO (Value.int .i64) b s w (unlessB wr (pN s q))) := by
  have HR : Hid (RR w b s q wr) := h
  obtain ⟨c0, c1, c2⟩ := h.cells
  have hlo := h.lo
  have hhi := h.hi
  clear h
  obtain ⟨n, q2, c, e⟩ : ∃ n q2 c, getN s q = (n, q2, c) := ⟨_, _, _, rfl⟩
  have HE : Hid (getN s q = (n, q2, c)) := e
  have HAT := getN_at s q
  rw [e] at HAT
  have HRN := fun w => readNum_any s q w hs (by omega)
  rw [e] at HRN
  have HN : Hid (∀ w, Calls Try.prog 85 #[.string s, .int .i64 q] w fun e w' => e = .returned (.tuple #[.int .i64 n, .int .i64 q2, errV c]) ∧ w' = w) := HRN
  clear HRN e
  by_cases hc : c = 0
  · subst hc
    obtain ⟨h0, h1⟩ := HAT rfl
    dsimp only at h0 h1
    go_enter Try.func48, Try.ntmps48
    go_wp2_with fail
    go_quiet (first | (go_at_call 85; exact Calls.quiet_of_same (HN.out _)))
    rw [errV_eq0]
    go_wp2_with fail
    refine Calls.mono (goOn_ok b s q q2 wr _ (by exact ⟨HR.out.row, HR.out.lo, HR.out.hi⟩) h0 h1) ?_
    rintro e x ⟨rfl, hR, hb⟩
    go_wp2
    go_ret
    refine ⟨(But.refl b w).trans ⟨hb.os, hb.tape, hb.output, hb.size, hb.block⟩, n, q2, wr, rfl, hR, ?_⟩
    have e : pN s q = some (n, q2) := by unfold pN; rw [HE.out]; rfl
    cases wr
    · exact .inl ⟨rfl, e⟩
    · exact .inr ⟨rfl, rfl⟩
  · have he := errV_ne hc
    go_enter Try.func48, Try.ntmps48
    go_wp2_with fail
    go_quiet (first | (go_at_call 85; exact Calls.quiet_of_same (HN.out _)))
    rw [he]
    go_wp2_with fail
    refine Calls.mono (goOn_no b s q q2 c wr _ (by exact ⟨HR.out.row, HR.out.lo, HR.out.hi⟩)) ?_
    rintro e x ⟨rfl, hR, hb⟩
    go_wp2
    go_ret
    refine ⟨(But.refl b w).trans ⟨hb.os, hb.tape, hb.output, hb.size, hb.block⟩, n, q, true, rfl, hR, .inr ⟨rfl, ?_⟩⟩
    have e : pN s q = none := by unfold pN; rw [HE.out]; exact if_neg hc
    rw [e]
    cases wr <;> rfl
theorem unless_bind {α β : Type} (wr : Bool) (x : Option α) (f : α → Option β) : unlessB wr (x.bind f) = (unlessB wr x).bind f := by cases wr <;> rfl
set_option maxRecDepth 100000 in
set_option maxHeartbeats 1600000 in
theorem rowText_any (b : Nat) (s : ByteArray) (q : Int) (wr : Bool) (w : World) (h : RR w b s q wr) (hs : s.size ≤ 8000) :
    Calls Try.prog 87 #[.pointer (some ⟨b, 0, none⟩)] w (RO Value.string b s w (unlessB wr (pT s q))) := by
  have HR : Hid (RR w b s q wr) := h
  have HVc : Hid (w.heap[b]? = _) := h.row
  have HBc : Hid (Below w.heap.size w w) := Below.refl _ _
  obtain ⟨c0, c1, c2⟩ := h.cells
  have hlo := h.lo
  have hhi := h.hi
  clear h
  obtain ⟨t, q2, c, e⟩ : ∃ t q2 c, getT s (getN s q) = (t, q2, c) := ⟨_, _, _, rfl⟩
  have HE : Hid (getT s (getN s q) = (t, q2, c)) := e
  have HAT : c = 0 → 0 ≤ q2 ∧ q2 ≤ s.size := fun hc => by
    subst hc
    obtain ⟨p, rfl⟩ := Int.eq_ofNat_of_zero_le hlo
    have e2 : pT s (p : Int) = some (t, q2) := by unfold pT; rw [e]; rfl
    obtain ⟨_, rfl, hd⟩ := (codecT s).can p t q2 (by omega) e2
    have := (drop_fits (by omega) hd).1
    omega
  have HRN := fun w => readText_any s q w hs (by omega)
  rw [e] at HRN
  have HN : Hid (∀ w, Calls Try.prog 102 #[.string s, .int .i64 q] w fun e w' => e = .returned (.tuple #[.string t, .int .i64 q2, errV c]) ∧ Below w.heap.size w w') := HRN
  clear HRN e
  go_enter Try.func87, Try.ntmps87
  go_wp2_with fail
  go_region_held3 (fun w' => w'.cell? ⟨b, 0, none⟩ = some (.string s) ∧ w'.cell? ⟨b, 1, none⟩ = some (.int .i64 q)) (exact ⟨(cells3L (by repeat (first | with_reducible exact HVc.out | with_reducible apply heap_drewn))).1, (cells3L (by repeat (first | with_reducible exact HVc.out | with_reducible apply heap_drewn))).2.1⟩) (first
    | (go_at_call 102; refine (HN.out _).mono ?_; rintro e xc ⟨rfl, hb⟩; have HVc : Hid (_ = _) := heap_keep (by repeat (first | with_reducible exact HVc.out | with_reducible apply heap_drewn)) hb; have HBc : Hid (Below w.heap.size w xc) := below_call (by repeat (first | with_reducible exact HBc.out | with_reducible refine Below.drew ?_)) hb; clear hb))
  all_goals
    by_cases hc : c = 0
    · subst hc
      obtain ⟨h0, h1⟩ := HAT rfl
      rw [errV_eq0]
      go_wp2_with fail
      refine Calls.mono (goOn_ok b s q q2 wr _ (by exact ⟨HVc.out, HR.out.lo, HR.out.hi⟩) h0 h1) ?_
      rintro e x ⟨rfl, hR, hb⟩
      go_wp2
      go_ret
      refine ⟨(But.of HBc.out).trans ⟨hb.os, hb.tape, hb.output, hb.size, hb.block⟩, t, q2, wr, rfl, hR, ?_⟩
      have e : pT s q = some (t, q2) := by unfold pT; rw [HE.out]; rfl
      cases wr
      · exact .inl ⟨rfl, e⟩
      · exact .inr ⟨rfl, rfl⟩
    · have he := errV_ne hc
      rw [he]
      go_wp2_with fail
      refine Calls.mono (goOn_no b s q q2 c wr _ (by exact ⟨HVc.out, HR.out.lo, HR.out.hi⟩)) ?_
      rintro e x ⟨rfl, hR, hb⟩
      go_wp2
      go_ret
      refine ⟨(But.of HBc.out).trans ⟨hb.os, hb.tape, hb.output, hb.size, hb.block⟩, t, q, true, rfl, hR, .inr ⟨rfl, ?_⟩⟩
      have e : pT s q = none := by unfold pT; rw [HE.out]; exact if_neg hc
      rw [e]
      cases wr <;> rfl
set_option maxRecDepth 100000 in
set_option maxHeartbeats 1600000 in
theorem rowFlag_any (b : Nat) (s : ByteArray) (q : Int) (wr : Bool) (w : World) (h : RR w b s q wr) (hs : s.size ≤ 8000) :
    Calls Try.prog 88 #[.pointer (some ⟨b, 0, none⟩)] w (RO Value.bool b s w (unlessB wr (pF s q))) := by
  have HN := rowNum_any b s q wr w h hs
  go_enter Try.func88, Try.ntmps88
  go_wp2_with fail
  refine HN.mono ?_
  rintro e x ⟨hb, n, q1, w1, rfl, hR, hx⟩
  have HBT : Hid (But b w x) := hb
  have HR : Hid (RR x b s q1 w1) := hR
  have HX : Hid ((w1 = false ∧ unlessB wr (pN s q) = some (n, q1)) ∨ (w1 = true ∧ unlessB wr (pN s q) = none)) := hx
  obtain ⟨c0, c1, c2⟩ := hR.cells
  have f2 := hR.free 2
  clear hb hR hx
  by_cases h01 : n = 0 ∨ n = 1
  · have HY : Hid ((w1 = false ∧ unlessB wr (pF s q) = some (decide (n = 1), q1)) ∨ (w1 = true ∧ unlessB wr (pF s q) = none)) := by
      show _ ∨ _
      unfold pF
      rw [unless_bind]
      rcases HX.out with ⟨h1, h2⟩ | ⟨h1, h2⟩
      · exact .inl ⟨h1, by rw [h2, Option.bind_some]; exact if_pos h01⟩
      · exact .inr ⟨h1, by rw [h2]; rfl⟩
    rcases h01 with rfl | rfl
    · go_wp2
      go_ret
      exact ⟨HBT.out, false, q1, w1, rfl, HR.out, HY.out⟩
    · go_wp2
      go_ret
      exact ⟨HBT.out, true, q1, w1, rfl, HR.out, HY.out⟩
  · have HY : Hid (unlessB wr (pF s q) = none) := by
      show _ = _
      unfold pF
      rw [unless_bind]
      rcases HX.out with ⟨h1, h2⟩ | ⟨h1, h2⟩
      · rw [h2, Option.bind_some]; exact if_neg h01
      · rw [h2]; rfl
    have h0 : (n != 0) = true := by rw [bne_iff_ne]; omega
    have h1 : (n != 1) = true := by rw [bne_iff_ne]; omega
    go_wp2
    go_ret
    exact ⟨HBT.out.setB rfl _, _, q1, true, rfl, HR.out.wrong, .inr ⟨rfl, HY.out⟩⟩
end Go.Proofs.Ytcnjeeckkpiilaa
