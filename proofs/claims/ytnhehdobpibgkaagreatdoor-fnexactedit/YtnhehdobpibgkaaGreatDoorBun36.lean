/- The program's reader of rows: a number, a text, a flag, a Sym, a Ref. -/
import Derived.Test.YtnhehdobpibgkaaGreatDoorRows
import Derived.WalkKit
import Derived.WalkSpells
import Derived.WalkLawsBesides
import Derived.Outline
import Derived.RegionTactic
import Derived.BigRegion
import Derived.Deep.QuietTactic
import Derived.BigQuiet
import Derived.Deep.RegionHeld3
import Derived.Test.YtnhehdobpibgkaaGreatDoorBun0
import Derived.Test.YtnhehdobpibgkaaGreatDoorBun1
import Derived.Test.YtnhehdobpibgkaaGreatDoorBun9
import Derived.Test.YtnhehdobpibgkaaGreatDoorReadNumZq
import Derived.Test.YtnhehdobpibgkaaGreatDoorBun11
import Derived.Test.YtnhehdobpibgkaaGreatDoorReadMZq
namespace Go.Proofs.YtnhehdobpibgkaaGreatDoor
open Go.RowKit
set_option linter.unusedVariables false

structure RR (w : World) (b : Nat) (s : ByteArray) (q : Int) (wr : Bool) : Prop where
  row : w.heap[b]? = some (.cells #[.string s, .int .i64 q, .bool wr] 98 (0, 0))
  lo : 0 ≤ q
  hi : q ≤ s.size
theorem RR.call {w w' : World} {b : Nat} {s : ByteArray} {q : Int} {wr : Bool} (h : RR w b s q wr) (hb : Below w.heap.size w w') : RR w' b s q wr := ⟨heap_keep h.row hb, h.lo, h.hi⟩
theorem RR.cells {w : World} {b : Nat} {s : ByteArray} {q : Int} {wr : Bool} (h : RR w b s q wr) : w.cell? ⟨b, 0, none⟩ = some (.string s) ∧ w.cell? ⟨b, 1, none⟩ = some (.int .i64 q) ∧ w.cell? ⟨b, 2, none⟩ = some (.bool wr) := cells3L h.row
theorem RR.free {w : World} {b : Nat} {s : ByteArray} {q : Int} {wr : Bool} (h : RR w b s q wr) (i : Nat) : w.frozen? ⟨b, i, none⟩ = false := frozen_of_row _ _ _ _ _ h.row
theorem RR.wrong {w : World} {b : Nat} {s : ByteArray} {q : Int} {wr : Bool} (h : RR w b s q wr) : RR (w.setCell ⟨b, 2, none⟩ (.bool true)) b s q true := ⟨heap_set h.row 2 _, h.lo, h.hi⟩
theorem RR.go {w : World} {b : Nat} {s : ByteArray} {q : Int} {wr : Bool} (h : RR w b s q wr) (q2 : Int) (h0 : 0 ≤ q2) (h1 : q2 ≤ s.size) : RR (w.setCell ⟨b, 1, none⟩ (.int .i64 q2)) b s q2 wr := ⟨heap_set h.row 1 _, h0, h1⟩
/- What a reading call leaves: its value, the reader behind it; right if and only if x tells something. -/
def RO {α : Type} (vs : α → Value) (b : Nat) (s : ByteArray) (w : World) (x : Option (α × Int)) (e : Ending) (w' : World) : Prop :=
  But b w w' ∧ ∃ (a : α) (q : Int) (wr : Bool), e = .returned (vs a) ∧ RR w' b s q wr ∧ ((wr = false ∧ x = some (a, q)) ∨ (wr = true ∧ x = none))
def unlessB {α : Type} (wr : Bool) (x : Option α) : Option α := if wr then none else x
theorem seq_step {α β : Type} {f : Int → Option (α × Int)} {g : Int → Option (β × Int)} {x : Option (α × Int)} {a : α} {q1 : Int} {w1 : Bool} {b : β} {q2 : Int} {w2 : Bool}
    (h1 : (w1 = false ∧ x = some (a, q1)) ∨ (w1 = true ∧ x = none)) (h2 : (w2 = false ∧ unlessB w1 (g q1) = some (b, q2)) ∨ (w2 = true ∧ unlessB w1 (g q1) = none)) :
    (w2 = false ∧ (x.bind fun x => (g x.2).bind fun y => some ((x.1, y.1), y.2)) = some ((a, b), q2)) ∨ (w2 = true ∧ (x.bind fun x => (g x.2).bind fun y => some ((x.1, y.1), y.2)) = none) := by
  rcases h1 with ⟨rfl, rfl⟩ | ⟨rfl, rfl⟩
  · rcases h2 with ⟨rfl, h⟩ | ⟨rfl, h⟩
    · refine .inl ⟨rfl, ?_⟩
      have h' : g q1 = some (b, q2) := h
      rw [Option.bind_some, h']; rfl
    · refine .inr ⟨rfl, ?_⟩
      have h' : g q1 = none := h
      rw [Option.bind_some, h']; rfl
  · rcases h2 with ⟨rfl, h⟩ | ⟨rfl, h⟩
    · cases h
    · exact .inr ⟨rfl, rfl⟩
theorem errV_eq0 : errV 0 = .nilIface := rfl
theorem errV_ne {c : Int} (h : ¬ c = 0) : errV c = .iface 95 (.agg #[.int .i64 c]) := if_neg h
set_option maxRecDepth 100000 in
set_option maxHeartbeats 1600000 in
theorem goOn_ok (b : Nat) (s : ByteArray) (q q2 : Int) (wr : Bool) (w : World) (h : RR w b s q wr) (h0 : 0 ≤ q2) (h1 : q2 ≤ s.size) :
    Calls Tryz.prog 91 #[.pointer (some ⟨b, 0, none⟩), .int .i64 q2, .nilIface] w fun e w' => e = .returned (.tuple #[]) ∧ RR w' b s q2 wr ∧ But b w w' := by
  have HR : Hid (RR w b s q wr) := h
  obtain ⟨c0, c1, c2⟩ := h.cells
  have f1 := h.free 1
  go_enter Tryz.func91, Tryz.ntmps91
  go_wp2
  go_end0
  exact ⟨rfl, HR.out.go q2 h0 h1, But.setB (But.refl b w) (p := ⟨b, 1, none⟩) rfl _⟩
set_option maxRecDepth 100000 in
set_option maxHeartbeats 1600000 in
theorem goOn_no (b : Nat) (s : ByteArray) (q q2 c : Int) (wr : Bool) (w : World) (h : RR w b s q wr) :
    Calls Tryz.prog 91 #[.pointer (some ⟨b, 0, none⟩), .int .i64 q2, .iface 95 (.agg #[.int .i64 c])] w fun e w' => e = .returned (.tuple #[]) ∧ RR w' b s q true ∧ But b w w' := by
  have HR : Hid (RR w b s q wr) := h
  obtain ⟨c0, c1, c2⟩ := h.cells
  have f2 := h.free 2
  go_enter Tryz.func91, Tryz.ntmps91
  go_wp2
  refine bodyPost_ret (results_none rfl _ _ _) rfl ?_
  exact ⟨rfl, HR.out.wrong, But.setB (But.refl b w) (p := ⟨b, 2, none⟩) rfl _⟩
theorem unless_bind {α β : Type} (wr : Bool) (x : Option α) (f : α → Option β) : unlessB wr (x.bind f) = (unlessB wr x).bind f := by cases wr <;> rfl
set_option maxRecDepth 100000 in
set_option maxHeartbeats 1600000 in
theorem rowText_any (b : Nat) (s : ByteArray) (q : Int) (wr : Bool) (w : World) (h : RR w b s q wr) (hs : s.size ≤ 8000) :
    Calls Tryz.prog 79 #[.pointer (some ⟨b, 0, none⟩)] w (RO Value.string b s w (unlessB wr (pT s q))) := by
  have HR : Hid (RR w b s q wr) := h
  have HVc : Hid (w.heap[b]? = _) := h.row
  have HBc : Hid (Below w.heap.size w w) := Below.refl _ _
  obtain ⟨c0, c1, c2⟩ := h.cells
  have hlo := h.lo
  have hhi := h.hi
  clear h
  obtain ⟨t, q2, c, e⟩ : ∃ t q2 c, getT s (getN s q) = (t, q2, c) := ⟨_, _, _, rfl⟩
  have HE : Hid (getT s (getN s q) = (t, q2, c)) := e
  have HAT : c = 0 → 0 ≤ q2 ∧ q2 ≤ s.size := fun hc => by
    subst hc
    obtain ⟨p, rfl⟩ := Int.eq_ofNat_of_zero_le hlo
    have e2 : pT s (p : Int) = some (t, q2) := by unfold pT; rw [e]; rfl
    obtain ⟨_, rfl, hd⟩ := (codecT s).can p t q2 (by omega) e2
    have := (drop_fits (by omega) hd).1
    omega
  have HRN := fun w => readText_any s q w hs (by omega)
  rw [e] at HRN
  have HN : Hid (∀ w, Calls Tryz.prog 45 #[.string s, .int .i64 q] w fun e w' => e = .returned (.tuple #[.string t, .int .i64 q2, errV c]) ∧ Below w.heap.size w w') := HRN
  clear HRN e
  go_enter Tryz.func79, Tryz.ntmps79
  go_wp2_with fail
  go_region_held3 (fun w' => w'.cell? ⟨b, 0, none⟩ = some (.string s) ∧ w'.cell? ⟨b, 1, none⟩ = some (.int .i64 q)) (exact ⟨(cells3L (by repeat (first | with_reducible exact HVc.out | with_reducible apply heap_drewn))).1, (cells3L (by repeat (first | with_reducible exact HVc.out | with_reducible apply heap_drewn))).2.1⟩) (first
    | (go_at_call 45; refine (HN.out _).mono ?_; rintro e xc ⟨rfl, hb⟩; have HVc : Hid (_ = _) := heap_keep (by repeat (first | with_reducible exact HVc.out | with_reducible apply heap_drewn)) hb; have HBc : Hid (Below w.heap.size w xc) := below_call (by repeat (first | with_reducible exact HBc.out | with_reducible refine Below.drew ?_)) hb; clear hb))
  all_goals
    by_cases hc : c = 0
    · subst hc
      obtain ⟨h0, h1⟩ := HAT rfl
      rw [errV_eq0]
      go_wp2_with fail
      refine Calls.mono (goOn_ok b s q q2 wr _ (by exact ⟨HVc.out, HR.out.lo, HR.out.hi⟩) h0 h1) ?_
      rintro e x ⟨rfl, hR, hb⟩
      go_wp2
      go_ret
      refine ⟨(But.of HBc.out).trans ⟨hb.os, hb.tape, hb.output, hb.size, hb.block⟩, t, q2, wr, rfl, hR, ?_⟩
      have e : pT s q = some (t, q2) := by unfold pT; rw [HE.out]; rfl
      cases wr
      · exact .inl ⟨rfl, e⟩
      · exact .inr ⟨rfl, rfl⟩
    · have he := errV_ne hc
      rw [he]
      go_wp2_with fail
      refine Calls.mono (goOn_no b s q q2 c wr _ (by exact ⟨HVc.out, HR.out.lo, HR.out.hi⟩)) ?_
      rintro e x ⟨rfl, hR, hb⟩
      go_wp2
      go_ret
      refine ⟨(But.of HBc.out).trans ⟨hb.os, hb.tape, hb.output, hb.size, hb.block⟩, t, q, true, rfl, hR, .inr ⟨rfl, ?_⟩⟩
      have e : pT s q = none := by unfold pT; rw [HE.out]; exact if_neg hc
      rw [e]
      cases wr <;> rfl
end Go.Proofs.YtnhehdobpibgkaaGreatDoor
namespace Go.Proofs.YtnhehdobpibgkaaGreatDoor
open Go.RowKit
set_option linter.unusedVariables false

structure WH (P : Program) (ops : Array Oper) (Q : Exit → Act → World → Prop) (S : World → Prop) (n : Nat) (listed : Array Bool) (a : Act) (w : World) : Prop where
  out : wpAnyH P .any ops Q S n listed a w
theorem held_op {P : Program} {ops : Array Oper} {Q : Exit → Act → World → Prop} {S : World → Prop} {n : Nat} {listed : Array Bool} {a : Act} {w : World} (i fuel : Nat) (v : Value) {oi : Oper} (hn : n = fuel + 1) (hi : ops[i]? = some oi)
    (hs : Region.noSelect ops = true) (hf : Region.free .any ops listed i = true) (hr : (Region.ready .any ops listed).contains i = true) (hQ : ∀ c a w, Q (.panic c) (a.put oi.dst v) w → Q (.panic c) a w)
    (hw : Region.wanted oi (yielded ops a.tmps) = true) (hS : S w) (hy : ∀ W, S W → (execOp a.eval oi).run P W = .ok (.value v) W)
    (h : ∀ K : Act → Prop, (∀ b, WH P ops Q S fuel (listed.setIfInBounds i true) b w → K b) → K (a.put oi.dst v)) : WH P ops Q S n listed a w := by
  subst hn
  exact ⟨wpAnyH_take hi hs hf hr hQ (.inl ⟨hw, hy⟩) hS (h _ (fun _ k => k.out))⟩
theorem held_skip {P : Program} {ops : Array Oper} {Q : Exit → Act → World → Prop} {S : World → Prop} {n : Nat} {listed : Array Bool} {a : Act} {w : World} (i fuel : Nat) {oi : Oper} (hn : n = fuel + 1) (hi : ops[i]? = some oi)
    (hs : Region.noSelect ops = true) (hf : Region.free .any ops listed i = true) (hr : (Region.ready .any ops listed).contains i = true) (hQ : ∀ c a w, Q (.panic c) (a.put oi.dst undef) w → Q (.panic c) a w)
    (hw : Region.wanted oi (yielded ops a.tmps) = false) (hS : S w)
    (h : ∀ K : Act → Prop, (∀ b, WH P ops Q S fuel (listed.setIfInBounds i true) b w → K b) → K (a.put oi.dst undef)) : WH P ops Q S n listed a w := by
  subst hn
  exact ⟨wpAnyH_take hi hs hf hr hQ (.inr ⟨hw, rfl⟩) hS (h _ (fun _ k => k.out))⟩
theorem held_one {P : Program} {ops : Array Oper} {Q : Exit → Act → World → Prop} {S : World → Prop} {n : Nat} {listed : Array Bool} {a : Act} {w : World} (i fuel : Nat) {oi : Oper} (hn : n = fuel + 1) (hr : Region.ready .any ops listed = [i]) (hi : ops[i]? = some oi)
    (hw : Region.wanted oi (yielded ops a.tmps) = true) (h : ∀ K : Act → World → Prop, Shut (∀ b x, S x → WH P ops Q S fuel (listed.setIfInBounds i true) b x → K b x) → Oper.wp P oi a w K Q) : WH P ops Q S n listed a w := by
  subst hn
  exact ⟨wpAnyH_ready hr (by simp) (AllReadyH.cons hi (fun K' hK => by rw [if_pos hw]; exact h K' (show Shut _ from fun b x hS k => Shut.out hK b x hS (fun _ => k.out))) AllReadyH.nil)⟩
theorem held_two {P : Program} {ops : Array Oper} {Q : Exit → Act → World → Prop} {S : World → Prop} {n : Nat} {listed : Array Bool} {a : Act} {w : World} (i j fuel : Nat) {oi oj : Oper} (hn : n = fuel + 1) (hr : Region.ready .any ops listed = [i, j]) (hi : ops[i]? = some oi) (hj : ops[j]? = some oj)
    (hw : Region.wanted oi (yielded ops a.tmps) = true) (hw2 : Region.wanted oj (yielded ops a.tmps) = true)
    (h : ∀ K : Act → World → Prop, Shut (∀ b x, S x → WH P ops Q S fuel (listed.setIfInBounds i true) b x → K b x) → Oper.wp P oi a w K Q)
    (h2 : ∀ K : Act → World → Prop, Shut (∀ b x, S x → WH P ops Q S fuel (listed.setIfInBounds j true) b x → K b x) → Oper.wp P oj a w K Q) : WH P ops Q S n listed a w := by
  subst hn
  exact ⟨wpAnyH_ready hr (by simp) (AllReadyH.cons hi (fun K' hK => by rw [if_pos hw]; exact h K' (show Shut _ from fun b x hS k => Shut.out hK b x hS (fun _ => k.out))) (AllReadyH.cons hj (fun K' hK => by rw [if_pos hw2]; exact h2 K' (show Shut _ from fun b x hS k => Shut.out hK b x hS (fun _ => k.out))) AllReadyH.nil))⟩
theorem held_done {P : Program} {ops : Array Oper} {Q : Exit → Act → World → Prop} {S : World → Prop} {n : Nat} {listed : Array Bool} {a : Act} {w : World} (hr : Region.ready .any ops listed = []) (h : Q .normal a w) : WH P ops Q S n listed a w := ⟨wpAnyH_done hr h n⟩
end Go.Proofs.YtnhehdobpibgkaaGreatDoor
