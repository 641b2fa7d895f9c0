/- A drawn region, step by step, over a class of worlds (the kit's held walk). -/
import Derived.Test.YtcnjeeckkpiilaaRows
import Derived.WalkKit
import Derived.WalkSpells
import Derived.WalkLawsBesides
import Derived.Outline
import Derived.RegionTactic
import Derived.BigRegion
import Derived.Deep.QuietTactic
import Derived.BigQuiet
import Derived.Deep.RegionHeld3
import Derived.Test.YtcnjeeckkpiilaaBun0
namespace Go.Proofs.Ytcnjeeckkpiilaa
open Go.RowKit
set_option linter.unusedVariables false

structure WH (P : Program) (ops : Array Oper) (Q : Exit → Act → World → Prop) (S : World → Prop) (n : Nat) (listed : Array Bool) (a : Act) (w : World) : Prop where
  out : wpAnyH P .any ops Q S n listed a w
theorem held_op {P : Program} {ops : Array Oper} {Q : Exit → Act → World → Prop} {S : World → Prop} {n : Nat} {listed : Array Bool} {a : Act} {w : World} (i fuel : Nat) (v : Value) {oi : Oper} (hn : n = fuel + 1) (hi : ops[i]? = some oi)
    (hs : Region.noSelect ops = true) (hf : Region.free .any ops listed i = true) (hr : (Region.ready .any ops listed).contains i = true) (hQ : ∀ c a w, Q (.panic c) (a.put oi.dst v) w → Q (.panic c) a w)
    (hw : Region.wanted oi (yielded ops a.tmps) = true) (hS : S w) (hy : ∀ W, S W → (execOp a.eval oi).run P W = .ok (.value v) W)
    (h : ∀ K : Act → Prop, (∀ b, WH P ops Q S fuel (listed.setIfInBounds i true) b w → K b) → K (a.put oi.dst v)) : WH P ops Q S n listed a w := by
  subst hn
  exact ⟨wpAnyH_take hi hs hf hr hQ (.inl ⟨hw, hy⟩) hS (h _ (fun _ k => k.out))⟩
theorem held_skip {P : Program} {ops : Array Oper} {Q : Exit → Act → World → Prop} {S : World → Prop} {n : Nat} {listed : Array Bool} {a : Act} {w : World} (i fuel : Nat) {oi : Oper} (hn : n = fuel + 1) (hi : ops[i]? = some oi)
    (hs : Region.noSelect ops = true) (hf : Region.free .any ops listed i = true) (hr : (Region.ready .any ops listed).contains i = true) (hQ : ∀ c a w, Q (.panic c) (a.put oi.dst undef) w → Q (.panic c) a w)
    (hw : Region.wanted oi (yielded ops a.tmps) = false) (hS : S w)
    (h : ∀ K : Act → Prop, (∀ b, WH P ops Q S fuel (listed.setIfInBounds i true) b w → K b) → K (a.put oi.dst undef)) : WH P ops Q S n listed a w := by
  subst hn
  exact ⟨wpAnyH_take hi hs hf hr hQ (.inr ⟨hw, rfl⟩) hS (h _ (fun _ k => k.out))⟩
theorem held_one {P : Program} {ops : Array Oper} {Q : Exit → Act → World → Prop} {S : World → Prop} {n : Nat} {listed : Array Bool} {a : Act} {w : World} (i fuel : Nat) {oi : Oper} (hn : n = fuel + 1) (hr : Region.ready .any ops listed = [i]) (hi : ops[i]? = some oi)
    (hw : Region.wanted oi (yielded ops a.tmps) = true) (h : ∀ K : Act → World → Prop, Shut (∀ b x, S x → WH P ops Q S fuel (listed.setIfInBounds i true) b x → K b x) → Oper.wp P oi a w K Q) : WH P ops Q S n listed a w := by
  subst hn
  exact ⟨wpAnyH_ready hr (by simp) (AllReadyH.cons hi (fun K' hK => by rw [if_pos hw]; exact h K' (show Shut _ from fun b x hS k => Shut.out hK b x hS (fun _ => k.out))) AllReadyH.nil)⟩
theorem held_two {P : Program} {ops : Array Oper} {Q : Exit → Act → World → Prop} {S : World → Prop} {n : Nat} {listed : Array Bool} {a : Act} {w : World} (i j fuel : Nat) {oi oj : Oper} (hn : n = fuel + 1) (hr : Region.ready .any ops listed = [i, j]) (hi : ops[i]? = some oi) (hj : ops[j]? = some oj)
    (hw : Region.wanted oi (yielded ops a.tmps) = true) (hw2 : Region.wanted oj (yielded ops a.tmps) = true)
    (h : ∀ K : Act → World → Prop, Shut (∀ b x, S x → WH P ops Q S fuel (listed.setIfInBounds i true) b x → K b x) → Oper.wp P oi a w K Q)
    (h2 : ∀ K : Act → World → Prop, Shut (∀ b x, S x → WH P ops Q S fuel (listed.setIfInBounds j true) b x → K b x) → Oper.wp P oj a w K Q) : WH P ops Q S n listed a w := by
  subst hn
  exact ⟨wpAnyH_ready hr (by simp) (AllReadyH.cons hi (fun K' hK => by rw [if_pos hw]; exact h K' (show Shut _ from fun b x hS k => Shut.out hK b x hS (fun _ => k.out))) (AllReadyH.cons hj (fun K' hK => by rw [if_pos hw2]; exact h2 K' (show Shut _ from fun b x hS k => Shut.out hK b x hS (fun _ => k.out))) AllReadyH.nil))⟩
theorem held_done {P : Program} {ops : Array Oper} {Q : Exit → Act → World → Prop} {S : World → Prop} {n : Nat} {listed : Array Bool} {a : Act} {w : World} (hr : Region.ready .any ops listed = []) (h : Q .normal a w) : WH P ops Q S n listed a w := ⟨wpAnyH_done hr h n⟩
end Go.Proofs.Ytcnjeeckkpiilaa
