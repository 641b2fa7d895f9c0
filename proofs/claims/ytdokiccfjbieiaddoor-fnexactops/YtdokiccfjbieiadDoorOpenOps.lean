/- What the listed table of operations reads as gives the cells of its block. -/
import Derived.Test.YtdokiccfjbieiadDoorRows
import Derived.WalkKit
import Derived.ProofKit
import Derived.OpenShut
import Derived.ChangeArms
import Derived.LaidLaws
import Derived.MakeChecks
import Derived.Test.YtdokiccfjbieiadDoorOpsA
namespace Go.Proofs.YtdokiccfjbieiadDoor
open Go.RowKit

theorem rows_eq {c : Nat} : ∀ (n : Nat) (cs : List Value) (f : Nat → List Value), cs.length = n * c → (∀ i, i < n → (cs.drop (i * c)).take c = f i) → cs = (List.range n).flatMap f := by
  intro n
  induction n with
  | zero => intro cs f hl _; simp at hl; simp [hl]
  | succ n ih =>
    intro cs f hl h
    have h0 := h 0 (by omega)
    simp at h0
    have hd : (cs.drop c).length = n * c := by rw [List.length_drop, hl, Nat.succ_mul]; omega
    have := ih (cs.drop c) (fun i => f (i + 1)) hd (fun i hi => by
      have := h (i + 1) (by omega)
      rw [List.drop_drop]
      rwa [show c + i * c = (i + 1) * c by rw [Nat.succ_mul]; omega])
    rw [List.range_succ_eq_map, List.flatMap_cons, List.flatMap_map, ← this, ← h0, List.take_append_drop]
theorem range_flat {α β : Type} (F : Option α → List β) : ∀ xs : List α, (List.range xs.length).flatMap (fun i => F xs[i]?) = xs.flatMap fun x => F (some x)
  | [] => rfl
  | x :: xs => by
    rw [List.length_cons, List.range_succ_eq_map, List.flatMap_cons, List.flatMap_map, List.flatMap_cons]
    simp only [List.getElem?_cons_zero, List.getElem?_cons_succ]
    rw [range_flat F xs]
theorem trod_rows {H : Type} {enc : TypeId × Value → H} {P : Program} {w : World} {base : Nat} {sp : Nat → Bool} {held : Bool} {fuel : Nat} {t e : TypeId} {n : Nat} {cs : List Value} {ds : List (DataW H)} {p : List MemPlace} (g : DataW H → List Value)
    (ht : P.underlying t = some (.array n e)) (hc : P.cellsOf t = n * P.cellsOf e) (h : DataW.trod enc P w base sp held fuel t cs = some (.agg ds, p))
    (hg : ∀ m cs' d p', DataW.trod enc P w base sp held m e cs' = some (d, p') → cs' = g d) : cs = ds.flatMap g := by
  obtain ⟨xs, m, _, hx, hl, hn, hel⟩ := DataW.trod_array ht h
  simp only [Prod.mk.injEq, DataW.agg.injEq] at hx
  obtain ⟨rfl, _⟩ := hx
  rw [rows_eq n cs (fun i => g (xs[i]?.map (·.1) |>.getD (.nil))) (by rw [hl, hc]) (fun i hi => by
    have := hel i hi
    rw [List.getElem?_eq_getElem (by omega)] at this ⊢
    exact hg _ _ xs[i].1 xs[i].2 this)]
  subst hn
  rw [List.flatMap_map]
  exact range_flat (fun x => g (x.map (·.1) |>.getD .nil)) xs
/- The two tables. -/
def oneS : DataW Unit → List Value
  | .lit (.string l) => [.string ⟨l.toArray⟩]
  | .lit (.int k n) => [.int k n]
  | _ => []
def rowS : DataW Unit → List Value
  | .agg ds => ds.flatMap oneS
  | _ => []
theorem string_cells {w : World} {sp : Nat → Bool} {held : Bool} {m : Nat} {cs : List Value} {d : DataW Unit} {p : List MemPlace} (h : DataW.trod (fun _ => ()) Tryd.prog w 0 sp held m 9 cs = some (d, p)) : cs = oneS d := by
  obtain ⟨s, rfl, hx, _⟩ := DataW.trod_string Tryd.underlying9 h
  cases hx
  simp [oneS]
theorem row_cells {w : World} {sp : Nat → Bool} {held : Bool} {m : Nat} {cs : List Value} {d : DataW Unit} {p : List MemPlace} (h : DataW.trod (fun _ => ()) Tryd.prog w 0 sp held m 27 cs = some (d, p)) : cs = rowS d := by
  obtain ⟨xs, _, _, hx, _⟩ := DataW.trod_array Tryd.underlying27 h
  simp only [Prod.mk.injEq] at hx
  obtain ⟨rfl, _⟩ := hx
  exact trod_rows oneS Tryd.underlying27 (by kernel_rfl) h (fun _ _ _ _ h' => string_cells h')
theorem ops_cells {w : World} {sp : Nat → Bool} {held : Bool} {m : Nat} {cs : List Value} {p : List MemPlace} (h : DataW.trod (fun _ => ()) Tryd.prog w 0 sp held m 28 cs = some (Rows.laid_loop_example_g00367_impl_opNames, p)) : cs = opsV.toList := by
  unfold Rows.laid_loop_example_g00367_impl_opNames at h
  exact trod_rows rowS Tryd.underlying28 (by kernel_rfl) h (fun _ _ _ _ h' => row_cells h')
theorem gOps : Tryd.prog.globalNamed "loop.example/g00367/impl.opNames" = some 0 := by kernel_rfl
theorem tOps : (Tryd.prog.globals[0]?).map (·.type) = some 28 := by kernel_rfl
theorem var_block {P : Program} {w : World} {n : String} {g : Nat} {cs : Array Value} (hg : P.globalNamed n = some g) (h : w.var? P n = some cs) : ∃ t fr, w.heap[g]? = some (.cells cs t fr) := by
  unfold World.var? at h
  rw [hg] at h
  simp only [Option.bind_some] at h
  split at h
  · rename_i c t fr hh
    cases h
    exact ⟨t, fr, hh⟩
  · cases h
theorem ops_of_laid {W : World} (h : laidMetH Tryd.prog [("loop.example/g00367/impl.opNames", Rows.laid_loop_example_g00367_impl_opNames)] W) : OpsTab W := by
  rw [MakeChecks.laidMetH_plain _ _ _ (by kernel_rfl)] at h
  obtain ⟨ps, ⟨g0, t0, cs0, f0, p0, q0, hg0, ht0, hv0, hd0, _, _⟩, _, _⟩ := h
  obtain rfl := Option.some.inj (gOps.symm.trans hg0)
  obtain rfl := Option.some.inj (tOps.symm.trans ht0)
  have e0 : cs0 = opsV := Array.toList_inj.1 (ops_cells hd0)
  subst e0
  exact ⟨var_block hg0 hv0⟩
end Go.Proofs.YtdokiccfjbieiadDoor
