/- The walk of FnExactListing. -/
import Derived.Test.YtknielpkmablkaaDoorRows
import Derived.WalkKit
import Derived.WalkSpells
import Derived.WalkLawsBesides
import Derived.Outline
import Derived.Test.YtknielpkmablkaaDoorBun0
import Derived.Test.YtknielpkmablkaaDoorBun1
import Derived.Test.YtknielpkmablkaaDoorBun3
import Derived.Test.YtknielpkmablkaaDoorBun25
import Derived.Test.YtknielpkmablkaaDoorLawInsnTX
import Derived.Test.YtknielpkmablkaaDoorBun42
import Derived.Test.YtknielpkmablkaaDoorDisLX
import Derived.Test.YtknielpkmablkaaDoorDisTX
import Derived.Test.YtknielpkmablkaaDoorDisVX
import Derived.ProofKit
import Derived.OpenShut
import Derived.ChangeArms
import Derived.LaidLaws
import Derived.MakeChecks
import Derived.Test.YtknielpkmablkaaDoorBun4
namespace Go.Proofs.YtknielpkmablkaaDoor
open Go.RowKit
set_option linter.unusedVariables false

set_option maxRecDepth 100000 in
set_option maxHeartbeats 1600000 in
theorem lawListing_walk (a : Option Addr) (L : List Int) (cap : Nat) (base : Int) (w : World) (hR : ReadI w a L) (hm : L.length ≤ maxLen) (hT : PowTabs w) :
    Calls Tryd.prog 4 #[.slice a L.length cap, .int .i64 base] w fun e w' => e = .returned (.bool true) ∧ Below w.heap.size w w' := by
  have HT : Hid (Tabs w) := hT.tabs
  have HP : Hid (Pow w) := hT.pow
  have HR : Hid (ReadI w a L) := hR
  unfold maxLen at hm
  clear hT hR
  by_cases hbig : 1048576 < L.length
  · have hb' : (1048576 : Int) < (L.length : Int) := by omega
    go_enter Tryd.func4, Tryd.ntmps4
    go_wp2
    go_ret
    exact ⟨rfl, Below.refl _ _⟩
  · have hb' : ¬ (1048576 : Int) < (L.length : Int) := by omega
    go_enter Tryd.func4, Tryd.ntmps4
    go_wp2_with fail
    refine (toInt64S_any a L cap _ HR.out (by omega)).mono ?_
    rintro e x1 ⟨rfl, h1, hb⟩
    have HG1 : Hid (_ = _) := h1
    have HB1 : Hid (Below w.heap.size w x1) := hb
    clear h1 hb
    go_wp2_with fail
    refine (specListing_any _ L _ base _ (made_read HG1.out) (by omega) (Nat.le_refl _)).mono ?_
    rintro e x2 ⟨rs, hres, rfl, hb⟩
    have HRS : Hid (DisRes base L rs) := hres
    have HB2 : Hid (Below w.heap.size w x2) := below_call HB1.out hb
    clear hb hres
    go_wp2_with fail
    refine (toInt64S_any a L cap _ (HR.out.below HB2.out) (by omega)).mono ?_
    rintro e x3 ⟨rfl, h1, hb⟩
    have HG3 : Hid (_ = _) := h1
    have HB3 : Hid (Below w.heap.size w x3) := below_call HB2.out hb
    clear h1 hb
    go_wp2_with fail
    refine (implListing_any _ L _ base _ (made_read HG3.out) (HT.out.below HB3.out) (HP.out.below HB3.out) (by omega) (Nat.le_refl _)).mono ?_
    rintro e x4 ⟨rs2, hres, rfl, hb⟩
    have hrs : rs2 = rs := hres.one HRS.out
    subst hrs
    have HG4 : Hid (_ = _) := heap_keep HG3.out hb
    have HB4 : Hid (Below w.heap.size w x4) := below_call HB3.out hb
    clear hb hres
    go_wp2_with fail
    refine (toInt64S_any a L cap _ (HR.out.below HB4.out) (by omega)).mono ?_
    rintro e x6 ⟨rfl, h1, hb⟩
    have HG6 : Hid (_ = _) := h1
    have HH6 : Hid (_ = _) := heap_keep HG4.out hb
    have HB6 : Hid (Below w.heap.size w x6) := below_call HB4.out hb
    clear h1 hb
    go_wp2_with fail
    refine (eqInt64S_any _ _ 0 0 L L _ (made_own HH6.out (Nat.zero_le _) (by omega)) (made_own HG6.out (Nat.zero_le _) (by omega)) (by omega) (by omega)).mono ?_
    rintro e x7 ⟨rfl, hb⟩
    rw [decide_eq_true rfl]
    go_wp2
    go_ret
    exact ⟨rfl, below_call HB6.out hb⟩
end Go.Proofs.YtknielpkmablkaaDoor
namespace Go.Proofs.YtknielpkmablkaaDoor
open Go.RowKit

theorem rows_eq {c : Nat} : ∀ (n : Nat) (cs : List Value) (f : Nat → List Value), cs.length = n * c → (∀ i, i < n → (cs.drop (i * c)).take c = f i) → cs = (List.range n).flatMap f := by
  intro n
  induction n with
  | zero => intro cs f hl _; simp at hl; simp [hl]
  | succ n ih =>
    intro cs f hl h
    have h0 := h 0 (by omega)
    simp at h0
    have hd : (cs.drop c).length = n * c := by rw [List.length_drop, hl, Nat.succ_mul]; omega
    have := ih (cs.drop c) (fun i => f (i + 1)) hd (fun i hi => by
      have := h (i + 1) (by omega)
      rw [List.drop_drop]
      rwa [show c + i * c = (i + 1) * c by rw [Nat.succ_mul]; omega])
    rw [List.range_succ_eq_map, List.flatMap_cons, List.flatMap_map, ← this, ← h0, List.take_append_drop]
theorem range_flat {α β : Type} (F : Option α → List β) : ∀ xs : List α, (List.range xs.length).flatMap (fun i => F xs[i]?) = xs.flatMap fun x => F (some x)
  | [] => rfl
  | x :: xs => by
    rw [List.length_cons, List.range_succ_eq_map, List.flatMap_cons, List.flatMap_map, List.flatMap_cons]
    simp only [List.getElem?_cons_zero, List.getElem?_cons_succ]
    rw [range_flat F xs]
theorem trod_rows {H : Type} {enc : TypeId × Value → H} {P : Program} {w : World} {base : Nat} {sp : Nat → Bool} {held : Bool} {fuel : Nat} {t e : TypeId} {n : Nat} {cs : List Value} {ds : List (DataW H)} {p : List MemPlace} (g : DataW H → List Value)
    (ht : P.underlying t = some (.array n e)) (hc : P.cellsOf t = n * P.cellsOf e) (h : DataW.trod enc P w base sp held fuel t cs = some (.agg ds, p))
    (hg : ∀ m cs' d p', DataW.trod enc P w base sp held m e cs' = some (d, p') → cs' = g d) : cs = ds.flatMap g := by
  obtain ⟨xs, m, _, hx, hl, hn, hel⟩ := DataW.trod_array ht h
  simp only [Prod.mk.injEq, DataW.agg.injEq] at hx
  obtain ⟨rfl, _⟩ := hx
  rw [rows_eq n cs (fun i => g (xs[i]?.map (·.1) |>.getD (.nil))) (by rw [hl, hc]) (fun i hi => by
    have := hel i hi
    rw [List.getElem?_eq_getElem (by omega)] at this ⊢
    exact hg _ _ xs[i].1 xs[i].2 this)]
  subst hn
  rw [List.flatMap_map]
  exact range_flat (fun x => g (x.map (·.1) |>.getD .nil)) xs
/- The two tables. -/
def oneS : DataW Unit → List Value
  | .lit (.string l) => [.string ⟨l.toArray⟩]
  | .lit (.int k n) => [.int k n]
  | _ => []
def rowS : DataW Unit → List Value
  | .agg ds => ds.flatMap oneS
  | _ => []
theorem string_cells {w : World} {sp : Nat → Bool} {held : Bool} {m : Nat} {cs : List Value} {d : DataW Unit} {p : List MemPlace} (h : DataW.trod (fun _ => ()) Tryd.prog w 0 sp held m 9 cs = some (d, p)) : cs = oneS d := by
  obtain ⟨s, rfl, hx, _⟩ := DataW.trod_string Tryd.underlying9 h
  cases hx
  simp [oneS]
theorem int_cells {w : World} {sp : Nat → Bool} {held : Bool} {m : Nat} {cs : List Value} {d : DataW Unit} {p : List MemPlace} (h : DataW.trod (fun _ => ()) Tryd.prog w 0 sp held m 2 cs = some (d, p)) : cs = oneS d := by
  obtain ⟨n, rfl, hx, _⟩ := DataW.trod_int Tryd.underlying2 h
  cases hx
  simp [oneS]
theorem row_cells {w : World} {sp : Nat → Bool} {held : Bool} {m : Nat} {cs : List Value} {d : DataW Unit} {p : List MemPlace} (h : DataW.trod (fun _ => ()) Tryd.prog w 0 sp held m 75 cs = some (d, p)) : cs = rowS d := by
  obtain ⟨xs, _, _, hx, _⟩ := DataW.trod_array Tryd.underlying75 h
  simp only [Prod.mk.injEq] at hx
  obtain ⟨rfl, _⟩ := hx
  exact trod_rows oneS Tryd.underlying75 (by kernel_rfl) h (fun _ _ _ _ h' => string_cells h')
def fieldS : DataW Unit → List Value
  | .agg [x, y] => oneS x ++ oneS y
  | _ => []
def shortS : DataW Unit → List Value
  | .agg [x, y] => oneS x ++ fieldS y
  | _ => []
set_option maxRecDepth 100000 in
theorem field_cells {w : World} {sp : Nat → Bool} {held : Bool} {m : Nat} {cs : List Value} {d : DataW Unit} {p : List MemPlace} (h : DataW.trod (fun _ => ()) Tryd.prog w 0 sp held m 79 cs = some (d, p)) : cs = fieldS d := by
  obtain ⟨xs, n, _, hx, hl, hn, hf⟩ := DataW.trod_struct Tryd.underlying79 h
  have hl2 : cs.length = 2 := hl.trans (by kernel_rfl)
  match cs, hl2, xs, hn with
  | [c0, c1], _, [x0, x1], _ =>
    simp only [Prod.mk.injEq] at hx
    obtain ⟨rfl, _⟩ := hx
    have h0 := hf 0 _ rfl
    have h1 := hf 1 _ rfl
    have e0 := int_cells (p := x0.2) (d := x0.1) h0
    have e1 := int_cells (p := x1.2) (d := x1.1) h1
    have k : Tryd.prog.cellsOf 2 = 1 := by kernel_rfl
    simp [k] at e0 e1
    simp [fieldS, ← e0, ← e1]
set_option maxRecDepth 100000 in
theorem short_cells {w : World} {sp : Nat → Bool} {held : Bool} {m : Nat} {cs : List Value} {d : DataW Unit} {p : List MemPlace} (h : DataW.trod (fun _ => ()) Tryd.prog w 0 sp held m 89 cs = some (d, p)) : cs = shortS d := by
  obtain ⟨xs, n, _, hx, hl, hn, hf⟩ := DataW.trod_struct Tryd.underlying89 h
  have hl2 : cs.length = 3 := hl.trans (by kernel_rfl)
  match cs, hl2, xs, hn with
  | [c0, c1, c2], _, [x0, x1], _ =>
    simp only [Prod.mk.injEq] at hx
    obtain ⟨rfl, _⟩ := hx
    have h0 := hf 0 _ rfl
    have h1 := hf 1 _ rfl
    have e0 := int_cells (p := x0.2) (d := x0.1) h0
    have e1 := field_cells (p := x1.2) (d := x1.1) h1
    have k : Tryd.prog.cellsOf 2 = 1 := by kernel_rfl
    have k2 : Tryd.prog.cellsOf 79 = 2 := by kernel_rfl
    simp [k, k2] at e0 e1
    simp [shortS, ← e0, ← e1]
theorem ops_cells {w : World} {sp : Nat → Bool} {held : Bool} {m : Nat} {cs : List Value} {p : List MemPlace} (h : DataW.trod (fun _ => ()) Tryd.prog w 0 sp held m 76 cs = some (Rows.laid_loop_example_g00367_impl_opNames, p)) : cs = namesV.toList := by
  unfold Rows.laid_loop_example_g00367_impl_opNames at h
  exact trod_rows rowS Tryd.underlying76 (by kernel_rfl) h (fun _ _ _ _ h' => row_cells h')
theorem shorts_cells {w : World} {sp : Nat → Bool} {held : Bool} {m : Nat} {cs : List Value} {p : List MemPlace} (h : DataW.trod (fun _ => ()) Tryd.prog w 0 sp held m 90 cs = some (Rows.laid_loop_example_g00367_impl_shortOnes, p)) : cs = shortsV.toList := by
  unfold Rows.laid_loop_example_g00367_impl_shortOnes at h
  exact trod_rows shortS Tryd.underlying90 (by kernel_rfl) h (fun _ _ _ _ h' => short_cells h')
theorem gOps : Tryd.prog.globalNamed "loop.example/g00367/impl.opNames" = some 0 := by kernel_rfl
theorem gShorts : Tryd.prog.globalNamed "loop.example/g00367/impl.shortOnes" = some 1 := by kernel_rfl
theorem tOps : (Tryd.prog.globals[0]?).map (·.type) = some 76 := by kernel_rfl
theorem tShorts : (Tryd.prog.globals[1]?).map (·.type) = some 90 := by kernel_rfl
theorem var_block {P : Program} {w : World} {n : String} {g : Nat} {cs : Array Value} (hg : P.globalNamed n = some g) (h : w.var? P n = some cs) : ∃ t fr, w.heap[g]? = some (.cells cs t fr) := by
  unfold World.var? at h
  rw [hg] at h
  simp only [Option.bind_some] at h
  split at h
  · rename_i c t fr hh
    cases h
    exact ⟨t, fr, hh⟩
  · cases h
theorem tabs_of_laid {W : World} (h : laidMetH Tryd.prog [("loop.example/g00367/impl.opNames", Rows.laid_loop_example_g00367_impl_opNames), ("loop.example/g00367/impl.shortOnes", Rows.laid_loop_example_g00367_impl_shortOnes)] W) : Tabs W := by
  rw [MakeChecks.laidMetH_plain _ _ _ (by kernel_rfl)] at h
  obtain ⟨ps, ⟨g0, t0, cs0, f0, p0, q0, hg0, ht0, hv0, hd0, ⟨g1, t1, cs1, f1, p1, q1, hg1, ht1, hv1, hd1, _, _⟩, _⟩, _, _⟩ := h
  obtain rfl := Option.some.inj (gOps.symm.trans hg0)
  obtain rfl := Option.some.inj (gShorts.symm.trans hg1)
  obtain rfl := Option.some.inj (tOps.symm.trans ht0)
  obtain rfl := Option.some.inj (tShorts.symm.trans ht1)
  have e0 : cs0 = namesV := Array.toList_inj.1 (ops_cells hd0)
  have e1 : cs1 = shortsV := Array.toList_inj.1 (shorts_cells hd1)
  subst e0 e1
  exact ⟨var_block hg0 hv0, var_block hg1 hv1⟩
end Go.Proofs.YtknielpkmablkaaDoor
