/- FnExactDis: both sides tell the same rows, and hold what they tell. -/
import Derived.Test.YtknielpkmablkaaDoorRows
import Derived.WalkKit
import Derived.ProofKit
import Derived.OpenShut
import Derived.ChangeArms
import Derived.LaidLaws
import Derived.MakeChecks
import Derived.Test.YtknielpkmablkaaDoorBun4
import Derived.Lib.LaidTab
import Derived.Test.YtknielpkmablkaaDoorBun33
import Derived.Test.YtknielpkmablkaaDoorLawInsnTX
import Derived.Test.YtknielpkmablkaaDoorCards
import Derived.Test.YtknielpkmablkaaDoorTie
import Derived.OpenVars
import Derived.ShutString
import Derived.WalkSpells
import Derived.WalkLawsBesides
import Derived.LaidMore
import Derived.LaidHandle
import Derived.SevenTiedAt
import Derived.ChangeOld
import Derived.Below
import Derived.Test.YtknielpkmablkaaDoorBun53
namespace Go.Proofs.YtknielpkmablkaaDoor
open Go.RowKit

theorem rows_eq {c : Nat} : ∀ (n : Nat) (cs : List Value) (f : Nat → List Value), cs.length = n * c → (∀ i, i < n → (cs.drop (i * c)).take c = f i) → cs = (List.range n).flatMap f := by
  intro n
  induction n with
  | zero => intro cs f hl _; simp at hl; simp [hl]
  | succ n ih =>
    intro cs f hl h
    have h0 := h 0 (by omega)
    simp at h0
    have hd : (cs.drop c).length = n * c := by rw [List.length_drop, hl, Nat.succ_mul]; omega
    have := ih (cs.drop c) (fun i => f (i + 1)) hd (fun i hi => by
      have := h (i + 1) (by omega)
      rw [List.drop_drop]
      rwa [show c + i * c = (i + 1) * c by rw [Nat.succ_mul]; omega])
    rw [List.range_succ_eq_map, List.flatMap_cons, List.flatMap_map, ← this, ← h0, List.take_append_drop]
theorem range_flat {α β : Type} (F : Option α → List β) : ∀ xs : List α, (List.range xs.length).flatMap (fun i => F xs[i]?) = xs.flatMap fun x => F (some x)
  | [] => rfl
  | x :: xs => by
    rw [List.length_cons, List.range_succ_eq_map, List.flatMap_cons, List.flatMap_map, List.flatMap_cons]
    simp only [List.getElem?_cons_zero, List.getElem?_cons_succ]
    rw [range_flat F xs]
theorem trod_rows {H : Type} {enc : TypeId × Value → H} {P : Program} {w : World} {base : Nat} {sp : Nat → Bool} {held : Bool} {fuel : Nat} {t e : TypeId} {n : Nat} {cs : List Value} {ds : List (DataW H)} {p : List MemPlace} (g : DataW H → List Value)
    (ht : P.underlying t = some (.array n e)) (hc : P.cellsOf t = n * P.cellsOf e) (h : DataW.trod enc P w base sp held fuel t cs = some (.agg ds, p))
    (hg : ∀ m cs' d p', DataW.trod enc P w base sp held m e cs' = some (d, p') → cs' = g d) : cs = ds.flatMap g := by
  obtain ⟨xs, m, _, hx, hl, hn, hel⟩ := DataW.trod_array ht h
  simp only [Prod.mk.injEq, DataW.agg.injEq] at hx
  obtain ⟨rfl, _⟩ := hx
  rw [rows_eq n cs (fun i => g (xs[i]?.map (·.1) |>.getD (.nil))) (by rw [hl, hc]) (fun i hi => by
    have := hel i hi
    rw [List.getElem?_eq_getElem (by omega)] at this ⊢
    exact hg _ _ xs[i].1 xs[i].2 this)]
  subst hn
  rw [List.flatMap_map]
  exact range_flat (fun x => g (x.map (·.1) |>.getD .nil)) xs
/- The two tables. -/
def oneS : DataW Unit → List Value
  | .lit (.string l) => [.string ⟨l.toArray⟩]
  | .lit (.int k n) => [.int k n]
  | _ => []
def rowS : DataW Unit → List Value
  | .agg ds => ds.flatMap oneS
  | _ => []
theorem string_cells {w : World} {sp : Nat → Bool} {held : Bool} {m : Nat} {cs : List Value} {d : DataW Unit} {p : List MemPlace} (h : DataW.trod (fun _ => ()) Tryd.prog w 0 sp held m 9 cs = some (d, p)) : cs = oneS d := by
  obtain ⟨s, rfl, hx, _⟩ := DataW.trod_string Tryd.underlying9 h
  cases hx
  simp [oneS]
theorem int_cells {w : World} {sp : Nat → Bool} {held : Bool} {m : Nat} {cs : List Value} {d : DataW Unit} {p : List MemPlace} (h : DataW.trod (fun _ => ()) Tryd.prog w 0 sp held m 2 cs = some (d, p)) : cs = oneS d := by
  obtain ⟨n, rfl, hx, _⟩ := DataW.trod_int Tryd.underlying2 h
  cases hx
  simp [oneS]
theorem row_cells {w : World} {sp : Nat → Bool} {held : Bool} {m : Nat} {cs : List Value} {d : DataW Unit} {p : List MemPlace} (h : DataW.trod (fun _ => ()) Tryd.prog w 0 sp held m 75 cs = some (d, p)) : cs = rowS d := by
  obtain ⟨xs, _, _, hx, _⟩ := DataW.trod_array Tryd.underlying75 h
  simp only [Prod.mk.injEq] at hx
  obtain ⟨rfl, _⟩ := hx
  exact trod_rows oneS Tryd.underlying75 (by kernel_rfl) h (fun _ _ _ _ h' => string_cells h')
def fieldS : DataW Unit → List Value
  | .agg [x, y] => oneS x ++ oneS y
  | _ => []
def shortS : DataW Unit → List Value
  | .agg [x, y] => oneS x ++ fieldS y
  | _ => []
set_option maxRecDepth 100000 in
theorem field_cells {w : World} {sp : Nat → Bool} {held : Bool} {m : Nat} {cs : List Value} {d : DataW Unit} {p : List MemPlace} (h : DataW.trod (fun _ => ()) Tryd.prog w 0 sp held m 79 cs = some (d, p)) : cs = fieldS d := by
  obtain ⟨xs, n, _, hx, hl, hn, hf⟩ := DataW.trod_struct Tryd.underlying79 h
  have hl2 : cs.length = 2 := hl.trans (by kernel_rfl)
  match cs, hl2, xs, hn with
  | [c0, c1], _, [x0, x1], _ =>
    simp only [Prod.mk.injEq] at hx
    obtain ⟨rfl, _⟩ := hx
    have h0 := hf 0 _ rfl
    have h1 := hf 1 _ rfl
    have e0 := int_cells (p := x0.2) (d := x0.1) h0
    have e1 := int_cells (p := x1.2) (d := x1.1) h1
    have k : Tryd.prog.cellsOf 2 = 1 := by kernel_rfl
    simp [k] at e0 e1
    simp [fieldS, ← e0, ← e1]
set_option maxRecDepth 100000 in
theorem short_cells {w : World} {sp : Nat → Bool} {held : Bool} {m : Nat} {cs : List Value} {d : DataW Unit} {p : List MemPlace} (h : DataW.trod (fun _ => ()) Tryd.prog w 0 sp held m 89 cs = some (d, p)) : cs = shortS d := by
  obtain ⟨xs, n, _, hx, hl, hn, hf⟩ := DataW.trod_struct Tryd.underlying89 h
  have hl2 : cs.length = 3 := hl.trans (by kernel_rfl)
  match cs, hl2, xs, hn with
  | [c0, c1, c2], _, [x0, x1], _ =>
    simp only [Prod.mk.injEq] at hx
    obtain ⟨rfl, _⟩ := hx
    have h0 := hf 0 _ rfl
    have h1 := hf 1 _ rfl
    have e0 := int_cells (p := x0.2) (d := x0.1) h0
    have e1 := field_cells (p := x1.2) (d := x1.1) h1
    have k : Tryd.prog.cellsOf 2 = 1 := by kernel_rfl
    have k2 : Tryd.prog.cellsOf 79 = 2 := by kernel_rfl
    simp [k, k2] at e0 e1
    simp [shortS, ← e0, ← e1]
theorem ops_cells {w : World} {sp : Nat → Bool} {held : Bool} {m : Nat} {cs : List Value} {p : List MemPlace} (h : DataW.trod (fun _ => ()) Tryd.prog w 0 sp held m 76 cs = some (Rows.laid_loop_example_g00367_impl_opNames, p)) : cs = namesV.toList := by
  unfold Rows.laid_loop_example_g00367_impl_opNames at h
  exact trod_rows rowS Tryd.underlying76 (by kernel_rfl) h (fun _ _ _ _ h' => row_cells h')
theorem shorts_cells {w : World} {sp : Nat → Bool} {held : Bool} {m : Nat} {cs : List Value} {p : List MemPlace} (h : DataW.trod (fun _ => ()) Tryd.prog w 0 sp held m 90 cs = some (Rows.laid_loop_example_g00367_impl_shortOnes, p)) : cs = shortsV.toList := by
  unfold Rows.laid_loop_example_g00367_impl_shortOnes at h
  exact trod_rows shortS Tryd.underlying90 (by kernel_rfl) h (fun _ _ _ _ h' => short_cells h')
theorem gOps : Tryd.prog.globalNamed "loop.example/g00367/impl.opNames" = some 0 := by kernel_rfl
theorem gShorts : Tryd.prog.globalNamed "loop.example/g00367/impl.shortOnes" = some 1 := by kernel_rfl
theorem tOps : (Tryd.prog.globals[0]?).map (·.type) = some 76 := by kernel_rfl
theorem tShorts : (Tryd.prog.globals[1]?).map (·.type) = some 90 := by kernel_rfl
theorem var_block {P : Program} {w : World} {n : String} {g : Nat} {cs : Array Value} (hg : P.globalNamed n = some g) (h : w.var? P n = some cs) : ∃ t fr, w.heap[g]? = some (.cells cs t fr) := by
  unfold World.var? at h
  rw [hg] at h
  simp only [Option.bind_some] at h
  split at h
  · rename_i c t fr hh
    cases h
    exact ⟨t, fr, hh⟩
  · cases h
theorem tabs_of_laid {W : World} (h : laidMetH Tryd.prog [("loop.example/g00367/impl.opNames", Rows.laid_loop_example_g00367_impl_opNames), ("loop.example/g00367/impl.shortOnes", Rows.laid_loop_example_g00367_impl_shortOnes)] W) : Tabs W := by
  rw [MakeChecks.laidMetH_plain _ _ _ (by kernel_rfl)] at h
  obtain ⟨ps, ⟨g0, t0, cs0, f0, p0, q0, hg0, ht0, hv0, hd0, ⟨g1, t1, cs1, f1, p1, q1, hg1, ht1, hv1, hd1, _, _⟩, _⟩, _, _⟩ := h
  obtain rfl := Option.some.inj (gOps.symm.trans hg0)
  obtain rfl := Option.some.inj (gShorts.symm.trans hg1)
  obtain rfl := Option.some.inj (tOps.symm.trans ht0)
  obtain rfl := Option.some.inj (tShorts.symm.trans ht1)
  have e0 : cs0 = namesV := Array.toList_inj.1 (ops_cells hd0)
  have e1 : cs1 = shortsV := Array.toList_inj.1 (shorts_cells hd1)
  subst e0 e1
  exact ⟨var_block hg0 hv0, var_block hg1 hv1⟩
end Go.Proofs.YtknielpkmablkaaDoor
namespace Go.Proofs.YtknielpkmablkaaDoor
open Go.RowKit Go.WideShapes

/- The table, by its datum. -/
theorem gPow : Tryd.prog.globalNamed "internal/strconv.uint64pow10" = some 2 := by kernel_rfl
theorem tPow : (Tryd.prog.globals[2]?).map (·.type) = some 102 := by kernel_rfl
theorem dPow : (Rows.laid_internal_strconv_uint64pow10 : DataW Unit) = Lib.tabData .u64 Lib.pow10Tab := by kernel_rfl
theorem pow_of_laid {W : World} (h : laidMetH Tryd.prog [("math/bits.deBruijn32tab", Rows.laid_math_bits_deBruijn32tab), ("math/bits.deBruijn64tab", Rows.laid_math_bits_deBruijn64tab), ("internal/strconv.uint64pow10", Rows.laid_internal_strconv_uint64pow10)] W) : Pow W := by
  rw [MakeChecks.laidMetH_plain _ _ _ (by kernel_rfl)] at h
  obtain ⟨ps, ⟨g0, t0, cs0, f0, p0, q0, hg0, ht0, hv0, hd0, ⟨g1, t1, cs1, f1, p1, q1, hg1, ht1, hv1, hd1, ⟨g2, t2, cs2, f2, p2, q2, hg2, ht2, hv2, hd2, _, _⟩, _⟩, _⟩, _, _⟩ := h
  obtain rfl := Option.some.inj (gPow.symm.trans hg2)
  obtain rfl := Option.some.inj (tPow.symm.trans ht2)
  rw [dPow] at hd2
  unfold Pow Lib.TabIs
  rw [hv2, ← Lib.cells_of_tab Tryd.underlying102 Tryd.underlying95 (by kernel_rfl) (by kernel_rfl) hd2]
end Go.Proofs.YtknielpkmablkaaDoor
namespace Go.Proofs.YtknielpkmablkaaDoor
open Go.RowKit

theorem powtabs_of_laid {W : World} (h : laidMetH Tryd.prog [("math/bits.deBruijn32tab", Rows.laid_math_bits_deBruijn32tab), ("math/bits.deBruijn64tab", Rows.laid_math_bits_deBruijn64tab), ("internal/strconv.uint64pow10", Rows.laid_internal_strconv_uint64pow10), ("loop.example/g00367/impl.opNames", Rows.laid_loop_example_g00367_impl_opNames), ("loop.example/g00367/impl.shortOnes", Rows.laid_loop_example_g00367_impl_shortOnes)] W) : PowTabs W := by
  rw [MakeChecks.laidMetH_plain _ _ _ (by kernel_rfl)] at h
  obtain ⟨ps, ⟨g0, t0, cs0, f0, p0, q0, hg0, ht0, hv0, hd0, ⟨g1, t1, cs1, f1, p1, q1, hg1, ht1, hv1, hd1, ⟨g2, t2, cs2, f2, p2, q2, hg2, ht2, hv2, hd2, ⟨g3, t3, cs3, f3, p3, q3, hg3, ht3, hv3, hd3, ⟨g4, t4, cs4, f4, p4, q4, hg4, ht4, hv4, hd4, _, _⟩, _⟩, _⟩, _⟩, _⟩, _, _⟩ := h
  obtain rfl := Option.some.inj (gPow.symm.trans hg2)
  obtain rfl := Option.some.inj (tPow.symm.trans ht2)
  obtain rfl := Option.some.inj (gOps.symm.trans hg3)
  obtain rfl := Option.some.inj (gShorts.symm.trans hg4)
  obtain rfl := Option.some.inj (tOps.symm.trans ht3)
  obtain rfl := Option.some.inj (tShorts.symm.trans ht4)
  have e0 : cs3 = namesV := Array.toList_inj.1 (ops_cells hd3)
  have e1 : cs4 = shortsV := Array.toList_inj.1 (shorts_cells hd4)
  subst e0 e1
  refine ⟨?_, ⟨var_block hg3 hv3, var_block hg4 hv4⟩⟩
  rw [dPow] at hd2
  unfold Pow Lib.TabIs
  rw [hv2, ← Lib.cells_of_tab Tryd.underlying102 Tryd.underlying95 (by kernel_rfl) (by kernel_rfl) hd2]
end Go.Proofs.YtknielpkmablkaaDoor
namespace Go.Proofs.YtknielpkmablkaaDoor.fnExactDis
open Go.ChangeShapes Go.WideShapes Go.ChangeAt Go.RowKit
open Go.ChangeMaps (open_string shut_string)
set_option linter.unusedVariables false

theorem own : ownKnob Tryd.prog.godebug = none := by kernel_rfl
theorem laidOut : laidOutB Tryd.prog = true := by kernel_rfl
abbrev IsRow (k : IntKind) (w : World) (a : Option Addr) (len cap : Nat) (zs : List Int) : Prop :=
  (a = none ∧ len = 0 ∧ cap = 0 ∧ zs = []) ∨ ∃ x, a = some x ∧ len ≤ cap ∧ cap ≤ maxLen ∧ zs.length = cap ∧ (∀ i, i < zs.length → w.cell? (x.add i) = some (.int k (zs.getD i 0))) ∧ ∀ n ∈ zs, (Lit.int k n).wf = true
set_option maxRecDepth 100000 in
set_option maxHeartbeats 1600000 in
theorem walk (a0 : Option Addr) (len0 cap0 : Nat) (z0 : List Int) (a1 : Int) (w : World) (w0 : IsRow .i64 w a0 len0 cap0 z0) (w1 : (Lit.int .i64 a1).wf = true) (hT : PowTabs w) :
    Calls Tryd.prog 3 #[.slice a0 len0 cap0, .int .i64 a1] w fun e w' => e = .returned (.bool true) ∧ Below w.heap.size w w' := by
  obtain ⟨L, rfl, hR, hm⟩ := row_read w0
  exact lawDis_walk a0 L cap0 a1 w hR hm hT

theorem door_met (os : Os) (args : Array Value) : laidMetH Tryd.prog Rows.fnExactDisRow.laid ((World.doorLaid Tryd.prog 49 os).forCall (fun _ _ => 0) ⟨#[], args, []⟩).memory :=
  laidMetH_of_parts3 (fuel := 8) (laidMet_of_run' 8 (by kernel_rfl) (by kernel_rfl)) (by kernel_rfl) (by kernel_rfl)

set_option maxRecDepth 100000 in
theorem lifted (os : Os) (started : os.Started) (H : Type) (enc : TypeId × Value → H) :
    ReturnsInHanded {} Tryd.checked os 3 .any (fun w args => (Rows.fnExactDisSpec.pre enc Tryd.prog Tryd.f3 [] false w args ∧ laidMetH Tryd.prog Rows.fnExactDisRow.laid w) ∧ sizedMet enc Tryd.prog Tryd.f3 (OpenSpec.ofChange Rows.fnExactDisSpec) false w args)
      (Rows.fnExactDisSpec.post enc Tryd.prog Tryd.f3 false true false false) := by
  refine returnsInHanded_of_change_and (C := Tryd.checked) (X := fun w _ => laidMetH Tryd.prog Rows.fnExactDisRow.laid w) (fun _ _ _ hh h => h.of_heap hh) own started (by kernel_rfl) Tryd.func3
    (ChangeSpec.witness_shaped (enc := enc) (C := Tryd.checked) (os := os) (X := fun w _ => laidMetH Tryd.prog Rows.fnExactDisRow.laid w) false (World.doorLaid Tryd.prog 49 os) #[.slice none 0 0, .int .i64 0] 8 rfl (World.shaped_of_RefB (by kernel_rfl) (by kernel_rfl)) (by kernel_rfl) (by kernel_rfl) (by kernel_rfl) (door_met os _)) ?_
  intro W base args ds gs before hval0 hW _ _ hL _
  have hval : ∀ (j : Nat) t v, Tryd.f3.params[j]? = some t → args[j]? = some v → Value.okWide Tryd.prog W .any base t v := hval0
  have hW' := hW
  obtain ⟨p, q, hA0, hV0, rfl, hfz, hnd⟩ := hW
  have hA : DataW.TrodAll enc Tryd.prog W 0 (fun _ => true) true Tryd.f3.params.toList args.toList ds p := hA0
  have hV : DataW.TrodVars enc Tryd.prog W (fun _ => true) ["loop.example/g00367/impl.opNames", "loop.example/g00367/impl.shortOnes"] gs q := hV0
  rw [Tryd.params3] at hA hval
  obtain ⟨v0, vs0, d0, ds0, p0, q0, hargs, rfl, rfl, h0, r0⟩ := trodAll_cons hA
  obtain ⟨v1, vs1, d1, ds1, p1, q1, rfl, rfl, rfl, h1, r1⟩ := trodAll_cons r0
  obtain ⟨rfl, rfl, rfl⟩ := trodAll_nil r1
  obtain rfl : args = #[v0, v1] := by cases args; simp_all
  obtain ⟨_, _, _, _, gd0, _, _, _, _, _, gd1, _, rfl, _, _, _, _, _, _, _, _, rfl⟩ := trodVars_two hV
  have k0 := h0
  have lt0 : ∀ x ∈ p0, x.block < W.heap.size := by obtain ⟨m, hm⟩ := k0; exact DataW.trod_lt m _ _ _ hm
  obtain ⟨a0, len0, cap0, rfl⟩ := okWide_slice Tryd.underlying22 (hval 0 22 v0 rfl rfl)
  obtain ⟨z0, w0⟩ : ∃ zs, IsRow .i64 W a0 len0 cap0 zs := by
    obtain ⟨fuel, hf⟩ := h0
    rcases open_ints Tryd.underlying22 Tryd.underlying2 (by kernel_rfl) hf with ⟨hcs, _⟩ | ⟨x, l, c, zs, hcs, _, hl, hm, hz, _, hcell, hwz⟩
    · simp [Value.cells] at hcs
      obtain ⟨rfl, rfl, rfl⟩ := hcs
      exact ⟨[], .inl ⟨rfl, rfl, rfl, rfl⟩⟩
    · simp [Value.cells] at hcs
      obtain ⟨rfl, rfl, rfl⟩ := hcs
      exact ⟨zs, .inr ⟨_, rfl, hl, hm, by simpa using hz, hcell, hwz⟩⟩
  have k1 := h1
  have lt1 : ∀ x ∈ p1, x.block < W.heap.size := by obtain ⟨m, hm⟩ := k1; exact DataW.trod_lt m _ _ _ hm
  obtain ⟨a1, rfl, -, -, w1⟩ := open_int Tryd.underlying2 (hval 1 2 v1 rfl rfl) h1
  have hT := powtabs_of_laid hL
  clear hA0 hval0 hV0
  refine (walk a0 len0 cap0 z0 a1 W w0 w1 hT).mono fun e W' ⟨he, hb⟩ => ?_
  subst he
  exact ⟨_, rfl, _, _, _, [], _, _, hW', trodAll_mk1 (shut_bool Tryd.underlying4 _), (trodAll_cons_mk (Below.trod laidOut (by kernel_rfl) (of_decide_eq_true (by kernel_rfl)) k0 hb lt0) (trodAll_cons_mk (Below.trod laidOut (by kernel_rfl) (of_decide_eq_true (by kernel_rfl)) k1 hb lt1) trodAll_mk0)), Below.trodVars laidOut hb (by kernel_rfl) hV, hb.frame _, fun h => by cases h⟩

theorem said : Rows.FnExactDisSaid :=
  OpenClaim.holds_of_wide 3 Tryd.f3 rfl rfl rfl rfl rfl rfl rfl ⟨rfl, rfl, rfl, rfl, rfl⟩ rfl rfl rfl rfl rfl (by kernel_rfl) Tryd.func3 (by kernel_rfl)
    (of_decide_eq_true (by kernel_rfl)) (by unfold Func.isWrapper; first | (rw [if_pos (by decide +kernel)]; kernel_rfl) | (rw [if_neg (by decide +kernel)]; exact ⟨rfl, rfl⟩))
    (fun os started H enc _ => lifted os started H enc)
end Go.Proofs.YtknielpkmablkaaDoor.fnExactDis
namespace Go.Proofs.YtknielpkmablkaaDoor
theorem fnExactDis_holds : Rows.FnExactDisCardSaid :=
  Claim7.holds_tied_plain_at .later [] _ _ _ _ fnExactDis.said (fun _ h => by cases h) (by kernel_rfl) (fun _ h => by cases h) fnExactDis_row_tie rfl ⟨rfl, rfl⟩ (by kernel_rfl) rfl
    (fun f fn hf hfn => by
      obtain rfl : f = 3 := Option.some.inj ((show Tryd.prog.funcNamed Rows.fnExactDisRow.func = some 3 by kernel_rfl).symm.trans hf) |>.symm
      obtain rfl : fn = Tryd.f3 := (Option.some.inj (Tryd.func3.symm.trans hfn)).symm
      exact ⟨by kernel_rfl, fun j t ht => by
        rw [Tryd.params3] at ht
        have hm : t ∈ ([22, 2] : List Nat) := by simpa using Array.mem_of_getElem? ht
        have hall : (([22, 2] : List Nat).all fun u => !Tryd.prog.wantsStandIn u) = true := by kernel_rfl
        exact (show Tryd.prog.wantsStandIn t = false by simpa using List.all_eq_true.1 hall t hm)⟩)
    (by kernel_rfl)
#print axioms fnExactDis_holds
end Go.Proofs.YtknielpkmablkaaDoor
