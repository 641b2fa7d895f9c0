/- Proved, as a tied card: for every text InsnRead of the program answers as the specification's, field by field, and the text reads as before. Condition: the listed tables (the operations' names, the short constants, and Go's own tables of powers of ten and of bits) hold what they are laid with. -/
import Derived.Test.YtodjccipfonaiaaGreatDoorRows
import Derived.WalkKit
import Derived.WalkSpells
import Derived.WalkLawsBesides
import Derived.Outline
import Derived.Test.YtodjccipfonaiaaGreatDoorBun0
import Derived.Test.YtodjccipfonaiaaGreatDoorBun3
import Derived.Test.YtodjccipfonaiaaGreatDoorInsS8X
import Derived.Test.YtodjccipfonaiaaGreatDoorGramXX
import Derived.Test.YtodjccipfonaiaaGreatDoorBun48
import Derived.ProofKit
import Derived.OpenShut
import Derived.ChangeArms
import Derived.LaidLaws
import Derived.MakeChecks
import Derived.Test.YtodjccipfonaiaaGreatDoorBun1
import Derived.Lib.LaidTab
import Derived.Test.YtodjccipfonaiaaGreatDoorBun25
import Derived.Test.YtodjccipfonaiaaGreatDoorCards
import Derived.Test.YtodjccipfonaiaaGreatDoorTie
import Derived.OpenVars
import Derived.ShutString
import Derived.LaidMore
import Derived.LaidHandle
import Derived.SevenTiedAt
import Derived.ChangeOld
import Derived.Below
namespace Go.Proofs.YtodjccipfonaiaaGreatDoor
open Go.RowKit
set_option linter.unusedVariables false

theorem outK_yes {L : List ByteArray} {x : Ins × Int × Int} (h : outK (insnT L) = x) : (∃ i, InsG L i ∧ okI i = true ∧ x = (i, lenI i, 0)) ∨ x = (zeroI, 0, 3) := by
  subst h
  unfold outK
  split
  · rename_i i s d j hT
    split
    · rename_i hc
      exact .inl ⟨i, insnT_gram hT hc.2.1 hc.2.2.1 hc.2.2.2 hc.1, hc.1, rfl⟩
    · exact .inr rfl
  · exact .inr rfl
theorem outM_yes {u : ByteArray} {x : Ins × Int × Int} (h : outM (readR u) = x) : (∃ P i, u = catL P ∧ InsG P i ∧ okI i = true ∧ x = (i, lenI i, 0)) ∨ x = (zeroI, 0, 3) := by
  subst h
  unfold outM
  split
  · rename_i y hR
    obtain ⟨i, s, d⟩ := y
    split
    · rename_i hc
      obtain ⟨P, e, g⟩ := read_gram hR hc.2.1 hc.2.2
      exact .inl ⟨P, i, e, g, hc.1, rfl⟩
    · exact .inr rfl
  · exact .inr rfl
theorem gram_outK {P : List ByteArray} {i : Ins} (h : InsG P i) (ok : okI i = true) : outK (insnT P) = (i, lenI i, 0) := by
  rw [gram_insnT h]
  show (if okI i = true ∧ (⟨#[]⟩ : ByteArray) = ⟨#[]⟩ ∧ (⟨#[]⟩ : ByteArray) = ⟨#[]⟩ ∧ (⟨#[]⟩ : ByteArray) = ⟨#[]⟩ then _ else _) = _
  rw [if_pos ⟨ok, rfl, rfl, rfl⟩]
theorem gram_outM {P : List ByteArray} {i : Ins} (h : InsG P i) (ok : okI i = true) : outM (readR (catL P)) = (i, lenI i, 0) := by
  obtain ⟨s, d, e, n1, n2⟩ := gram_read h
  rw [e]
  show (if okI i = true ∧ namedR s = false ∧ namedR d = false then _ else _) = _
  rw [if_pos ⟨ok, n1, n2⟩]
/- What is written as a right Insn is read as it by either side. -/
theorem gram_outR {P : List ByteArray} {i : Ins} (h : InsG P i) (ok : okI i = true) (h8 : (catL P).size ≤ 8000) : outR (catL P) = (i, lenI i, 0) := by
  unfold outR
  rw [if_neg (by omega), gram_outM h ok]
theorem out_eq (u : ByteArray) : outQ u = outR u := by
  unfold outQ outR
  split
  · rfl
  · rcases outK_yes (L := piecesL u) rfl with ⟨i, g, ok, e⟩ | e
    · have h := gram_outM g ok
      rw [pieces_cat] at h
      rw [e, h]
    · rcases outM_yes (u := u) rfl with ⟨P, i, e2, g, ok, e3⟩ | e3
      · have h := gram_outK g ok
        rw [e2, pieces_WP P (gram_WP g), h, ← e2, e3]
      · rw [e, e3]
set_option maxRecDepth 100000 in
set_option maxHeartbeats 3200000 in
theorem lawInsnR_walk (a0 : ByteArray) (w : World) (w0 : a0.size ≤ maxLen) (hT : PowTabs w) : Calls Tryz.prog 4 #[.string a0] w fun e w' => e = .returned (.bool true) ∧ Below w.heap.size w w' := by
  have HT : Hid (Tabs w) := hT.tabs
  have HP : Hid (Pow w) := hT.pow
  have HM : Hid (a0.size ≤ maxLen) := w0
  clear hT
  unfold maxLen at w0
  by_cases hb : 1048576 < a0.size
  · go_enter Tryz.func4, Tryz.ntmps4
    go_wp2
    go_ret
    exact ⟨rfl, Below.refl _ _⟩
  · go_enter Tryz.func4, Tryz.ntmps4
    go_wp2_with fail
    refine (specInsnRead_any a0 _ HM.out).mono ?_
    rintro e x1 ⟨i, k, c, rfl, hq, hb1⟩
    have HB1 : Hid (Below w.heap.size w x1) := hb1
    have HV1 : Hid (_ = _) := heap_alloc_new x1 (.cells (outV i.vals k c) 34)
    have HB2 : Hid (Below w.heap.size w (x1.alloc (.cells (outV i.vals k c) 34))) := below_more HB1.out _
    go_wp2_with fail
    refine (implInsnRead_any a0 _ HM.out (HT.out.below HB2.out) (HP.out.below HB2.out)).mono ?_
    rintro e x2 ⟨i2, k2, c2, rfl, hq2, hb2⟩
    rw [out_eq, hq] at hq2
    cases hq2
    have HB3 : Hid (Below w.heap.size w x2) := below_call HB2.out hb2
    have HV2 : Hid (x2.heap[x1.heap.size]? = some (.cells #[.string i.op, .bool i.b, .int .i64 i.m, .int .i64 i.r, .int .i64 i.n, .bool i.l, .int .i64 i.m2, .int .i64 i.r2, .int .i64 i.n2, .bool i.l2, .int .i64 i.j, .int .i64 k, .int .i64 c] 34 (0, 0))) := heap_keep HV1.out hb2
    have hz := heap_lt HV2.out
    clear hb2 hb1 hq HV1 HB1 HB2
    obtain ⟨c0, c1, c2, c3, c4, c5, c6, c7, c8, c9, c10, c11, c12⟩ := cellsD HV2.out
    go_wp2_with fail
    refine (eqInsnOut_any i k c _).mono ?_
    rintro e x3 ⟨rfl, hb3⟩
    go_wp2
    go_ret
    exact ⟨rfl, below_call (below_more HB3.out _) hb3⟩
end Go.Proofs.YtodjccipfonaiaaGreatDoor
namespace Go.Proofs.YtodjccipfonaiaaGreatDoor
open Go.RowKit

theorem rows_eq {c : Nat} : ∀ (n : Nat) (cs : List Value) (f : Nat → List Value), cs.length = n * c → (∀ i, i < n → (cs.drop (i * c)).take c = f i) → cs = (List.range n).flatMap f := by
  intro n
  induction n with
  | zero => intro cs f hl _; simp at hl; simp [hl]
  | succ n ih =>
    intro cs f hl h
    have h0 := h 0 (by omega)
    simp at h0
    have hd : (cs.drop c).length = n * c := by rw [List.length_drop, hl, Nat.succ_mul]; omega
    have := ih (cs.drop c) (fun i => f (i + 1)) hd (fun i hi => by
      have := h (i + 1) (by omega)
      rw [List.drop_drop]
      rwa [show c + i * c = (i + 1) * c by rw [Nat.succ_mul]; omega])
    rw [List.range_succ_eq_map, List.flatMap_cons, List.flatMap_map, ← this, ← h0, List.take_append_drop]
theorem range_flat {α β : Type} (F : Option α → List β) : ∀ xs : List α, (List.range xs.length).flatMap (fun i => F xs[i]?) = xs.flatMap fun x => F (some x)
  | [] => rfl
  | x :: xs => by
    rw [List.length_cons, List.range_succ_eq_map, List.flatMap_cons, List.flatMap_map, List.flatMap_cons]
    simp only [List.getElem?_cons_zero, List.getElem?_cons_succ]
    rw [range_flat F xs]
theorem trod_rows {H : Type} {enc : TypeId × Value → H} {P : Program} {w : World} {base : Nat} {sp : Nat → Bool} {held : Bool} {fuel : Nat} {t e : TypeId} {n : Nat} {cs : List Value} {ds : List (DataW H)} {p : List MemPlace} (g : DataW H → List Value)
    (ht : P.underlying t = some (.array n e)) (hc : P.cellsOf t = n * P.cellsOf e) (h : DataW.trod enc P w base sp held fuel t cs = some (.agg ds, p))
    (hg : ∀ m cs' d p', DataW.trod enc P w base sp held m e cs' = some (d, p') → cs' = g d) : cs = ds.flatMap g := by
  obtain ⟨xs, m, _, hx, hl, hn, hel⟩ := DataW.trod_array ht h
  simp only [Prod.mk.injEq, DataW.agg.injEq] at hx
  obtain ⟨rfl, _⟩ := hx
  rw [rows_eq n cs (fun i => g (xs[i]?.map (·.1) |>.getD (.nil))) (by rw [hl, hc]) (fun i hi => by
    have := hel i hi
    rw [List.getElem?_eq_getElem (by omega)] at this ⊢
    exact hg _ _ xs[i].1 xs[i].2 this)]
  subst hn
  rw [List.flatMap_map]
  exact range_flat (fun x => g (x.map (·.1) |>.getD .nil)) xs
/- The two tables. -/
def oneS : DataW Unit → List Value
  | .lit (.string l) => [.string ⟨l.toArray⟩]
  | .lit (.int k n) => [.int k n]
  | _ => []
def rowS : DataW Unit → List Value
  | .agg ds => ds.flatMap oneS
  | _ => []
theorem string_cells {w : World} {sp : Nat → Bool} {held : Bool} {m : Nat} {cs : List Value} {d : DataW Unit} {p : List MemPlace} (h : DataW.trod (fun _ => ()) Tryz.prog w 0 sp held m 9 cs = some (d, p)) : cs = oneS d := by
  obtain ⟨s, rfl, hx, _⟩ := DataW.trod_string Tryz.underlying9 h
  cases hx
  simp [oneS]
theorem int_cells {w : World} {sp : Nat → Bool} {held : Bool} {m : Nat} {cs : List Value} {d : DataW Unit} {p : List MemPlace} (h : DataW.trod (fun _ => ()) Tryz.prog w 0 sp held m 2 cs = some (d, p)) : cs = oneS d := by
  obtain ⟨n, rfl, hx, _⟩ := DataW.trod_int Tryz.underlying2 h
  cases hx
  simp [oneS]
theorem row_cells {w : World} {sp : Nat → Bool} {held : Bool} {m : Nat} {cs : List Value} {d : DataW Unit} {p : List MemPlace} (h : DataW.trod (fun _ => ()) Tryz.prog w 0 sp held m 88 cs = some (d, p)) : cs = rowS d := by
  obtain ⟨xs, _, _, hx, _⟩ := DataW.trod_array Tryz.underlying88 h
  simp only [Prod.mk.injEq] at hx
  obtain ⟨rfl, _⟩ := hx
  exact trod_rows oneS Tryz.underlying88 (by kernel_rfl) h (fun _ _ _ _ h' => string_cells h')
def fieldS : DataW Unit → List Value
  | .agg [x, y] => oneS x ++ oneS y
  | _ => []
def shortS : DataW Unit → List Value
  | .agg [x, y] => oneS x ++ fieldS y
  | _ => []
set_option maxRecDepth 100000 in
theorem field_cells {w : World} {sp : Nat → Bool} {held : Bool} {m : Nat} {cs : List Value} {d : DataW Unit} {p : List MemPlace} (h : DataW.trod (fun _ => ()) Tryz.prog w 0 sp held m 103 cs = some (d, p)) : cs = fieldS d := by
  obtain ⟨xs, n, _, hx, hl, hn, hf⟩ := DataW.trod_struct Tryz.underlying103 h
  have hl2 : cs.length = 2 := hl.trans (by kernel_rfl)
  match cs, hl2, xs, hn with
  | [c0, c1], _, [x0, x1], _ =>
    simp only [Prod.mk.injEq] at hx
    obtain ⟨rfl, _⟩ := hx
    have h0 := hf 0 _ rfl
    have h1 := hf 1 _ rfl
    have e0 := int_cells (p := x0.2) (d := x0.1) h0
    have e1 := int_cells (p := x1.2) (d := x1.1) h1
    have k : Tryz.prog.cellsOf 2 = 1 := by kernel_rfl
    simp [k] at e0 e1
    simp [fieldS, ← e0, ← e1]
set_option maxRecDepth 100000 in
theorem short_cells {w : World} {sp : Nat → Bool} {held : Bool} {m : Nat} {cs : List Value} {d : DataW Unit} {p : List MemPlace} (h : DataW.trod (fun _ => ()) Tryz.prog w 0 sp held m 134 cs = some (d, p)) : cs = shortS d := by
  obtain ⟨xs, n, _, hx, hl, hn, hf⟩ := DataW.trod_struct Tryz.underlying134 h
  have hl2 : cs.length = 3 := hl.trans (by kernel_rfl)
  match cs, hl2, xs, hn with
  | [c0, c1, c2], _, [x0, x1], _ =>
    simp only [Prod.mk.injEq] at hx
    obtain ⟨rfl, _⟩ := hx
    have h0 := hf 0 _ rfl
    have h1 := hf 1 _ rfl
    have e0 := int_cells (p := x0.2) (d := x0.1) h0
    have e1 := field_cells (p := x1.2) (d := x1.1) h1
    have k : Tryz.prog.cellsOf 2 = 1 := by kernel_rfl
    have k2 : Tryz.prog.cellsOf 103 = 2 := by kernel_rfl
    simp [k, k2] at e0 e1
    simp [shortS, ← e0, ← e1]
theorem ops_cells {w : World} {sp : Nat → Bool} {held : Bool} {m : Nat} {cs : List Value} {p : List MemPlace} (h : DataW.trod (fun _ => ()) Tryz.prog w 0 sp held m 89 cs = some (Rows.laid_loop_example_g00367_impl_opNames, p)) : cs = namesV.toList := by
  unfold Rows.laid_loop_example_g00367_impl_opNames at h
  exact trod_rows rowS Tryz.underlying89 (by kernel_rfl) h (fun _ _ _ _ h' => row_cells h')
theorem shorts_cells {w : World} {sp : Nat → Bool} {held : Bool} {m : Nat} {cs : List Value} {p : List MemPlace} (h : DataW.trod (fun _ => ()) Tryz.prog w 0 sp held m 135 cs = some (Rows.laid_loop_example_g00367_impl_shortOnes, p)) : cs = shortsV.toList := by
  unfold Rows.laid_loop_example_g00367_impl_shortOnes at h
  exact trod_rows shortS Tryz.underlying135 (by kernel_rfl) h (fun _ _ _ _ h' => short_cells h')
theorem gOps : Tryz.prog.globalNamed "loop.example/g00367/impl.opNames" = some 0 := by kernel_rfl
theorem gShorts : Tryz.prog.globalNamed "loop.example/g00367/impl.shortOnes" = some 1 := by kernel_rfl
theorem tOps : (Tryz.prog.globals[0]?).map (·.type) = some 89 := by kernel_rfl
theorem tShorts : (Tryz.prog.globals[1]?).map (·.type) = some 135 := by kernel_rfl
theorem var_block {P : Program} {w : World} {n : String} {g : Nat} {cs : Array Value} (hg : P.globalNamed n = some g) (h : w.var? P n = some cs) : ∃ t fr, w.heap[g]? = some (.cells cs t fr) := by
  unfold World.var? at h
  rw [hg] at h
  simp only [Option.bind_some] at h
  split at h
  · rename_i c t fr hh
    cases h
    exact ⟨t, fr, hh⟩
  · cases h
theorem tabs_of_laid {W : World} (h : laidMetH Tryz.prog [("loop.example/g00367/impl.opNames", Rows.laid_loop_example_g00367_impl_opNames), ("loop.example/g00367/impl.shortOnes", Rows.laid_loop_example_g00367_impl_shortOnes)] W) : Tabs W := by
  rw [MakeChecks.laidMetH_plain _ _ _ (by kernel_rfl)] at h
  obtain ⟨ps, ⟨g0, t0, cs0, f0, p0, q0, hg0, ht0, hv0, hd0, ⟨g1, t1, cs1, f1, p1, q1, hg1, ht1, hv1, hd1, _, _⟩, _⟩, _, _⟩ := h
  obtain rfl := Option.some.inj (gOps.symm.trans hg0)
  obtain rfl := Option.some.inj (gShorts.symm.trans hg1)
  obtain rfl := Option.some.inj (tOps.symm.trans ht0)
  obtain rfl := Option.some.inj (tShorts.symm.trans ht1)
  have e0 : cs0 = namesV := Array.toList_inj.1 (ops_cells hd0)
  have e1 : cs1 = shortsV := Array.toList_inj.1 (shorts_cells hd1)
  subst e0 e1
  exact ⟨var_block hg0 hv0, var_block hg1 hv1⟩
end Go.Proofs.YtodjccipfonaiaaGreatDoor
namespace Go.Proofs.YtodjccipfonaiaaGreatDoor
open Go.RowKit Go.WideShapes

/- The table, by its datum. -/
theorem gPow : Tryz.prog.globalNamed "internal/strconv.uint64pow10" = some 2 := by kernel_rfl
theorem tPow : (Tryz.prog.globals[2]?).map (·.type) = some 140 := by kernel_rfl
theorem dPow : (Rows.laid_internal_strconv_uint64pow10 : DataW Unit) = Lib.tabData .u64 Lib.pow10Tab := by kernel_rfl
theorem pow_of_laid {W : World} (h : laidMetH Tryz.prog [("math/bits.deBruijn32tab", Rows.laid_math_bits_deBruijn32tab), ("math/bits.deBruijn64tab", Rows.laid_math_bits_deBruijn64tab), ("internal/strconv.uint64pow10", Rows.laid_internal_strconv_uint64pow10)] W) : Pow W := by
  rw [MakeChecks.laidMetH_plain _ _ _ (by kernel_rfl)] at h
  obtain ⟨ps, ⟨g0, t0, cs0, f0, p0, q0, hg0, ht0, hv0, hd0, ⟨g1, t1, cs1, f1, p1, q1, hg1, ht1, hv1, hd1, ⟨g2, t2, cs2, f2, p2, q2, hg2, ht2, hv2, hd2, _, _⟩, _⟩, _⟩, _, _⟩ := h
  obtain rfl := Option.some.inj (gPow.symm.trans hg2)
  obtain rfl := Option.some.inj (tPow.symm.trans ht2)
  rw [dPow] at hd2
  unfold Pow Lib.TabIs
  rw [hv2, ← Lib.cells_of_tab Tryz.underlying140 Tryz.underlying82 (by kernel_rfl) (by kernel_rfl) hd2]
end Go.Proofs.YtodjccipfonaiaaGreatDoor
namespace Go.Proofs.YtodjccipfonaiaaGreatDoor
open Go.RowKit

theorem powtabs_of_laid {W : World} (h : laidMetH Tryz.prog [("math/bits.deBruijn32tab", Rows.laid_math_bits_deBruijn32tab), ("math/bits.deBruijn64tab", Rows.laid_math_bits_deBruijn64tab), ("internal/strconv.uint64pow10", Rows.laid_internal_strconv_uint64pow10), ("loop.example/g00367/impl.opNames", Rows.laid_loop_example_g00367_impl_opNames), ("loop.example/g00367/impl.shortOnes", Rows.laid_loop_example_g00367_impl_shortOnes)] W) : PowTabs W := by
  rw [MakeChecks.laidMetH_plain _ _ _ (by kernel_rfl)] at h
  obtain ⟨ps, ⟨g0, t0, cs0, f0, p0, q0, hg0, ht0, hv0, hd0, ⟨g1, t1, cs1, f1, p1, q1, hg1, ht1, hv1, hd1, ⟨g2, t2, cs2, f2, p2, q2, hg2, ht2, hv2, hd2, ⟨g3, t3, cs3, f3, p3, q3, hg3, ht3, hv3, hd3, ⟨g4, t4, cs4, f4, p4, q4, hg4, ht4, hv4, hd4, _, _⟩, _⟩, _⟩, _⟩, _⟩, _, _⟩ := h
  obtain rfl := Option.some.inj (gPow.symm.trans hg2)
  obtain rfl := Option.some.inj (tPow.symm.trans ht2)
  obtain rfl := Option.some.inj (gOps.symm.trans hg3)
  obtain rfl := Option.some.inj (gShorts.symm.trans hg4)
  obtain rfl := Option.some.inj (tOps.symm.trans ht3)
  obtain rfl := Option.some.inj (tShorts.symm.trans ht4)
  have e0 : cs3 = namesV := Array.toList_inj.1 (ops_cells hd3)
  have e1 : cs4 = shortsV := Array.toList_inj.1 (shorts_cells hd4)
  subst e0 e1
  refine ⟨?_, ⟨var_block hg3 hv3, var_block hg4 hv4⟩⟩
  rw [dPow] at hd2
  unfold Pow Lib.TabIs
  rw [hv2, ← Lib.cells_of_tab Tryz.underlying140 Tryz.underlying82 (by kernel_rfl) (by kernel_rfl) hd2]
end Go.Proofs.YtodjccipfonaiaaGreatDoor
namespace Go.Proofs.YtodjccipfonaiaaGreatDoor.fnExactInsnRead
open Go.ChangeShapes Go.WideShapes Go.ChangeAt Go.RowKit
open Go.ChangeMaps (open_string shut_string)
set_option linter.unusedVariables false

theorem own : ownKnob Tryz.prog.godebug = none := by kernel_rfl
theorem laidOut : laidOutB Tryz.prog = true := by kernel_rfl
abbrev IsRow (k : IntKind) (w : World) (a : Option Addr) (len cap : Nat) (zs : List Int) : Prop :=
  (a = none ∧ len = 0 ∧ cap = 0 ∧ zs = []) ∨ ∃ x, a = some x ∧ len ≤ cap ∧ cap ≤ maxLen ∧ zs.length = cap ∧ (∀ i, i < zs.length → w.cell? (x.add i) = some (.int k (zs.getD i 0))) ∧ ∀ n ∈ zs, (Lit.int k n).wf = true
set_option maxRecDepth 100000 in
set_option maxHeartbeats 1600000 in
theorem walk (a0 : ByteArray) (w : World) (w0 : a0.size ≤ maxLen) (hT : PowTabs w) :
    Calls Tryz.prog 4 #[.string a0] w fun e w' => e = .returned (.bool true) ∧ Below w.heap.size w w' := by
  exact lawInsnR_walk a0 w w0 hT

theorem door_met (os : Os) (args : Array Value) : laidMetH Tryz.prog Rows.fnExactInsnReadRow.laid ((World.doorLaid Tryz.prog 49 os).forCall (fun _ _ => 0) ⟨#[], args, []⟩).memory :=
  laidMetH_of_parts3 (fuel := 8) (laidMet_of_run' 8 (by kernel_rfl) (by kernel_rfl)) (by kernel_rfl) (by kernel_rfl)

set_option maxRecDepth 100000 in
theorem lifted (os : Os) (started : os.Started) (H : Type) (enc : TypeId × Value → H) :
    ReturnsInHanded {} Tryz.checked os 4 .any (fun w args => (Rows.fnExactInsnReadSpec.pre enc Tryz.prog Tryz.f4 [] false w args ∧ laidMetH Tryz.prog Rows.fnExactInsnReadRow.laid w) ∧ sizedMet enc Tryz.prog Tryz.f4 (OpenSpec.ofChange Rows.fnExactInsnReadSpec) false w args)
      (Rows.fnExactInsnReadSpec.post enc Tryz.prog Tryz.f4 false true false false) := by
  refine returnsInHanded_of_change_and (C := Tryz.checked) (X := fun w _ => laidMetH Tryz.prog Rows.fnExactInsnReadRow.laid w) (fun _ _ _ hh h => h.of_heap hh) own started (by kernel_rfl) Tryz.func4
    (ChangeSpec.witness_shaped (enc := enc) (C := Tryz.checked) (os := os) (X := fun w _ => laidMetH Tryz.prog Rows.fnExactInsnReadRow.laid w) false (World.doorLaid Tryz.prog 49 os) #[.string ByteArray.empty] 8 rfl (World.shaped_of_RefB (by kernel_rfl) (by kernel_rfl)) (by kernel_rfl) (by kernel_rfl) (by kernel_rfl) (door_met os _)) ?_
  intro W base args ds gs before hval0 hW _ _ hL _
  have hval : ∀ (j : Nat) t v, Tryz.f4.params[j]? = some t → args[j]? = some v → Value.okWide Tryz.prog W .any base t v := hval0
  have hW' := hW
  obtain ⟨p, q, hA0, hV0, rfl, hfz, hnd⟩ := hW
  have hA : DataW.TrodAll enc Tryz.prog W 0 (fun _ => true) true Tryz.f4.params.toList args.toList ds p := hA0
  have hV : DataW.TrodVars enc Tryz.prog W (fun _ => true) ["loop.example/g00367/impl.opNames", "loop.example/g00367/impl.shortOnes"] gs q := hV0
  rw [Tryz.params4] at hA hval
  obtain ⟨v0, vs0, d0, ds0, p0, q0, hargs, rfl, rfl, h0, r0⟩ := trodAll_cons hA
  obtain ⟨rfl, rfl, rfl⟩ := trodAll_nil r0
  obtain rfl : args = #[v0] := by cases args; simp_all
  obtain ⟨_, _, _, _, gd0, _, _, _, _, _, gd1, _, rfl, _, _, _, _, _, _, _, _, rfl⟩ := trodVars_two hV
  have k0 := h0
  have lt0 : ∀ x ∈ p0, x.block < W.heap.size := by obtain ⟨m, hm⟩ := k0; exact DataW.trod_lt m _ _ _ hm
  obtain ⟨a0, rfl, -, -, w0⟩ := open_string Tryz.underlying9 (hval 0 9 v0 rfl rfl) h0
  have hT := powtabs_of_laid hL
  clear hA0 hval0 hV0
  refine (walk a0 W w0 hT).mono fun e W' ⟨he, hb⟩ => ?_
  subst he
  exact ⟨_, rfl, _, _, _, [], _, _, hW', trodAll_mk1 (shut_bool Tryz.underlying4 _), (trodAll_cons_mk (Below.trod laidOut (by kernel_rfl) (of_decide_eq_true (by kernel_rfl)) k0 hb lt0) trodAll_mk0), Below.trodVars laidOut hb (by kernel_rfl) hV, hb.frame _, fun h => by cases h⟩

theorem said : Rows.FnExactInsnReadSaid :=
  OpenClaim.holds_of_wide 4 Tryz.f4 rfl rfl rfl rfl rfl rfl rfl ⟨rfl, rfl, rfl, rfl, rfl⟩ rfl rfl rfl rfl rfl (by kernel_rfl) Tryz.func4 (by kernel_rfl)
    (of_decide_eq_true (by kernel_rfl)) (by unfold Func.isWrapper; first | (rw [if_pos (by decide +kernel)]; kernel_rfl) | (rw [if_neg (by decide +kernel)]; exact ⟨rfl, rfl⟩))
    (fun os started H enc _ => lifted os started H enc)
end Go.Proofs.YtodjccipfonaiaaGreatDoor.fnExactInsnRead
namespace Go.Proofs.YtodjccipfonaiaaGreatDoor
theorem fnExactInsnRead_holds : Rows.FnExactInsnReadCardSaid :=
  Claim7.holds_tied_plain_at .later [] _ _ _ _ fnExactInsnRead.said (fun _ h => by cases h) (by kernel_rfl) (fun _ h => by cases h) fnExactInsnRead_row_tie rfl ⟨rfl, rfl⟩ (by kernel_rfl) rfl
    (fun f fn hf hfn => by
      obtain rfl : f = 4 := Option.some.inj ((show Tryz.prog.funcNamed Rows.fnExactInsnReadRow.func = some 4 by kernel_rfl).symm.trans hf) |>.symm
      obtain rfl : fn = Tryz.f4 := (Option.some.inj (Tryz.func4.symm.trans hfn)).symm
      exact ⟨by kernel_rfl, fun j t ht => by
        rw [Tryz.params4] at ht
        have hm : t ∈ ([9] : List Nat) := by simpa using Array.mem_of_getElem? ht
        have hall : (([9] : List Nat).all fun u => !Tryz.prog.wantsStandIn u) = true := by kernel_rfl
        exact (show Tryz.prog.wantsStandIn t = false by simpa using List.all_eq_true.1 hall t hm)⟩)
    (by kernel_rfl)
#print axioms fnExactInsnRead_holds
end Go.Proofs.YtodjccipfonaiaaGreatDoor
