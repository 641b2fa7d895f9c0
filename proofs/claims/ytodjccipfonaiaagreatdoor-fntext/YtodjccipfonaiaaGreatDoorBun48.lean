/- InsnRead of both sides answers the same, and the walk of FnExactInsnRead. -/
import Derived.Test.YtodjccipfonaiaaGreatDoorRows
import Derived.WalkKit
import Derived.WalkSpells
import Derived.WalkLawsBesides
import Derived.Outline
import Derived.Test.YtodjccipfonaiaaGreatDoorBun0
import Derived.Test.YtodjccipfonaiaaGreatDoorBun3
import Derived.Test.YtodjccipfonaiaaGreatDoorInsS8X
import Derived.Test.YtodjccipfonaiaaGreatDoorBun38
import Derived.Test.YtodjccipfonaiaaGreatDoorBun44
import Derived.Test.YtodjccipfonaiaaGreatDoorBun45
import Derived.ProofKit
import Derived.OpenShut
import Derived.ChangeArms
import Derived.LaidLaws
import Derived.MakeChecks
import Derived.Test.YtodjccipfonaiaaGreatDoorBun1
import Derived.Lib.LaidTab
import Derived.Test.YtodjccipfonaiaaGreatDoorBun25
import Derived.Lib.ItoaMem
import Derived.Test.YtodjccipfonaiaaGreatDoorBun26
import Derived.Test.YtodjccipfonaiaaGreatDoorTextTX
namespace Go.Proofs.YtodjccipfonaiaaGreatDoor
open Go.RowKit
set_option linter.unusedVariables false

theorem outK_yes {L : List ByteArray} {x : Ins × Int × Int} (h : outK (insnT L) = x) : (∃ i, InsG L i ∧ okI i = true ∧ x = (i, lenI i, 0)) ∨ x = (zeroI, 0, 3) := by
  subst h
  unfold outK
  split
  · rename_i i s d j hT
    split
    · rename_i hc
      exact .inl ⟨i, insnT_gram hT hc.2.1 hc.2.2.1 hc.2.2.2 hc.1, hc.1, rfl⟩
    · exact .inr rfl
  · exact .inr rfl
theorem outM_yes {u : ByteArray} {x : Ins × Int × Int} (h : outM (readR u) = x) : (∃ P i, u = catL P ∧ InsG P i ∧ okI i = true ∧ x = (i, lenI i, 0)) ∨ x = (zeroI, 0, 3) := by
  subst h
  unfold outM
  split
  · rename_i y hR
    obtain ⟨i, s, d⟩ := y
    split
    · rename_i hc
      obtain ⟨P, e, g⟩ := read_gram hR hc.2.1 hc.2.2
      exact .inl ⟨P, i, e, g, hc.1, rfl⟩
    · exact .inr rfl
  · exact .inr rfl
theorem gram_outK {P : List ByteArray} {i : Ins} (h : InsG P i) (ok : okI i = true) : outK (insnT P) = (i, lenI i, 0) := by
  rw [gram_insnT h]
  show (if okI i = true ∧ (⟨#[]⟩ : ByteArray) = ⟨#[]⟩ ∧ (⟨#[]⟩ : ByteArray) = ⟨#[]⟩ ∧ (⟨#[]⟩ : ByteArray) = ⟨#[]⟩ then _ else _) = _
  rw [if_pos ⟨ok, rfl, rfl, rfl⟩]
theorem gram_outM {P : List ByteArray} {i : Ins} (h : InsG P i) (ok : okI i = true) : outM (readR (catL P)) = (i, lenI i, 0) := by
  obtain ⟨s, d, e, n1, n2⟩ := gram_read h
  rw [e]
  show (if okI i = true ∧ namedR s = false ∧ namedR d = false then _ else _) = _
  rw [if_pos ⟨ok, n1, n2⟩]
/- What is written as a right Insn is read as it by either side. -/
theorem gram_outR {P : List ByteArray} {i : Ins} (h : InsG P i) (ok : okI i = true) (h8 : (catL P).size ≤ 8000) : outR (catL P) = (i, lenI i, 0) := by
  unfold outR
  rw [if_neg (by omega), gram_outM h ok]
theorem out_eq (u : ByteArray) : outQ u = outR u := by
  unfold outQ outR
  split
  · rfl
  · rcases outK_yes (L := piecesL u) rfl with ⟨i, g, ok, e⟩ | e
    · have h := gram_outM g ok
      rw [pieces_cat] at h
      rw [e, h]
    · rcases outM_yes (u := u) rfl with ⟨P, i, e2, g, ok, e3⟩ | e3
      · have h := gram_outK g ok
        rw [e2, pieces_WP P (gram_WP g), h, ← e2, e3]
      · rw [e, e3]
set_option maxRecDepth 100000 in
set_option maxHeartbeats 3200000 in
theorem lawInsnR_walk (a0 : ByteArray) (w : World) (w0 : a0.size ≤ maxLen) (hT : PowTabs w) : Calls Tryz.prog 4 #[.string a0] w fun e w' => e = .returned (.bool true) ∧ Below w.heap.size w w' := by
  have HT : Hid (Tabs w) := hT.tabs
  have HP : Hid (Pow w) := hT.pow
  have HM : Hid (a0.size ≤ maxLen) := w0
  clear hT
  unfold maxLen at w0
  by_cases hb : 1048576 < a0.size
  · go_enter Tryz.func4, Tryz.ntmps4
    go_wp2
    go_ret
    exact ⟨rfl, Below.refl _ _⟩
  · go_enter Tryz.func4, Tryz.ntmps4
    go_wp2_with fail
    refine (specInsnRead_any a0 _ HM.out).mono ?_
    rintro e x1 ⟨i, k, c, rfl, hq, hb1⟩
    have HB1 : Hid (Below w.heap.size w x1) := hb1
    have HV1 : Hid (_ = _) := heap_alloc_new x1 (.cells (outV i.vals k c) 34)
    have HB2 : Hid (Below w.heap.size w (x1.alloc (.cells (outV i.vals k c) 34))) := below_more HB1.out _
    go_wp2_with fail
    refine (implInsnRead_any a0 _ HM.out (HT.out.below HB2.out) (HP.out.below HB2.out)).mono ?_
    rintro e x2 ⟨i2, k2, c2, rfl, hq2, hb2⟩
    rw [out_eq, hq] at hq2
    cases hq2
    have HB3 : Hid (Below w.heap.size w x2) := below_call HB2.out hb2
    have HV2 : Hid (x2.heap[x1.heap.size]? = some (.cells #[.string i.op, .bool i.b, .int .i64 i.m, .int .i64 i.r, .int .i64 i.n, .bool i.l, .int .i64 i.m2, .int .i64 i.r2, .int .i64 i.n2, .bool i.l2, .int .i64 i.j, .int .i64 k, .int .i64 c] 34 (0, 0))) := heap_keep HV1.out hb2
    have hz := heap_lt HV2.out
    clear hb2 hb1 hq HV1 HB1 HB2
    obtain ⟨c0, c1, c2, c3, c4, c5, c6, c7, c8, c9, c10, c11, c12⟩ := cellsD HV2.out
    go_wp2_with fail
    refine (eqInsnOut_any i k c _).mono ?_
    rintro e x3 ⟨rfl, hb3⟩
    go_wp2
    go_ret
    exact ⟨rfl, below_call (below_more HB3.out _) hb3⟩
end Go.Proofs.YtodjccipfonaiaaGreatDoor
namespace Go.Proofs.YtodjccipfonaiaaGreatDoor
open Go.RowKit

theorem rows_eq {c : Nat} : ∀ (n : Nat) (cs : List Value) (f : Nat → List Value), cs.length = n * c → (∀ i, i < n → (cs.drop (i * c)).take c = f i) → cs = (List.range n).flatMap f := by
  intro n
  induction n with
  | zero => intro cs f hl _; simp at hl; simp [hl]
  | succ n ih =>
    intro cs f hl h
    have h0 := h 0 (by omega)
    simp at h0
    have hd : (cs.drop c).length = n * c := by rw [List.length_drop, hl, Nat.succ_mul]; omega
    have := ih (cs.drop c) (fun i => f (i + 1)) hd (fun i hi => by
      have := h (i + 1) (by omega)
      rw [List.drop_drop]
      rwa [show c + i * c = (i + 1) * c by rw [Nat.succ_mul]; omega])
    rw [List.range_succ_eq_map, List.flatMap_cons, List.flatMap_map, ← this, ← h0, List.take_append_drop]
theorem range_flat {α β : Type} (F : Option α → List β) : ∀ xs : List α, (List.range xs.length).flatMap (fun i => F xs[i]?) = xs.flatMap fun x => F (some x)
  | [] => rfl
  | x :: xs => by
    rw [List.length_cons, List.range_succ_eq_map, List.flatMap_cons, List.flatMap_map, List.flatMap_cons]
    simp only [List.getElem?_cons_zero, List.getElem?_cons_succ]
    rw [range_flat F xs]
theorem trod_rows {H : Type} {enc : TypeId × Value → H} {P : Program} {w : World} {base : Nat} {sp : Nat → Bool} {held : Bool} {fuel : Nat} {t e : TypeId} {n : Nat} {cs : List Value} {ds : List (DataW H)} {p : List MemPlace} (g : DataW H → List Value)
    (ht : P.underlying t = some (.array n e)) (hc : P.cellsOf t = n * P.cellsOf e) (h : DataW.trod enc P w base sp held fuel t cs = some (.agg ds, p))
    (hg : ∀ m cs' d p', DataW.trod enc P w base sp held m e cs' = some (d, p') → cs' = g d) : cs = ds.flatMap g := by
  obtain ⟨xs, m, _, hx, hl, hn, hel⟩ := DataW.trod_array ht h
  simp only [Prod.mk.injEq, DataW.agg.injEq] at hx
  obtain ⟨rfl, _⟩ := hx
  rw [rows_eq n cs (fun i => g (xs[i]?.map (·.1) |>.getD (.nil))) (by rw [hl, hc]) (fun i hi => by
    have := hel i hi
    rw [List.getElem?_eq_getElem (by omega)] at this ⊢
    exact hg _ _ xs[i].1 xs[i].2 this)]
  subst hn
  rw [List.flatMap_map]
  exact range_flat (fun x => g (x.map (·.1) |>.getD .nil)) xs
/- The two tables. -/
def oneS : DataW Unit → List Value
  | .lit (.string l) => [.string ⟨l.toArray⟩]
  | .lit (.int k n) => [.int k n]
  | _ => []
def rowS : DataW Unit → List Value
  | .agg ds => ds.flatMap oneS
  | _ => []
theorem string_cells {w : World} {sp : Nat → Bool} {held : Bool} {m : Nat} {cs : List Value} {d : DataW Unit} {p : List MemPlace} (h : DataW.trod (fun _ => ()) Tryz.prog w 0 sp held m 9 cs = some (d, p)) : cs = oneS d := by
  obtain ⟨s, rfl, hx, _⟩ := DataW.trod_string Tryz.underlying9 h
  cases hx
  simp [oneS]
theorem int_cells {w : World} {sp : Nat → Bool} {held : Bool} {m : Nat} {cs : List Value} {d : DataW Unit} {p : List MemPlace} (h : DataW.trod (fun _ => ()) Tryz.prog w 0 sp held m 2 cs = some (d, p)) : cs = oneS d := by
  obtain ⟨n, rfl, hx, _⟩ := DataW.trod_int Tryz.underlying2 h
  cases hx
  simp [oneS]
theorem row_cells {w : World} {sp : Nat → Bool} {held : Bool} {m : Nat} {cs : List Value} {d : DataW Unit} {p : List MemPlace} (h : DataW.trod (fun _ => ()) Tryz.prog w 0 sp held m 88 cs = some (d, p)) : cs = rowS d := by
  obtain ⟨xs, _, _, hx, _⟩ := DataW.trod_array Tryz.underlying88 h
  simp only [Prod.mk.injEq] at hx
  obtain ⟨rfl, _⟩ := hx
  exact trod_rows oneS Tryz.underlying88 (by kernel_rfl) h (fun _ _ _ _ h' => string_cells h')
def fieldS : DataW Unit → List Value
  | .agg [x, y] => oneS x ++ oneS y
  | _ => []
def shortS : DataW Unit → List Value
  | .agg [x, y] => oneS x ++ fieldS y
  | _ => []
set_option maxRecDepth 100000 in
theorem field_cells {w : World} {sp : Nat → Bool} {held : Bool} {m : Nat} {cs : List Value} {d : DataW Unit} {p : List MemPlace} (h : DataW.trod (fun _ => ()) Tryz.prog w 0 sp held m 103 cs = some (d, p)) : cs = fieldS d := by
  obtain ⟨xs, n, _, hx, hl, hn, hf⟩ := DataW.trod_struct Tryz.underlying103 h
  have hl2 : cs.length = 2 := hl.trans (by kernel_rfl)
  match cs, hl2, xs, hn with
  | [c0, c1], _, [x0, x1], _ =>
    simp only [Prod.mk.injEq] at hx
    obtain ⟨rfl, _⟩ := hx
    have h0 := hf 0 _ rfl
    have h1 := hf 1 _ rfl
    have e0 := int_cells (p := x0.2) (d := x0.1) h0
    have e1 := int_cells (p := x1.2) (d := x1.1) h1
    have k : Tryz.prog.cellsOf 2 = 1 := by kernel_rfl
    simp [k] at e0 e1
    simp [fieldS, ← e0, ← e1]
set_option maxRecDepth 100000 in
theorem short_cells {w : World} {sp : Nat → Bool} {held : Bool} {m : Nat} {cs : List Value} {d : DataW Unit} {p : List MemPlace} (h : DataW.trod (fun _ => ()) Tryz.prog w 0 sp held m 134 cs = some (d, p)) : cs = shortS d := by
  obtain ⟨xs, n, _, hx, hl, hn, hf⟩ := DataW.trod_struct Tryz.underlying134 h
  have hl2 : cs.length = 3 := hl.trans (by kernel_rfl)
  match cs, hl2, xs, hn with
  | [c0, c1, c2], _, [x0, x1], _ =>
    simp only [Prod.mk.injEq] at hx
    obtain ⟨rfl, _⟩ := hx
    have h0 := hf 0 _ rfl
    have h1 := hf 1 _ rfl
    have e0 := int_cells (p := x0.2) (d := x0.1) h0
    have e1 := field_cells (p := x1.2) (d := x1.1) h1
    have k : Tryz.prog.cellsOf 2 = 1 := by kernel_rfl
    have k2 : Tryz.prog.cellsOf 103 = 2 := by kernel_rfl
    simp [k, k2] at e0 e1
    simp [shortS, ← e0, ← e1]
theorem ops_cells {w : World} {sp : Nat → Bool} {held : Bool} {m : Nat} {cs : List Value} {p : List MemPlace} (h : DataW.trod (fun _ => ()) Tryz.prog w 0 sp held m 89 cs = some (Rows.laid_loop_example_g00367_impl_opNames, p)) : cs = namesV.toList := by
  unfold Rows.laid_loop_example_g00367_impl_opNames at h
  exact trod_rows rowS Tryz.underlying89 (by kernel_rfl) h (fun _ _ _ _ h' => row_cells h')
theorem shorts_cells {w : World} {sp : Nat → Bool} {held : Bool} {m : Nat} {cs : List Value} {p : List MemPlace} (h : DataW.trod (fun _ => ()) Tryz.prog w 0 sp held m 135 cs = some (Rows.laid_loop_example_g00367_impl_shortOnes, p)) : cs = shortsV.toList := by
  unfold Rows.laid_loop_example_g00367_impl_shortOnes at h
  exact trod_rows shortS Tryz.underlying135 (by kernel_rfl) h (fun _ _ _ _ h' => short_cells h')
theorem gOps : Tryz.prog.globalNamed "loop.example/g00367/impl.opNames" = some 0 := by kernel_rfl
theorem gShorts : Tryz.prog.globalNamed "loop.example/g00367/impl.shortOnes" = some 1 := by kernel_rfl
theorem tOps : (Tryz.prog.globals[0]?).map (·.type) = some 89 := by kernel_rfl
theorem tShorts : (Tryz.prog.globals[1]?).map (·.type) = some 135 := by kernel_rfl
theorem var_block {P : Program} {w : World} {n : String} {g : Nat} {cs : Array Value} (hg : P.globalNamed n = some g) (h : w.var? P n = some cs) : ∃ t fr, w.heap[g]? = some (.cells cs t fr) := by
  unfold World.var? at h
  rw [hg] at h
  simp only [Option.bind_some] at h
  split at h
  · rename_i c t fr hh
    cases h
    exact ⟨t, fr, hh⟩
  · cases h
theorem tabs_of_laid {W : World} (h : laidMetH Tryz.prog [("loop.example/g00367/impl.opNames", Rows.laid_loop_example_g00367_impl_opNames), ("loop.example/g00367/impl.shortOnes", Rows.laid_loop_example_g00367_impl_shortOnes)] W) : Tabs W := by
  rw [MakeChecks.laidMetH_plain _ _ _ (by kernel_rfl)] at h
  obtain ⟨ps, ⟨g0, t0, cs0, f0, p0, q0, hg0, ht0, hv0, hd0, ⟨g1, t1, cs1, f1, p1, q1, hg1, ht1, hv1, hd1, _, _⟩, _⟩, _, _⟩ := h
  obtain rfl := Option.some.inj (gOps.symm.trans hg0)
  obtain rfl := Option.some.inj (gShorts.symm.trans hg1)
  obtain rfl := Option.some.inj (tOps.symm.trans ht0)
  obtain rfl := Option.some.inj (tShorts.symm.trans ht1)
  have e0 : cs0 = namesV := Array.toList_inj.1 (ops_cells hd0)
  have e1 : cs1 = shortsV := Array.toList_inj.1 (shorts_cells hd1)
  subst e0 e1
  exact ⟨var_block hg0 hv0, var_block hg1 hv1⟩
end Go.Proofs.YtodjccipfonaiaaGreatDoor
namespace Go.Proofs.YtodjccipfonaiaaGreatDoor
open Go.RowKit Go.WideShapes

/- The table, by its datum. -/
theorem gPow : Tryz.prog.globalNamed "internal/strconv.uint64pow10" = some 2 := by kernel_rfl
theorem tPow : (Tryz.prog.globals[2]?).map (·.type) = some 140 := by kernel_rfl
theorem dPow : (Rows.laid_internal_strconv_uint64pow10 : DataW Unit) = Lib.tabData .u64 Lib.pow10Tab := by kernel_rfl
theorem pow_of_laid {W : World} (h : laidMetH Tryz.prog [("math/bits.deBruijn32tab", Rows.laid_math_bits_deBruijn32tab), ("math/bits.deBruijn64tab", Rows.laid_math_bits_deBruijn64tab), ("internal/strconv.uint64pow10", Rows.laid_internal_strconv_uint64pow10)] W) : Pow W := by
  rw [MakeChecks.laidMetH_plain _ _ _ (by kernel_rfl)] at h
  obtain ⟨ps, ⟨g0, t0, cs0, f0, p0, q0, hg0, ht0, hv0, hd0, ⟨g1, t1, cs1, f1, p1, q1, hg1, ht1, hv1, hd1, ⟨g2, t2, cs2, f2, p2, q2, hg2, ht2, hv2, hd2, _, _⟩, _⟩, _⟩, _, _⟩ := h
  obtain rfl := Option.some.inj (gPow.symm.trans hg2)
  obtain rfl := Option.some.inj (tPow.symm.trans ht2)
  rw [dPow] at hd2
  unfold Pow Lib.TabIs
  rw [hv2, ← Lib.cells_of_tab Tryz.underlying140 Tryz.underlying82 (by kernel_rfl) (by kernel_rfl) hd2]
end Go.Proofs.YtodjccipfonaiaaGreatDoor
namespace Go.Proofs.YtodjccipfonaiaaGreatDoor
open Go.RowKit

theorem powtabs_of_laid {W : World} (h : laidMetH Tryz.prog [("math/bits.deBruijn32tab", Rows.laid_math_bits_deBruijn32tab), ("math/bits.deBruijn64tab", Rows.laid_math_bits_deBruijn64tab), ("internal/strconv.uint64pow10", Rows.laid_internal_strconv_uint64pow10), ("loop.example/g00367/impl.opNames", Rows.laid_loop_example_g00367_impl_opNames), ("loop.example/g00367/impl.shortOnes", Rows.laid_loop_example_g00367_impl_shortOnes)] W) : PowTabs W := by
  rw [MakeChecks.laidMetH_plain _ _ _ (by kernel_rfl)] at h
  obtain ⟨ps, ⟨g0, t0, cs0, f0, p0, q0, hg0, ht0, hv0, hd0, ⟨g1, t1, cs1, f1, p1, q1, hg1, ht1, hv1, hd1, ⟨g2, t2, cs2, f2, p2, q2, hg2, ht2, hv2, hd2, ⟨g3, t3, cs3, f3, p3, q3, hg3, ht3, hv3, hd3, ⟨g4, t4, cs4, f4, p4, q4, hg4, ht4, hv4, hd4, _, _⟩, _⟩, _⟩, _⟩, _⟩, _, _⟩ := h
  obtain rfl := Option.some.inj (gPow.symm.trans hg2)
  obtain rfl := Option.some.inj (tPow.symm.trans ht2)
  obtain rfl := Option.some.inj (gOps.symm.trans hg3)
  obtain rfl := Option.some.inj (gShorts.symm.trans hg4)
  obtain rfl := Option.some.inj (tOps.symm.trans ht3)
  obtain rfl := Option.some.inj (tShorts.symm.trans ht4)
  have e0 : cs3 = namesV := Array.toList_inj.1 (ops_cells hd3)
  have e1 : cs4 = shortsV := Array.toList_inj.1 (shorts_cells hd4)
  subst e0 e1
  refine ⟨?_, ⟨var_block hg3 hv3, var_block hg4 hv4⟩⟩
  rw [dPow] at hd2
  unfold Pow Lib.TabIs
  rw [hv2, ← Lib.cells_of_tab Tryz.underlying140 Tryz.underlying82 (by kernel_rfl) (by kernel_rfl) hd2]
end Go.Proofs.YtodjccipfonaiaaGreatDoor
namespace Go.Proofs.YtodjccipfonaiaaGreatDoor
open Go.RowKit
set_option linter.unusedVariables false

theorem dgW {n : Int} (h0 : 0 ≤ n) (h1 : n ≤ 65535) : numW (dg n) = some n := by
  have e : ((n.toNat : Nat) : Int) = n := by omega
  have h := dg_num n.toNat (by omega)
  rw [e] at h
  rw [numR_ge h, if_pos h1]
theorem src_gram {m r n : Int} {l : Bool} (h : srcB m r n l = true) : ∃ S, OpG S (m, r, n, l) ∧ opdB m r n l = catL S := by
  have h5 := (src_rng h).1
  unfold srcB at h
  obtain rfl | rfl | rfl | rfl | rfl | rfl : m = 0 ∨ m = 1 ∨ m = 2 ∨ m = 3 ∨ m = 4 ∨ m = 5 := by omega
  · simp [isB] at h
    obtain ⟨⟨⟨⟨h0, h1⟩, h2⟩, rfl⟩, rfl⟩ := h
    exact ⟨[rg r], .inr (.inr (.inr (.inr (.inr (.inr ⟨_, r, rfl, ⟨h0, h1, rfl⟩, rfl⟩))))), (catL_one _).symm⟩
  · simp [plainB, isB] at h
    obtain ⟨⟨⟨⟨h0, h1⟩, h2⟩, h3, h4⟩, rfl⟩ := h
    exact ⟨[dg n, ⟨#[40]⟩, rg r, ⟨#[41]⟩], .inr (.inr (.inr (.inr (.inr (.inl ⟨_, n, _, r, rfl, dgW h3 h4, ⟨h0, h1, rfl⟩, rfl⟩))))), rfl⟩
  · simp [isB] at h
    obtain ⟨⟨rfl, h3, h4⟩, rfl⟩ := h
    exact ⟨[⟨#[38]⟩, dg n], .inl ⟨_, n, rfl, dgW h3 h4, rfl⟩, (catL_two _ _).symm⟩
  · simp [plainB, isB] at h
    obtain ⟨⟨⟨⟨h0, h1⟩, h2⟩, rfl⟩, rfl⟩ := h
    exact ⟨[⟨#[64]⟩, rg r], .inr (.inr (.inr (.inl ⟨_, r, rfl, ⟨h0, h1, rfl⟩, rfl⟩))), (catL_two _ _).symm⟩
  · simp [plainB, isB] at h
    obtain ⟨⟨⟨⟨⟨h0, h1⟩, h2⟩, h3⟩, rfl⟩, rfl⟩ := h
    exact ⟨[⟨#[64]⟩, rg r, ⟨#[43]⟩], .inr (.inr (.inr (.inr (.inl ⟨_, r, rfl, ⟨h0, h1, rfl⟩, rfl⟩)))), rfl⟩
  · rw [if_neg (by decide), if_neg (by decide), if_neg (by decide), if_neg (by decide), if_neg (by decide)] at h
    have hn : 0 ≤ n ∧ n ≤ 65535 ∧ r = 0 := by
      simp [isB] at h
      omega
    obtain ⟨h3, h4, rfl⟩ := hn
    cases l
    · exact ⟨[⟨#[35]⟩, dg n], .inr (.inl ⟨_, n, rfl, dgW h3 h4, rfl⟩), (catL_two _ _).symm⟩
    · refine ⟨[⟨#[35]⟩, ⟨#[35]⟩, dg n], .inr (.inr (.inl ⟨_, n, rfl, dgW h3 h4, rfl⟩)), ?_⟩
      rw [catL_three]
      rfl
theorem dst_gram {m r n : Int} {l : Bool} (h : dstB m r n l = true) : ∃ S, OpG S (m, r, n, l) ∧ opdB m r n l = catL S := by
  unfold dstB at h
  by_cases h0 : m = 0
  · subst h0
    simp [isB] at h
    obtain ⟨⟨⟨h0, h1⟩, rfl⟩, rfl⟩ := h
    exact ⟨[rg r], .inr (.inr (.inr (.inr (.inr (.inr ⟨_, r, rfl, ⟨h0, h1, rfl⟩, rfl⟩))))), (catL_one _).symm⟩
  rw [if_neg h0] at h
  by_cases h1 : m = 1 ∨ m = 2
  · rw [if_pos h1] at h; exact src_gram h
  · rw [if_neg h1] at h; cases h
theorem zero_noO {m r n : Int} {l : Bool} (h : zeroB m r n l = true) : (m, r, n, l) = noO := by
  unfold zeroB at h
  simp at h
  obtain ⟨⟨⟨rfl, rfl⟩, rfl⟩, rfl⟩ := h
  rfl
theorem kinds_in : (∀ s ∈ twosL, 0 ≤ atI opsAll s) ∧ (∀ s ∈ onesL, 0 ≤ atI opsAll s) ∧ (∀ s ∈ jumpsL, 0 ≤ atI opsAll s) ∧ ∀ s ∈ jumpsL, ¬ s = reti := by decide +kernel
theorem op_gram {op : ByteArray} (b : Bool) (h : op ∈ opsAll) : OpNG (if b then [op, ⟨#[46]⟩, ⟨#[98]⟩] else [op]) op b ∧ tOp op b = catL (if b then [op, ⟨#[46]⟩, ⟨#[98]⟩] else [op]) := by
  refine ⟨⟨h, rfl⟩, ?_⟩
  cases b
  · exact (catL_one op).symm
  · show op ++ ⟨#[46, 98]⟩ = catL [op, ⟨#[46]⟩, ⟨#[98]⟩]
    rw [catL_three]
    rfl
theorem sgn_gram (n : Int) (h0 : -65535 ≤ n) (h1 : n ≤ 65535) : ∃ (c : UInt8) (k : Int), (c.toNat = 43 ∨ c.toNat = 45) ∧ 0 ≤ k ∧ k ≤ 65535 ∧ sgn c * k = n ∧ sgnB n = ⟨#[c]⟩ ++ dg k := by
  unfold sgnB
  by_cases h : n < 0
  · rw [if_pos h]
    refine ⟨45, -n, .inr rfl, by omega, by omega, ?_, ?_⟩
    · show (if (45 : UInt8).toNat = 45 then (-1 : Int) else 1) * -n = n
      rw [if_pos (show (45 : UInt8).toNat = 45 from rfl)]; omega
    · have e := Lib.itoa_neg n.natAbs (by omega)
      rw [show -((n.natAbs : Nat) : Int) = n by omega] at e
      apply ba_list
      rw [app_list]
      show (Lib.itoa n) = [45] ++ (dg (-n)).data.toList
      rw [e, show -n = ((n.natAbs : Nat) : Int) by omega, dg_list]
      rfl
  · rw [if_neg h]
    refine ⟨43, n, .inl rfl, by omega, by omega, ?_, rfl⟩
    show (if (43 : UInt8).toNat = 45 then (-1 : Int) else 1) * n = n
    rw [if_neg (by decide)]; omega
/- What is written of a right Insn is a row of pieces of it. -/
theorem text_gram (i : Ins) (h : okI i = true) : ∃ P, InsG P i ∧ insT i.op i.b i.m i.r i.n i.l i.m2 i.r2 i.n2 i.l2 i.j = catL P := by
  obtain ⟨op, b, m, r, n, l, m2, r2, n2, l2, j⟩ := i
  have hK : insnB op b m r n l m2 r2 n2 l2 j = true := h
  rw [insn_kinds] at hK
  show ∃ P, InsG P ⟨op, b, m, r, n, l, m2, r2, n2, l2, j⟩ ∧ insT op b m r n l m2 r2 n2 l2 j = catL P
  unfold insT
  obtain ⟨a1, a2, a3, a4⟩ := kinds_in
  by_cases h2 : 0 ≤ atI twosL op
  · rw [if_pos h2] at hK ⊢
    simp only [Bool.and_eq_true] at hK
    obtain ⟨⟨hs, hd⟩, hj⟩ := hK
    have hj' : j = 0 := by simpa using hj
    subst hj'
    obtain ⟨S, gS, eS⟩ := src_gram hs
    obtain ⟨D, gD, eD⟩ := dst_gram hd
    obtain ⟨gB, eB⟩ := op_gram b (atI_mem (a1 op (atI_mem h2)))
    refine ⟨_, ⟨_, op, b, _, gB, .inl ⟨h2, S, D, [⟨#[32]⟩], _, _, gS, gD, .inr rfl, rfl, rfl⟩, rfl⟩, ?_⟩
    rw [eS, eD, eB, catL_append]
    generalize (if b then [op, ⟨#[46]⟩, ⟨#[98]⟩] else [op]) = B
    show catL B ++ (⟨#[32]⟩ ++ (catL S ++ (⟨#[44, 32]⟩ ++ (catL D ++ ByteArray.empty)))) = catL B ++ (⟨#[32]⟩ ++ catL (S ++ ⟨#[44]⟩ :: ⟨#[32]⟩ :: D))
    rw [catL_append, ByteArray.append_empty]
    show _ = catL B ++ (⟨#[32]⟩ ++ (catL S ++ (⟨#[44]⟩ ++ (⟨#[32]⟩ ++ catL D))))
    have e2 : (⟨#[44, 32]⟩ : ByteArray) = ⟨#[44]⟩ ++ ⟨#[32]⟩ := rfl
    rw [e2, ByteArray.append_assoc]
  rw [if_neg h2] at hK ⊢
  by_cases h3 : 0 ≤ atI onesL op
  · rw [if_pos h3] at hK ⊢
    have hin := atI_mem (a2 op (atI_mem h3))
    unfold oneB at hK
    by_cases hr : op = ⟨#[114, 101, 116, 105]⟩
    · rw [if_pos hr] at hK ⊢
      simp only [Bool.and_eq_true] at hK
      obtain ⟨⟨⟨hb, z1⟩, z2⟩, hj⟩ := hK
      have hj' : j = 0 := by simpa using hj
      subst hj'
      have e1 := zero_noO z1
      have e2 := zero_noO z2
      unfold noO at e1 e2
      obtain ⟨rfl, rfl, rfl, rfl⟩ : m = 0 ∧ r = 0 ∧ n = 0 ∧ l = false := by simpa using e1
      obtain ⟨rfl, rfl, rfl, rfl⟩ : m2 = 0 ∧ r2 = 0 ∧ n2 = 0 ∧ l2 = false := by simpa using e2
      obtain ⟨gB, eB⟩ := op_gram b hin
      exact ⟨_, ⟨_, op, b, [], gB, .inr (.inr (.inl ⟨hr, rfl, rfl⟩)), rfl⟩, by rw [List.append_nil]; exact eB⟩
    · rw [if_neg hr] at hK ⊢
      simp only [Bool.and_eq_true] at hK
      obtain ⟨⟨⟨⟨hs, z2⟩, hj⟩, _⟩, _⟩ := hK
      have hj' : j = 0 := by simpa using hj
      subst hj'
      have e2 := zero_noO z2
      unfold noO at e2
      obtain ⟨rfl, rfl, rfl, rfl⟩ : m2 = 0 ∧ r2 = 0 ∧ n2 = 0 ∧ l2 = false := by simpa using e2
      obtain ⟨S, gS, eS⟩ := src_gram hs
      obtain ⟨gB, eB⟩ := op_gram b hin
      refine ⟨_, ⟨_, op, b, _, gB, .inr (.inl ⟨h2, h3, hr, S, _, gS, rfl, rfl⟩), rfl⟩, ?_⟩
      rw [eS, eB, catL_append, catL_three]
      rfl
  rw [if_neg h3] at hK ⊢
  by_cases h4 : 0 ≤ atI jumpsL op
  · rw [if_pos h4] at hK
    simp only [Bool.and_eq_true] at hK
    obtain ⟨⟨⟨hb, z1⟩, z2⟩, hj⟩ := hK
    have hj2 := isB_iff.1 hj
    have e1 := zero_noO z1
    have e2 := zero_noO z2
    unfold noO at e1 e2
    obtain ⟨rfl, rfl, rfl, rfl⟩ : m = 0 ∧ r = 0 ∧ n = 0 ∧ l = false := by simpa using e1
    obtain ⟨rfl, rfl, rfl, rfl⟩ : m2 = 0 ∧ r2 = 0 ∧ n2 = 0 ∧ l2 = false := by simpa using e2
    obtain ⟨gB, eB⟩ := op_gram b (atI_mem (a3 op (atI_mem h4)))
    obtain ⟨c, k, hc, k0, k1, hk, es⟩ := sgn_gram (2 * j + 2) (by omega) (by omega)
    have hm : k % 2 = 0 := by
      unfold sgn at hk
      split at hk <;> omega
    have hjj : (sgn c * k - 2).tdiv 2 = j := by
      rw [hk, show 2 * j + 2 - 2 = 2 * j by omega]
      exact Int.mul_tdiv_cancel_left j (by decide)
    refine ⟨_, ⟨_, op, b, _, gB, .inr (.inr (.inr ⟨h2, h3, a4 op (atI_mem h4), c, _, k, hc, dgW k0 k1, hm, rfl, ?_⟩)), rfl⟩, ?_⟩
    · rw [hjj]; rfl
    · rw [eB, es, catL_append, catL_three, catL_four]
      have e3 : (⟨#[32, 36]⟩ : ByteArray) = ⟨#[32]⟩ ++ ⟨#[36]⟩ := rfl
      rw [e3, ByteArray.append_assoc]
  · rw [if_neg h4] at hK; cases hK
theorem wordR_wt {nm : ByteArray} {n : Int} (h : wordB nm n = true) : wordR (wtB nm n) = some (nm, n) := by
  unfold wtB
  rw [h, if_neg (by decide)]
  by_cases hn : nm = ⟨#[]⟩
  · rw [if_pos hn]
    subst hn
    obtain ⟨h0, h1⟩ := word_empty h
    exact wordR_num (dgW h0 h1)
  rw [if_neg hn]
  have hb : nameB nm = true := by
    unfold wordB at h
    rw [if_neg hn, Bool.and_eq_true] at h
    exact h.1
  obtain ⟨_, h0, h1⟩ := word_named hn h
  have hp := name_parts hb
  by_cases hz : n = 0
  · rw [if_pos hz]
    subst hz
    unfold wordR
    rw [numR_no (name_num hb)]
    dsimp only
    have hs := signI_in hp.2.2
    rw [dif_neg (by omega), hs]
    have e : nm.extract 0 nm.size = nm := by
      apply ba_list
      rw [take_list, List.take_of_length_le (by rw [size_list]; exact Nat.le_refl _)]
    rw [e]
    exact wordN_name hb (by omega) (by omega)
  · rw [if_neg hz]
    obtain ⟨c, k, hc, k0, k1, hk, es⟩ := sgn_gram n (by omega) (by omega)
    rw [es]
    have hsz := tri_size nm (dg k) c
    have hsg := tri_sign nm (dg k) c hp.2.2 hc
    have hat := tri_at nm (dg k) c (by omega)
    unfold wordR
    rw [numR_no (tri_num nm (dg k) c hc)]
    dsimp only
    rw [dif_pos (by omega)]
    have ha : ((nm ++ (⟨#[c]⟩ ++ dg k))[signI (nm ++ (⟨#[c]⟩ ++ dg k))]'(by omega)) = c := by
      simp only [hsg]
      exact hat
    rw [ha, hsg, tri_right, tri_left, dgW k0 k1]
    dsimp only
    rw [signed_mul, hk]
    exact wordN_name hb h0 h1
end Go.Proofs.YtodjccipfonaiaaGreatDoor
