/- The walk of FnText. -/
import Derived.Test.YtodjccipfonaiaaGreatDoorRows
import Derived.WalkKit
import Derived.WalkSpells
import Derived.WalkLawsBesides
import Derived.Outline
import Derived.RegionTactic
import Derived.BigRegion
import Derived.Deep.RegionHeld3
import Derived.Deep.QuietTactic
import Derived.BigQuiet
import Derived.Deep.CutRange
import Derived.Deep.RegionWith
import Derived.Deep.Light
import Derived.Test.YtodjccipfonaiaaGreatDoorBun0
import Derived.Test.YtodjccipfonaiaaGreatDoorBun46
import Derived.Test.YtodjccipfonaiaaGreatDoorBun38
import Derived.Test.YtodjccipfonaiaaGreatDoorBun48
import Derived.Test.YtodjccipfonaiaaGreatDoorBun47
namespace Go.Proofs.YtodjccipfonaiaaGreatDoor
open Go.RowKit
set_option linter.unusedVariables false

theorem ins_empty {i : Ins} (h : okI i = true) : ¬ insT i.op i.b i.m i.r i.n i.l i.m2 i.r2 i.n2 i.l2 i.j = ⟨#[]⟩ := by
  obtain ⟨P, g, e⟩ := text_gram i h
  rw [e]
  obtain ⟨B, p, b, Q, gB, _, rfl⟩ := g
  obtain ⟨hp, rfl⟩ := gB
  have hw := (ops_wordy hp).1
  apply ne_empty
  rw [catL_append, ByteArray.size_append]
  cases b
  · show 1 ≤ (catL [p]).size + _
    rw [catL_one]; omega
  · show 1 ≤ (catL [p, ⟨#[46]⟩, ⟨#[98]⟩]).size + _
    rw [catL_three, ByteArray.size_append]; omega
theorem wt_empty {nm : ByteArray} {n : Int} (h : wordB nm n = true) : ¬ wtB nm n = ⟨#[]⟩ := by
  intro e
  have k := wordR_wt h
  rw [e] at k
  have k2 : wordR ⟨#[]⟩ = none := by decide +kernel
  rw [k2] at k
  cases k
theorem ins_read (i : Ins) (h : okI i = true) : outQ (insT i.op i.b i.m i.r i.n i.l i.m2 i.r2 i.n2 i.l2 i.j) = (i, lenI i, 0) := by
  obtain ⟨P, g, e⟩ := text_gram i h
  have hs := ins_size i.op i.b i.m i.r i.n i.l i.m2 i.r2 i.n2 i.l2 i.j
  unfold insAll at hs
  rw [if_pos (show insnB i.op i.b i.m i.r i.n i.l i.m2 i.r2 i.n2 i.l2 i.j = true from h), e] at hs
  rw [e, out_eq]
  exact gram_outR g h (by omega)
theorem wt_read {nm : ByteArray} {n : Int} (h : wordB nm n = true) : outW (wtB nm n) = #[.string nm, .int .i64 n, .int .i64 0] := by
  unfold outW
  have := wt_size nm n
  rw [if_neg (by omega), wordR_wt h]
theorem iso_no {s : ByteArray} (h : ¬ s = ⟨#[]⟩) : s.toList.isEmpty = false := by
  cases hs : s.toList.isEmpty with
  | false => rfl
  | true => exact absurd (empty_yes hs) h
theorem cells13w {W : World} {B C : Nat} {v0 v1 v2 v3 v4 v5 v6 v7 v8 v9 v10 u0 u1 : Value} {t t2 : TypeId} {fr fr2 : Nat × Nat} (h : W.heap[B]? = some (.cells #[v0, v1, v2, v3, v4, v5, v6, v7, v8, v9, v10] t fr)) (k : W.heap[C]? = some (.cells #[u0, u1] t2 fr2)) :
    W.cell? ⟨B, 0, none⟩ = some v0 ∧ W.cell? ⟨B, 1, none⟩ = some v1 ∧ W.cell? ⟨B, 2, none⟩ = some v2 ∧ W.cell? ⟨B, 3, none⟩ = some v3 ∧ W.cell? ⟨B, 4, none⟩ = some v4 ∧ W.cell? ⟨B, 5, none⟩ = some v5 ∧ W.cell? ⟨B, 6, none⟩ = some v6 ∧ W.cell? ⟨B, 7, none⟩ = some v7 ∧ W.cell? ⟨B, 8, none⟩ = some v8 ∧ W.cell? ⟨B, 9, none⟩ = some v9 ∧ W.cell? ⟨B, 10, none⟩ = some v10 ∧ W.cell? ⟨C, 0, none⟩ = some u0 ∧ W.cell? ⟨C, 1, none⟩ = some u1 :=
  ⟨cell_of_row W B 0 _ t fr h, cell_of_row W B 1 _ t fr h, cell_of_row W B 2 _ t fr h, cell_of_row W B 3 _ t fr h, cell_of_row W B 4 _ t fr h, cell_of_row W B 5 _ t fr h, cell_of_row W B 6 _ t fr h, cell_of_row W B 7 _ t fr h, cell_of_row W B 8 _ t fr h, cell_of_row W B 9 _ t fr h, cell_of_row W B 10 _ t fr h, cell_of_row W C 0 _ t2 fr2 k, cell_of_row W C 1 _ t2 fr2 k⟩
structure WQ (P : Program) (ops : Array Oper) (C : World → Prop) (Q : Act → Prop) (l : List Oper) (a : Act) : Prop where
  out : wpQuiet P ops C Q l a
theorem quiet_skip {P : Program} {ops : Array Oper} {C : World → Prop} {Q : Act → Prop} {a : Act} {o : Oper} {rest : List Oper} (hw : Region.wanted o (yielded ops a.tmps) = false)
    (h : ∀ K : Act → Prop, (∀ b, WQ P ops C Q rest b → K b) → K (a.put o.dst undef)) : WQ P ops C Q (o :: rest) a := by
  refine ⟨?_⟩
  unfold wpQuiet
  rw [hw, if_neg (by decide)]
  exact h _ (fun _ k => k.out)
theorem quiet_take {P : Program} {ops : Array Oper} {C : World → Prop} {Q : Act → Prop} {a : Act} {o : Oper} {rest : List Oper} (v : Value) (hw : Region.wanted o (yielded ops a.tmps) = true) (hq : ∀ W, C W → o.quietAt P a C W v)
    (h : ∀ K : Act → Prop, (∀ b, WQ P ops C Q rest b → K b) → K (a.put o.dst v)) : WQ P ops C Q (o :: rest) a := by
  refine ⟨?_⟩
  unfold wpQuiet
  rw [hw, if_pos rfl]
  exact ⟨v, hq, h _ (fun _ k => k.out)⟩
structure Two (w : World) (B C : Nat) (x y : Obj) (W : World) : Prop where
  one : W.heap[B]? = some x
  two : W.heap[C]? = some y
  below : Below w.heap.size w W
theorem Two.call {w W W' : World} {B C : Nat} {x y : Obj} (h : Two w B C x y W) (hb : Below W.heap.size W W') : Two w B C x y W' := ⟨heap_keep h.one hb, heap_keep h.two hb, below_call h.below hb⟩
theorem Two.drew {w W : World} {B C : Nat} {x y : Obj} (h : Two w B C x y W) : Two w B C x y W.drew := ⟨h.one, h.two, h.below.drew⟩
structure WH (P : Program) (ops : Array Oper) (Q : Exit → Act → World → Prop) (S : World → Prop) (n : Nat) (listed : Array Bool) (a : Act) (w : World) : Prop where
  out : wpAnyH P .any ops Q S n listed a w
theorem held_op {P : Program} {ops : Array Oper} {Q : Exit → Act → World → Prop} {S : World → Prop} {n : Nat} {listed : Array Bool} {a : Act} {w : World} (i fuel : Nat) (v : Value) {oi : Oper} (hn : n = fuel + 1) (hi : ops[i]? = some oi)
    (hs : Region.noSelect ops = true) (hf : Region.free .any ops listed i = true) (hr : (Region.ready .any ops listed).contains i = true) (hQ : ∀ c a w, Q (.panic c) (a.put oi.dst v) w → Q (.panic c) a w)
    (hw : Region.wanted oi (yielded ops a.tmps) = true) (hS : S w) (hy : ∀ W, S W → (execOp a.eval oi).run P W = .ok (.value v) W)
    (h : ∀ K : Act → Prop, (∀ b, WH P ops Q S fuel (listed.setIfInBounds i true) b w → K b) → K (a.put oi.dst v)) : WH P ops Q S n listed a w := by
  subst hn
  exact ⟨wpAnyH_take hi hs hf hr hQ (.inl ⟨hw, hy⟩) hS (h _ (fun _ k => k.out))⟩
theorem held_skip {P : Program} {ops : Array Oper} {Q : Exit → Act → World → Prop} {S : World → Prop} {n : Nat} {listed : Array Bool} {a : Act} {w : World} (i fuel : Nat) {oi : Oper} (hn : n = fuel + 1) (hi : ops[i]? = some oi)
    (hs : Region.noSelect ops = true) (hf : Region.free .any ops listed i = true) (hr : (Region.ready .any ops listed).contains i = true) (hQ : ∀ c a w, Q (.panic c) (a.put oi.dst undef) w → Q (.panic c) a w)
    (hw : Region.wanted oi (yielded ops a.tmps) = false) (hS : S w)
    (h : ∀ K : Act → Prop, (∀ b, WH P ops Q S fuel (listed.setIfInBounds i true) b w → K b) → K (a.put oi.dst undef)) : WH P ops Q S n listed a w := by
  subst hn
  exact ⟨wpAnyH_take hi hs hf hr hQ (.inr ⟨hw, rfl⟩) hS (h _ (fun _ k => k.out))⟩
theorem held_one {P : Program} {ops : Array Oper} {Q : Exit → Act → World → Prop} {S : World → Prop} {n : Nat} {listed : Array Bool} {a : Act} {w : World} (i fuel : Nat) {oi : Oper} (hn : n = fuel + 1) (hr : Region.ready .any ops listed = [i]) (hi : ops[i]? = some oi)
    (hw : Region.wanted oi (yielded ops a.tmps) = true) (h : ∀ K : Act → World → Prop, Shut (∀ b x, S x → WH P ops Q S fuel (listed.setIfInBounds i true) b x → K b x) → Oper.wp P oi a w K Q) : WH P ops Q S n listed a w := by
  subst hn
  exact ⟨wpAnyH_ready hr (by simp) (AllReadyH.cons hi (fun K' hK => by rw [if_pos hw]; exact h K' (show Shut _ from fun b x hS k => Shut.out hK b x hS (fun _ => k.out))) AllReadyH.nil)⟩
theorem held_two {P : Program} {ops : Array Oper} {Q : Exit → Act → World → Prop} {S : World → Prop} {n : Nat} {listed : Array Bool} {a : Act} {w : World} (i j fuel : Nat) {oi oj : Oper} (hn : n = fuel + 1) (hr : Region.ready .any ops listed = [i, j]) (hi : ops[i]? = some oi) (hj : ops[j]? = some oj)
    (hw : Region.wanted oi (yielded ops a.tmps) = true) (hw2 : Region.wanted oj (yielded ops a.tmps) = true)
    (h : ∀ K : Act → World → Prop, Shut (∀ b x, S x → WH P ops Q S fuel (listed.setIfInBounds i true) b x → K b x) → Oper.wp P oi a w K Q)
    (h2 : ∀ K : Act → World → Prop, Shut (∀ b x, S x → WH P ops Q S fuel (listed.setIfInBounds j true) b x → K b x) → Oper.wp P oj a w K Q) : WH P ops Q S n listed a w := by
  subst hn
  exact ⟨wpAnyH_ready hr (by simp) (AllReadyH.cons hi (fun K' hK => by rw [if_pos hw]; exact h K' (show Shut _ from fun b x hS k => Shut.out hK b x hS (fun _ => k.out))) (AllReadyH.cons hj (fun K' hK => by rw [if_pos hw2]; exact h2 K' (show Shut _ from fun b x hS k => Shut.out hK b x hS (fun _ => k.out))) AllReadyH.nil))⟩
theorem held_done {P : Program} {ops : Array Oper} {Q : Exit → Act → World → Prop} {S : World → Prop} {n : Nat} {listed : Array Bool} {a : Act} {w : World} (hr : Region.ready .any ops listed = []) (h : Q .normal a w) : WH P ops Q S n listed a w := ⟨wpAnyH_done hr h n⟩
theorem cells16 {W : World} {B C : Nat} {v0 v1 v2 v3 v4 v5 v6 v7 v8 v9 v10 v11 v12 u0 u1 u2 : Value} {t t2 : TypeId} {fr fr2 : Nat × Nat} (h : W.heap[B]? = some (.cells #[v0, v1, v2, v3, v4, v5, v6, v7, v8, v9, v10, v11, v12] t fr)) (k : W.heap[C]? = some (.cells #[u0, u1, u2] t2 fr2)) :
    W.cell? ⟨B, 0, none⟩ = some v0 ∧ W.cell? ⟨B, 1, none⟩ = some v1 ∧ W.cell? ⟨B, 2, none⟩ = some v2 ∧ W.cell? ⟨B, 3, none⟩ = some v3 ∧ W.cell? ⟨B, 4, none⟩ = some v4 ∧ W.cell? ⟨B, 5, none⟩ = some v5 ∧ W.cell? ⟨B, 6, none⟩ = some v6 ∧ W.cell? ⟨B, 7, none⟩ = some v7 ∧ W.cell? ⟨B, 8, none⟩ = some v8 ∧ W.cell? ⟨B, 9, none⟩ = some v9 ∧ W.cell? ⟨B, 10, none⟩ = some v10 ∧ W.cell? ⟨B, 11, none⟩ = some v11 ∧ W.cell? ⟨B, 12, none⟩ = some v12 ∧ W.cell? ⟨C, 0, none⟩ = some u0 ∧ W.cell? ⟨C, 1, none⟩ = some u1 ∧ W.cell? ⟨C, 2, none⟩ = some u2 :=
  ⟨cell_of_row W B 0 _ t fr h, cell_of_row W B 1 _ t fr h, cell_of_row W B 2 _ t fr h, cell_of_row W B 3 _ t fr h, cell_of_row W B 4 _ t fr h, cell_of_row W B 5 _ t fr h, cell_of_row W B 6 _ t fr h, cell_of_row W B 7 _ t fr h, cell_of_row W B 8 _ t fr h, cell_of_row W B 9 _ t fr h, cell_of_row W B 10 _ t fr h, cell_of_row W B 11 _ t fr h, cell_of_row W B 12 _ t fr h, cell_of_row W C 0 _ t2 fr2 k, cell_of_row W C 1 _ t2 fr2 k, cell_of_row W C 2 _ t2 fr2 k⟩
theorem wordR_right {s : ByteArray} {x : ByteArray × Int} (h : wordR s = some x) : wordB x.1 x.2 = true := by
  have hk : ∀ {p : ByteArray} {n : Int}, wordN p n = some x → wordB x.1 x.2 = true := fun h => by
    obtain ⟨rfl, h2, h3, h4⟩ := wordN_some h
    unfold wordB
    rw [if_neg (ne_empty (name_parts h2).1), h2]
    simp [isB, h3, h4]
  unfold wordR at h
  split at h
  · rename_i n hn
    cases h
    have h1 := numR_nn (numW_yes hn).1
    have h2 := (numW_yes hn).2
    unfold wordB
    rw [if_pos rfl]
    simp [isB, h1, h2]
  · split at h
    · split at h
      · exact hk h
      · cases h
    · exact hk h
theorem outW_cases (s : ByteArray) : (∃ nm n, wordB nm n = true ∧ outW s = #[.string nm, .int .i64 n, .int .i64 0]) ∨ ∃ c : Int, (c = 2 ∨ c = 3) ∧ outW s = #[.string ⟨#[]⟩, .int .i64 0, .int .i64 c] := by
  unfold outW
  split
  · exact .inr ⟨2, .inl rfl, rfl⟩
  · split
    · rename_i p hp
      exact .inl ⟨p.1, p.2, wordR_right hp, rfl⟩
    · exact .inr ⟨3, .inr rfl, rfl⟩
theorem outQ_cases (s : ByteArray) : (∃ i, okI i = true ∧ outQ s = (i, lenI i, 0)) ∨ ∃ c : Int, (c = 2 ∨ c = 3) ∧ outQ s = (zeroI, 0, c) := by
  unfold outQ
  split
  · exact .inr ⟨2, .inl rfl, rfl⟩
  · rcases outK_yes (L := piecesL s) rfl with ⟨i, _, ok, e⟩ | e
    · exact .inl ⟨i, ok, e⟩
    · exact .inr ⟨3, .inr rfl, e⟩
set_option maxRecDepth 100000 in
set_option maxHeartbeats 8000000 in
theorem lawFnText_walk (a0 a1 : Option Addr) (len0 cap0 len1 cap1 : Nat) (w : World) (m0 : len0 ≤ maxLen) (m1 : len1 ≤ maxLen) (h0 : len0 ≤ 1048576 → Arg w a0 len0 cap0) (h1 : len1 ≤ 1048576 → Arg w a1 len1 cap1) (hT : PowTabs w) :
    Calls Tryz.prog 3 #[.slice a0 len0 cap0, .slice a1 len1 cap1] w fun e w' => e = .returned (.bool true) ∧ Below w.heap.size w w' := by
  unfold maxLen at m0 m1
  by_cases hb0 : 1048576 < len0
  · go_enter Tryz.func3, Tryz.ntmps3
    go_wp2
    go_ret
    exact ⟨rfl, Below.refl _ _⟩
  by_cases hb1 : 1048576 < len1
  · go_enter Tryz.func3, Tryz.ntmps3
    go_wp2
    go_ret
    exact ⟨rfl, Below.refl _ _⟩
  have HA0 : Hid (Arg w a0 len0 cap0) := h0 (by omega)
  have HA1 : Hid (Arg w a1 len1 cap1) := h1 (by omega)
  have HT : Hid (∀ W, Below w.heap.size w W → Tabs W) := fun W h => hT.tabs.below h
  have HP : Hid (∀ W, Below w.heap.size w W → Pow W) := fun W h => hT.pow.below h
  clear h0 h1 hT
  go_enter Tryz.func3, Tryz.ntmps3
  go_wp2_with fail
  refine (drawInsnText_any a0 len0 cap0 _ HA0.out).mono ?_
  rintro e x1 ⟨⟨op, b, m, r, n, l, m2, r2, n2, l2, j⟩, rfl, hb⟩
  have hvs : Ins.vals ⟨op, b, m, r, n, l, m2, r2, n2, l2, j⟩ = #[(.string op), (.bool b), (.int .i64 m), (.int .i64 r), (.int .i64 n), (.bool l), (.int .i64 m2), (.int .i64 r2), (.int .i64 n2), (.bool l2), (.int .i64 j)] := rfl
  rw [hvs]
  clear hvs
  have HB : Hid (Below w.heap.size w (x1.alloc (.cells #[(.string op), (.bool b), (.int .i64 m), (.int .i64 r), (.int .i64 n), (.bool l), (.int .i64 m2), (.int .i64 r2), (.int .i64 n2), (.bool l2), (.int .i64 j)] 26))) := below_more hb _
  have HI : Hid (_ = _) := heap_alloc_new x1 (.cells #[(.string op), (.bool b), (.int .i64 m), (.int .i64 r), (.int .i64 n), (.bool l), (.int .i64 m2), (.int .i64 r2), (.int .i64 n2), (.bool l2), (.int .i64 j)] 26)
  clear hb
  go_wp2_with fail
  generalize x1.alloc (.cells #[(.string op), (.bool b), (.int .i64 m), (.int .i64 r), (.int .i64 n), (.bool l), (.int .i64 m2), (.int .i64 r2), (.int .i64 n2), (.bool l2), (.int .i64 j)] 26) = y1 at *
  generalize x1.heap.size = B5 at *
  refine (implInsnText_any op b m r n l m2 r2 n2 l2 j _ (HT.out _ HB.out) (HP.out _ HB.out)).mono ?_
  rintro e x2 ⟨rfl, hb⟩
  have HI : Hid (x2.heap[B5]? = _) := heap_keep HI.out hb
  have HB : Hid (Below w.heap.size w x2) := below_call HB.out hb
  have C1 : Hid (∀ W : World, Calls Tryz.prog 9 #[.agg #[(.string op), (.bool b), (.int .i64 m), (.int .i64 r), (.int .i64 n), (.bool l), (.int .i64 m2), (.int .i64 r2), (.int .i64 n2), (.bool l2), (.int .i64 j)]] W fun e w' => e = .returned (.string (insAll op b m r n l m2 r2 n2 l2 j)) ∧ Below W.heap.size W w') := fun W => specInsnText_any op b m r n l m2 r2 n2 l2 j W
  have HTX : Hid (insAll op b m r n l m2 r2 n2 l2 j = insAll op b m r n l m2 r2 n2 l2 j) := rfl
  clear hb
  generalize hte : insAll op b m r n l m2 r2 n2 l2 j = t at C1
  have HTE : Hid (insAll op b m r n l m2 r2 n2 l2 j = t) := hte
  (try rw [hte])
  clear hte HTX
  go_wp2_with fail
  refine (drawWordText_any a0 len0 cap0 _ (HA0.out.below HB.out)).mono ?_
  rintro e x3 ⟨nm, n0, rfl, hnm, hb⟩
  have hz3 := hb.size
  have HI : Hid (_ = _) := heap_more (heap_keep HI.out hb) (.cells #[.string nm, .int .i64 n0] 30)
  have HB : Hid (Below w.heap.size w (x3.alloc (.cells #[.string nm, .int .i64 n0] 30))) := below_more (below_call HB.out hb) _
  have HW : Hid (_ = _) := heap_alloc_new x3 (.cells #[.string nm, .int .i64 n0] 30)
  clear hb hz3
  go_wp2_with fail
  generalize x3.alloc (.cells #[.string nm, .int .i64 n0] 30) = y3 at *
  generalize x3.heap.size = B7 at *
  refine (implWordText_any nm n0 _ (by unfold maxLen; omega) (HP.out _ HB.out)).mono ?_
  rintro e x4 ⟨rfl, hb⟩
  have HI : Hid (x4.heap[B5]? = _) := heap_keep HI.out hb
  have HW : Hid (x4.heap[B7]? = _) := heap_keep HW.out hb
  have HB : Hid (Below w.heap.size w x4) := below_call HB.out hb
  have C2 : Hid (∀ W : World, Calls Tryz.prog 10 #[.agg #[.string nm, .int .i64 n0]] W fun e w' => e = .returned (.string (wtB nm n0)) ∧ Below W.heap.size W w') := fun W => specWordText_any nm n0 W (by unfold maxLen; omega)
  clear hb
  generalize hue : wtB nm n0 = u at C2
  have HUE : Hid (wtB nm n0 = u) := hue
  (try rw [hue])
  clear hue
  go_upto_region 7 with fail
  go_cut [63] from 29 to 63 (fun s63 wx => s63 = .bool false ∧ Hid (Below w.heap.size w wx))
  case first =>
    cases ho : insnB op b m r n l m2 r2 n2 l2 j
    · have ht0 : t = ⟨#[]⟩ := by have h := HTE.out; unfold insAll at h; rw [ho, if_neg (by decide)] at h; exact h.symm
      subst ht0
      clear ho HTE
      cases hw : wordB nm n0
      · have hu0 : u = ⟨#[]⟩ := by have h := HUE.out; unfold wtB at h; rw [hw, if_pos rfl] at h; exact h.symm
        subst hu0
        clear hw HUE
        refine wp_region_quiet (C := Two w B5 B7 (.cells #[(.string op), (.bool b), (.int .i64 m), (.int .i64 r), (.int .i64 n), (.bool l), (.int .i64 m2), (.int .i64 r2), (.int .i64 n2), (.bool l2), (.int .i64 j)] 26 (0, 0)) (.cells #[.string nm, .int .i64 n0] 30 (0, 0))) (by kernel_rfl) (by kernel_rfl) (Two.drew ⟨HI.out, HW.out, HB.out⟩) ?_
        rw [List.toList_toArray]
        refine WQ.out ?_
        refine quiet_take (.string ⟨#[]⟩) (by kernel_rfl) (fun W hC => ?_) (fun K hK => ?_)
        · obtain ⟨c0, c1, c2, c3, c4, c5, c6, c7, c8, c9, c10, c11, c12⟩ := cells13w hC.one hC.two
          go_simp
        go_simp
        refine hK _ ?_
        clear hK K
        refine quiet_take (.agg #[(.string op), (.bool b), (.int .i64 m), (.int .i64 r), (.int .i64 n), (.bool l), (.int .i64 m2), (.int .i64 r2), (.int .i64 n2), (.bool l2), (.int .i64 j)]) (by kernel_rfl) (fun W hC => ?_) (fun K hK => ?_)
        · obtain ⟨c0, c1, c2, c3, c4, c5, c6, c7, c8, c9, c10, c11, c12⟩ := cells13w hC.one hC.two
          go_simp
        go_simp
        refine hK _ ?_
        clear hK K
        refine quiet_take (.string ⟨#[]⟩) (by kernel_rfl) (fun W hC => ?_) (fun K hK => ?_)
        · go_simp
          exact (C1.out W).mono (fun e w' h => ⟨h.1, hC.call h.2⟩)
        go_simp
        refine hK _ ?_
        clear hK K
        refine quiet_take (.bool false) (by kernel_rfl) (fun W hC => ?_) (fun K hK => ?_)
        · obtain ⟨c0, c1, c2, c3, c4, c5, c6, c7, c8, c9, c10, c11, c12⟩ := cells13w hC.one hC.two
          go_simp
        go_simp
        refine hK _ ?_
        clear hK K
        refine quiet_take (.bool false) (by kernel_rfl) (fun W hC => ?_) (fun K hK => ?_)
        · obtain ⟨c0, c1, c2, c3, c4, c5, c6, c7, c8, c9, c10, c11, c12⟩ := cells13w hC.one hC.two
          go_simp
        go_simp
        refine hK _ ?_
        clear hK K
        refine quiet_take (.string ⟨#[]⟩) (by kernel_rfl) (fun W hC => ?_) (fun K hK => ?_)
        · obtain ⟨c0, c1, c2, c3, c4, c5, c6, c7, c8, c9, c10, c11, c12⟩ := cells13w hC.one hC.two
          go_simp
        go_simp
        refine hK _ ?_
        clear hK K
        refine quiet_take (.agg #[.string nm, .int .i64 n0]) (by kernel_rfl) (fun W hC => ?_) (fun K hK => ?_)
        · obtain ⟨c0, c1, c2, c3, c4, c5, c6, c7, c8, c9, c10, c11, c12⟩ := cells13w hC.one hC.two
          go_simp
        go_simp
        refine hK _ ?_
        clear hK K
        refine quiet_take (.string ⟨#[]⟩) (by kernel_rfl) (fun W hC => ?_) (fun K hK => ?_)
        · go_simp
          exact (C2.out W).mono (fun e w' h => ⟨h.1, hC.call h.2⟩)
        go_simp
        refine hK _ ?_
        clear hK K
        refine quiet_take (.bool false) (by kernel_rfl) (fun W hC => ?_) (fun K hK => ?_)
        · obtain ⟨c0, c1, c2, c3, c4, c5, c6, c7, c8, c9, c10, c11, c12⟩ := cells13w hC.one hC.two
          go_simp
        go_simp
        refine hK _ ?_
        clear hK K
        refine quiet_take (.bool false) (by kernel_rfl) (fun W hC => ?_) (fun K hK => ?_)
        · obtain ⟨c0, c1, c2, c3, c4, c5, c6, c7, c8, c9, c10, c11, c12⟩ := cells13w hC.one hC.two
          go_simp
        go_simp
        refine hK _ ?_
        clear hK K
        refine quiet_take (.bool false) (by kernel_rfl) (fun W hC => ?_) (fun K hK => ?_)
        · obtain ⟨c0, c1, c2, c3, c4, c5, c6, c7, c8, c9, c10, c11, c12⟩ := cells13w hC.one hC.two
          go_simp
        go_simp
        refine hK _ ?_
        clear hK K
        refine quiet_take (.string ⟨#[]⟩) (by kernel_rfl) (fun W hC => ?_) (fun K hK => ?_)
        · obtain ⟨c0, c1, c2, c3, c4, c5, c6, c7, c8, c9, c10, c11, c12⟩ := cells13w hC.one hC.two
          go_simp
        go_simp
        refine hK _ ?_
        clear hK K
        refine quiet_take (.bool false) (by kernel_rfl) (fun W hC => ?_) (fun K hK => ?_)
        · obtain ⟨c0, c1, c2, c3, c4, c5, c6, c7, c8, c9, c10, c11, c12⟩ := cells13w hC.one hC.two
          go_simp
        go_simp
        refine hK _ ?_
        clear hK K
        refine quiet_take (.bool false) (by kernel_rfl) (fun W hC => ?_) (fun K hK => ?_)
        · obtain ⟨c0, c1, c2, c3, c4, c5, c6, c7, c8, c9, c10, c11, c12⟩ := cells13w hC.one hC.two
          go_simp
        go_simp
        refine hK _ ?_
        clear hK K
        refine quiet_skip (by kernel_rfl) (fun K hK => ?_)
        go_simp
        refine hK _ ?_
        clear hK K
        refine quiet_skip (by kernel_rfl) (fun K hK => ?_)
        go_simp
        refine hK _ ?_
        clear hK K
        refine quiet_skip (by kernel_rfl) (fun K hK => ?_)
        go_simp
        refine hK _ ?_
        clear hK K
        refine quiet_skip (by kernel_rfl) (fun K hK => ?_)
        go_simp
        refine hK _ ?_
        clear hK K
        refine quiet_skip (by kernel_rfl) (fun K hK => ?_)
        go_simp
        refine hK _ ?_
        clear hK K
        refine quiet_skip (by kernel_rfl) (fun K hK => ?_)
        go_simp
        refine hK _ ?_
        clear hK K
        refine quiet_skip (by kernel_rfl) (fun K hK => ?_)
        go_simp
        refine hK _ ?_
        clear hK K
        refine quiet_skip (by kernel_rfl) (fun K hK => ?_)
        go_simp
        refine hK _ ?_
        clear hK K
        refine quiet_take (.bool false) (by kernel_rfl) (fun W hC => ?_) (fun K hK => ?_)
        · obtain ⟨c0, c1, c2, c3, c4, c5, c6, c7, c8, c9, c10, c11, c12⟩ := cells13w hC.one hC.two
          go_simp
        go_simp
        refine hK _ ?_
        clear hK K
        refine quiet_take (.bool false) (by kernel_rfl) (fun W hC => ?_) (fun K hK => ?_)
        · obtain ⟨c0, c1, c2, c3, c4, c5, c6, c7, c8, c9, c10, c11, c12⟩ := cells13w hC.one hC.two
          go_simp
        go_simp
        refine hK _ ?_
        clear hK K
        refine quiet_take (.bool false) (by kernel_rfl) (fun W hC => ?_) (fun K hK => ?_)
        · obtain ⟨c0, c1, c2, c3, c4, c5, c6, c7, c8, c9, c10, c11, c12⟩ := cells13w hC.one hC.two
          go_simp
        go_simp
        refine hK _ ?_
        clear hK K
        refine quiet_take (.string ⟨#[]⟩) (by kernel_rfl) (fun W hC => ?_) (fun K hK => ?_)
        · obtain ⟨c0, c1, c2, c3, c4, c5, c6, c7, c8, c9, c10, c11, c12⟩ := cells13w hC.one hC.two
          go_simp
        go_simp
        refine hK _ ?_
        clear hK K
        refine quiet_take (.bool false) (by kernel_rfl) (fun W hC => ?_) (fun K hK => ?_)
        · obtain ⟨c0, c1, c2, c3, c4, c5, c6, c7, c8, c9, c10, c11, c12⟩ := cells13w hC.one hC.two
          go_simp
        go_simp
        refine hK _ ?_
        clear hK K
        refine quiet_take (.bool false) (by kernel_rfl) (fun W hC => ?_) (fun K hK => ?_)
        · obtain ⟨c0, c1, c2, c3, c4, c5, c6, c7, c8, c9, c10, c11, c12⟩ := cells13w hC.one hC.two
          go_simp
        go_simp
        refine hK _ ?_
        clear hK K
        refine quiet_skip (by kernel_rfl) (fun K hK => ?_)
        go_simp
        refine hK _ ?_
        clear hK K
        refine quiet_skip (by kernel_rfl) (fun K hK => ?_)
        go_simp
        refine hK _ ?_
        clear hK K
        refine quiet_skip (by kernel_rfl) (fun K hK => ?_)
        go_simp
        refine hK _ ?_
        clear hK K
        refine quiet_skip (by kernel_rfl) (fun K hK => ?_)
        go_simp
        refine hK _ ?_
        clear hK K
        refine quiet_skip (by kernel_rfl) (fun K hK => ?_)
        go_simp
        refine hK _ ?_
        clear hK K
        refine quiet_take (.bool false) (by kernel_rfl) (fun W hC => ?_) (fun K hK => ?_)
        · obtain ⟨c0, c1, c2, c3, c4, c5, c6, c7, c8, c9, c10, c11, c12⟩ := cells13w hC.one hC.two
          go_simp
        go_simp
        refine hK _ ?_
        clear hK K
        refine quiet_take (.bool false) (by kernel_rfl) (fun W hC => ?_) (fun K hK => ?_)
        · obtain ⟨c0, c1, c2, c3, c4, c5, c6, c7, c8, c9, c10, c11, c12⟩ := cells13w hC.one hC.two
          go_simp
        go_simp
        refine hK _ ?_
        clear hK K
        refine ⟨wpQuiet_nil ?_⟩
        intro wq hq
        have HB : Hid (Below w.heap.size w wq) := hq.below
        clear hq
        go_wp2
        go_meet
        refine ⟨rfl, ?_⟩
        exact HB.out
      · have hu1 : ¬ u = ⟨#[]⟩ := by rw [← HUE.out]; exact wt_empty hw
        have hu2 := iso_no hu1
        have hu3 := text_no [] hu1
        have C5 : Hid (∀ W : World, Calls Tryz.prog 13 #[.string u] W fun e w' => e = .returned (.agg #[.string nm, .int .i64 n0, .int .i64 0]) ∧ Below W.heap.size W w') := fun W => by
          have h := implWordRead_any u W (by rw [← HUE.out]; have := wt_size nm n0; unfold maxLen; omega)
          have e : outW u = #[.string nm, .int .i64 n0, .int .i64 0] := by rw [← HUE.out]; exact wt_read hw
          rw [e] at h
          exact h
        clear hw HUE hu1
        refine wp_region_quiet (C := Two w B5 B7 (.cells #[(.string op), (.bool b), (.int .i64 m), (.int .i64 r), (.int .i64 n), (.bool l), (.int .i64 m2), (.int .i64 r2), (.int .i64 n2), (.bool l2), (.int .i64 j)] 26 (0, 0)) (.cells #[.string nm, .int .i64 n0] 30 (0, 0))) (by kernel_rfl) (by kernel_rfl) (Two.drew ⟨HI.out, HW.out, HB.out⟩) ?_
        rw [List.toList_toArray]
        refine WQ.out ?_
        refine quiet_take (.string ⟨#[]⟩) (by kernel_rfl) (fun W hC => ?_) (fun K hK => ?_)
        · obtain ⟨c0, c1, c2, c3, c4, c5, c6, c7, c8, c9, c10, c11, c12⟩ := cells13w hC.one hC.two
          go_simp
        go_simp
        refine hK _ ?_
        clear hK K
        refine quiet_take (.agg #[(.string op), (.bool b), (.int .i64 m), (.int .i64 r), (.int .i64 n), (.bool l), (.int .i64 m2), (.int .i64 r2), (.int .i64 n2), (.bool l2), (.int .i64 j)]) (by kernel_rfl) (fun W hC => ?_) (fun K hK => ?_)
        · obtain ⟨c0, c1, c2, c3, c4, c5, c6, c7, c8, c9, c10, c11, c12⟩ := cells13w hC.one hC.two
          go_simp
        go_simp
        refine hK _ ?_
        clear hK K
        refine quiet_take (.string ⟨#[]⟩) (by kernel_rfl) (fun W hC => ?_) (fun K hK => ?_)
        · go_simp
          exact (C1.out W).mono (fun e w' h => ⟨h.1, hC.call h.2⟩)
        go_simp
        refine hK _ ?_
        clear hK K
        refine quiet_take (.bool false) (by kernel_rfl) (fun W hC => ?_) (fun K hK => ?_)
        · obtain ⟨c0, c1, c2, c3, c4, c5, c6, c7, c8, c9, c10, c11, c12⟩ := cells13w hC.one hC.two
          go_simp
        go_simp
        refine hK _ ?_
        clear hK K
        refine quiet_take (.bool false) (by kernel_rfl) (fun W hC => ?_) (fun K hK => ?_)
        · obtain ⟨c0, c1, c2, c3, c4, c5, c6, c7, c8, c9, c10, c11, c12⟩ := cells13w hC.one hC.two
          go_simp
        go_simp
        refine hK _ ?_
        clear hK K
        refine quiet_take (.string u) (by kernel_rfl) (fun W hC => ?_) (fun K hK => ?_)
        · obtain ⟨c0, c1, c2, c3, c4, c5, c6, c7, c8, c9, c10, c11, c12⟩ := cells13w hC.one hC.two
          go_simp
        go_simp
        refine hK _ ?_
        clear hK K
        refine quiet_take (.agg #[.string nm, .int .i64 n0]) (by kernel_rfl) (fun W hC => ?_) (fun K hK => ?_)
        · obtain ⟨c0, c1, c2, c3, c4, c5, c6, c7, c8, c9, c10, c11, c12⟩ := cells13w hC.one hC.two
          go_simp
        go_simp
        refine hK _ ?_
        clear hK K
        refine quiet_take (.string u) (by kernel_rfl) (fun W hC => ?_) (fun K hK => ?_)
        · go_simp
          exact (C2.out W).mono (fun e w' h => ⟨h.1, hC.call h.2⟩)
        go_simp
        refine hK _ ?_
        clear hK K
        refine quiet_take (.bool false) (by kernel_rfl) (fun W hC => ?_) (fun K hK => ?_)
        · obtain ⟨c0, c1, c2, c3, c4, c5, c6, c7, c8, c9, c10, c11, c12⟩ := cells13w hC.one hC.two
          go_simp
        go_simp
        refine hK _ ?_
        clear hK K
        refine quiet_take (.bool false) (by kernel_rfl) (fun W hC => ?_) (fun K hK => ?_)
        · obtain ⟨c0, c1, c2, c3, c4, c5, c6, c7, c8, c9, c10, c11, c12⟩ := cells13w hC.one hC.two
          go_simp
        go_simp
        refine hK _ ?_
        clear hK K
        refine quiet_take (.bool false) (by kernel_rfl) (fun W hC => ?_) (fun K hK => ?_)
        · obtain ⟨c0, c1, c2, c3, c4, c5, c6, c7, c8, c9, c10, c11, c12⟩ := cells13w hC.one hC.two
          go_simp
        go_simp
        refine hK _ ?_
        clear hK K
        refine quiet_take (.string ⟨#[]⟩) (by kernel_rfl) (fun W hC => ?_) (fun K hK => ?_)
        · obtain ⟨c0, c1, c2, c3, c4, c5, c6, c7, c8, c9, c10, c11, c12⟩ := cells13w hC.one hC.two
          go_simp
        go_simp
        refine hK _ ?_
        clear hK K
        refine quiet_take (.bool false) (by kernel_rfl) (fun W hC => ?_) (fun K hK => ?_)
        · obtain ⟨c0, c1, c2, c3, c4, c5, c6, c7, c8, c9, c10, c11, c12⟩ := cells13w hC.one hC.two
          go_simp
        go_simp
        refine hK _ ?_
        clear hK K
        refine quiet_take (.bool false) (by kernel_rfl) (fun W hC => ?_) (fun K hK => ?_)
        · obtain ⟨c0, c1, c2, c3, c4, c5, c6, c7, c8, c9, c10, c11, c12⟩ := cells13w hC.one hC.two
          go_simp
        go_simp
        refine hK _ ?_
        clear hK K
        refine quiet_skip (by kernel_rfl) (fun K hK => ?_)
        go_simp
        refine hK _ ?_
        clear hK K
        refine quiet_skip (by kernel_rfl) (fun K hK => ?_)
        go_simp
        refine hK _ ?_
        clear hK K
        refine quiet_skip (by kernel_rfl) (fun K hK => ?_)
        go_simp
        refine hK _ ?_
        clear hK K
        refine quiet_skip (by kernel_rfl) (fun K hK => ?_)
        go_simp
        refine hK _ ?_
        clear hK K
        refine quiet_skip (by kernel_rfl) (fun K hK => ?_)
        go_simp
        refine hK _ ?_
        clear hK K
        refine quiet_skip (by kernel_rfl) (fun K hK => ?_)
        go_simp
        refine hK _ ?_
        clear hK K
        refine quiet_skip (by kernel_rfl) (fun K hK => ?_)
        go_simp
        refine hK _ ?_
        clear hK K
        refine quiet_skip (by kernel_rfl) (fun K hK => ?_)
        go_simp
        refine hK _ ?_
        clear hK K
        refine quiet_take (.bool false) (by kernel_rfl) (fun W hC => ?_) (fun K hK => ?_)
        · obtain ⟨c0, c1, c2, c3, c4, c5, c6, c7, c8, c9, c10, c11, c12⟩ := cells13w hC.one hC.two
          go_simp
        go_simp
        refine hK _ ?_
        clear hK K
        refine quiet_take (.bool false) (by kernel_rfl) (fun W hC => ?_) (fun K hK => ?_)
        · obtain ⟨c0, c1, c2, c3, c4, c5, c6, c7, c8, c9, c10, c11, c12⟩ := cells13w hC.one hC.two
          go_simp
        go_simp
        refine hK _ ?_
        clear hK K
        refine quiet_take (.bool false) (by kernel_rfl) (fun W hC => ?_) (fun K hK => ?_)
        · obtain ⟨c0, c1, c2, c3, c4, c5, c6, c7, c8, c9, c10, c11, c12⟩ := cells13w hC.one hC.two
          go_simp
        go_simp
        refine hK _ ?_
        clear hK K
        refine quiet_take (.string u) (by kernel_rfl) (fun W hC => ?_) (fun K hK => ?_)
        · obtain ⟨c0, c1, c2, c3, c4, c5, c6, c7, c8, c9, c10, c11, c12⟩ := cells13w hC.one hC.two
          go_simp
        go_simp
        refine hK _ ?_
        clear hK K
        refine quiet_take (.bool true) (by kernel_rfl) (fun W hC => ?_) (fun K hK => ?_)
        · obtain ⟨c0, c1, c2, c3, c4, c5, c6, c7, c8, c9, c10, c11, c12⟩ := cells13w hC.one hC.two
          go_simp
        go_simp
        refine hK _ ?_
        clear hK K
        refine quiet_take (.bool true) (by kernel_rfl) (fun W hC => ?_) (fun K hK => ?_)
        · obtain ⟨c0, c1, c2, c3, c4, c5, c6, c7, c8, c9, c10, c11, c12⟩ := cells13w hC.one hC.two
          go_simp
        go_simp
        refine hK _ ?_
        clear hK K
        refine quiet_take (.string u) (by kernel_rfl) (fun W hC => ?_) (fun K hK => ?_)
        · obtain ⟨c0, c1, c2, c3, c4, c5, c6, c7, c8, c9, c10, c11, c12⟩ := cells13w hC.one hC.two
          go_simp
        go_simp
        refine hK _ ?_
        clear hK K
        refine quiet_take (.agg #[.string nm, .int .i64 n0, .int .i64 0]) (by kernel_rfl) (fun W hC => ?_) (fun K hK => ?_)
        · go_simp
          exact (C5.out W).mono (fun e w' h => ⟨h.1, hC.call h.2⟩)
        go_simp
        refine hK _ ?_
        clear hK K
        refine quiet_take (.agg #[.string nm, .int .i64 n0]) (by kernel_rfl) (fun W hC => ?_) (fun K hK => ?_)
        · obtain ⟨c0, c1, c2, c3, c4, c5, c6, c7, c8, c9, c10, c11, c12⟩ := cells13w hC.one hC.two
          go_simp
        go_simp
        refine hK _ ?_
        clear hK K
        refine quiet_take (.agg #[.string nm, .int .i64 n0, .int .i64 0]) (by kernel_rfl) (fun W hC => ?_) (fun K hK => ?_)
        · obtain ⟨c0, c1, c2, c3, c4, c5, c6, c7, c8, c9, c10, c11, c12⟩ := cells13w hC.one hC.two
          go_simp
        go_simp
        refine hK _ ?_
        clear hK K
        refine quiet_take (.bool false) (by kernel_rfl) (fun W hC => ?_) (fun K hK => ?_)
        · obtain ⟨c0, c1, c2, c3, c4, c5, c6, c7, c8, c9, c10, c11, c12⟩ := cells13w hC.one hC.two
          go_simp
        go_simp
        refine hK _ ?_
        clear hK K
        refine quiet_take (.bool false) (by kernel_rfl) (fun W hC => ?_) (fun K hK => ?_)
        · obtain ⟨c0, c1, c2, c3, c4, c5, c6, c7, c8, c9, c10, c11, c12⟩ := cells13w hC.one hC.two
          go_simp
        go_simp
        refine hK _ ?_
        clear hK K
        refine quiet_take (.bool false) (by kernel_rfl) (fun W hC => ?_) (fun K hK => ?_)
        · obtain ⟨c0, c1, c2, c3, c4, c5, c6, c7, c8, c9, c10, c11, c12⟩ := cells13w hC.one hC.two
          go_simp
        go_simp
        refine hK _ ?_
        clear hK K
        refine ⟨wpQuiet_nil ?_⟩
        intro wq hq
        have HB : Hid (Below w.heap.size w wq) := hq.below
        clear hq
        go_wp2
        go_meet
        refine ⟨rfl, ?_⟩
        exact HB.out
    · have hok : okI ⟨op, b, m, r, n, l, m2, r2, n2, l2, j⟩ = true := ho
      have hte : insT op b m r n l m2 r2 n2 l2 j = t := by have h := HTE.out; unfold insAll at h; rw [if_pos ho] at h; exact h
      have ht1 : ¬ t = ⟨#[]⟩ := by rw [← hte]; exact ins_empty hok
      have ht2 := iso_no ht1
      have ht3 := text_no [] ht1
      have hts : t.size ≤ maxLen := by have h := ins_size op b m r n l m2 r2 n2 l2 j; rw [HTE.out] at h; unfold maxLen; omega
      have htq : outQ t = (⟨op, b, m, r, n, l, m2, r2, n2, l2, j⟩, lenI ⟨op, b, m, r, n, l, m2, r2, n2, l2, j⟩, 0) := by rw [← hte]; exact ins_read ⟨op, b, m, r, n, l, m2, r2, n2, l2, j⟩ hok
      obtain ⟨K, hK⟩ : ∃ K : Nat, K = (allI op b m r n l m2 r2 n2 l2 j).length := ⟨_, rfl⟩
      have hK2 : lenI ⟨op, b, m, r, n, l, m2, r2, n2, l2, j⟩ = ((K : Nat) : Int) := by rw [hK]; unfold allI; rw [ho]; rfl
      have C3 : Hid (∀ W : World, Below w.heap.size w W → Calls Tryz.prog 11 #[.string t] W fun e w' => e = .returned (.agg #[(.string op), (.bool b), (.int .i64 m), (.int .i64 r), (.int .i64 n), (.bool l), (.int .i64 m2), (.int .i64 r2), (.int .i64 n2), (.bool l2), (.int .i64 j), (.int .i64 ((K : Nat) : Int)), (.int .i64 0)]) ∧ Below W.heap.size W w') := fun W hW => by
        refine (implInsnRead_any t W hts (HT.out W hW) (HP.out W hW)).mono ?_
        rintro e w' ⟨i, k, c, rfl, hq, hb⟩
        rw [htq, hK2] at hq
        cases hq
        exact ⟨rfl, hb⟩
      have C4 : Hid (∀ W : World, Below w.heap.size w W → Calls Tryz.prog 12 #[.agg #[(.string op), (.bool b), (.int .i64 m), (.int .i64 r), (.int .i64 n), (.bool l), (.int .i64 m2), (.int .i64 r2), (.int .i64 n2), (.bool l2), (.int .i64 j)]] W fun e w' => ∃ (ga : Option Addr) (gc : Nat), e = .returned (.slice ga K gc) ∧ Below W.heap.size W w') := fun W hW => by
        refine (implEncode_any op b m r n l m2 r2 n2 l2 j W (HT.out W hW)).mono ?_
        rintro e w' ⟨v, rfl, hO, hb⟩
        obtain ⟨ga, gc, rfl⟩ := own_slice hO
        exact ⟨ga, gc, by rw [hK], hb⟩
      clear ho hok hte ht1 hts htq hK hK2 HTE
      cases hw : wordB nm n0
      · have hu0 : u = ⟨#[]⟩ := by have h := HUE.out; unfold wtB at h; rw [hw, if_pos rfl] at h; exact h.symm
        subst hu0
        clear hw HUE
        refine wp_region_held_drew (S := Two w B5 B7 (.cells #[(.string op), (.bool b), (.int .i64 m), (.int .i64 r), (.int .i64 n), (.bool l), (.int .i64 m2), (.int .i64 r2), (.int .i64 n2), (.bool l2), (.int .i64 j)] 26 (0, 0)) (.cells #[.string nm, .int .i64 n0] 30 (0, 0))) (by kernel_rfl) (Two.drew ⟨HI.out, HW.out, HB.out⟩) (fun hS => WH.out ?_)
        refine held_op 0 34 (.string t) rfl rfl (by kernel_rfl) (by kernel_rfl) (by kernel_rfl) (fun _ _ _ h => h) (by kernel_rfl) hS (fun W hC => ?_) (fun KK hK => ?_)
        · obtain ⟨c0, c1, c2, c3, c4, c5, c6, c7, c8, c9, c10, c11, c12⟩ := cells13w hC.one hC.two
          go_simp
        go_simp
        refine hK _ ?_
        clear hK KK
        refine held_op 1 33 (.agg #[(.string op), (.bool b), (.int .i64 m), (.int .i64 r), (.int .i64 n), (.bool l), (.int .i64 m2), (.int .i64 r2), (.int .i64 n2), (.bool l2), (.int .i64 j)]) rfl rfl (by kernel_rfl) (by kernel_rfl) (by kernel_rfl) (fun _ _ _ h => h) (by kernel_rfl) hS (fun W hC => ?_) (fun KK hK => ?_)
        · obtain ⟨c0, c1, c2, c3, c4, c5, c6, c7, c8, c9, c10, c11, c12⟩ := cells13w hC.one hC.two
          go_simp
        go_simp
        refine hK _ ?_
        clear hK KK
        refine held_one 2 32 rfl (by kernel_rfl) rfl (by kernel_rfl) (fun KK hK => ?_)
        go_simp
        refine (C1.out _).mono ?_
        rintro e xc ⟨rfl, hb⟩
        go_wp2_with fail
        have hS := Two.call hS hb
        clear hb
        refine hK.out _ _ hS ?_
        clear hK KK
        refine held_op 3 31 (.bool false) rfl rfl (by kernel_rfl) (by kernel_rfl) (by kernel_rfl) (fun _ _ _ h => h) (by kernel_rfl) hS (fun W hC => ?_) (fun KK hK => ?_)
        · obtain ⟨c0, c1, c2, c3, c4, c5, c6, c7, c8, c9, c10, c11, c12⟩ := cells13w hC.one hC.two
          go_simp
        go_simp
        refine hK _ ?_
        clear hK KK
        refine held_op 4 30 (.bool false) rfl rfl (by kernel_rfl) (by kernel_rfl) (by kernel_rfl) (fun _ _ _ h => h) (by kernel_rfl) hS (fun W hC => ?_) (fun KK hK => ?_)
        · obtain ⟨c0, c1, c2, c3, c4, c5, c6, c7, c8, c9, c10, c11, c12⟩ := cells13w hC.one hC.two
          go_simp
        go_simp
        refine hK _ ?_
        clear hK KK
        refine held_op 5 29 (.string ⟨#[]⟩) rfl rfl (by kernel_rfl) (by kernel_rfl) (by kernel_rfl) (fun _ _ _ h => h) (by kernel_rfl) hS (fun W hC => ?_) (fun KK hK => ?_)
        · obtain ⟨c0, c1, c2, c3, c4, c5, c6, c7, c8, c9, c10, c11, c12⟩ := cells13w hC.one hC.two
          go_simp
        go_simp
        refine hK _ ?_
        clear hK KK
        refine held_op 6 28 (.agg #[.string nm, .int .i64 n0]) rfl rfl (by kernel_rfl) (by kernel_rfl) (by kernel_rfl) (fun _ _ _ h => h) (by kernel_rfl) hS (fun W hC => ?_) (fun KK hK => ?_)
        · obtain ⟨c0, c1, c2, c3, c4, c5, c6, c7, c8, c9, c10, c11, c12⟩ := cells13w hC.one hC.two
          go_simp
        go_simp
        refine hK _ ?_
        clear hK KK
        refine held_one 7 27 rfl (by kernel_rfl) rfl (by kernel_rfl) (fun KK hK => ?_)
        go_simp
        refine (C2.out _).mono ?_
        rintro e xc ⟨rfl, hb⟩
        go_wp2_with fail
        have hS := Two.call hS hb
        clear hb
        refine hK.out _ _ hS ?_
        clear hK KK
        refine held_op 8 26 (.bool false) rfl rfl (by kernel_rfl) (by kernel_rfl) (by kernel_rfl) (fun _ _ _ h => h) (by kernel_rfl) hS (fun W hC => ?_) (fun KK hK => ?_)
        · obtain ⟨c0, c1, c2, c3, c4, c5, c6, c7, c8, c9, c10, c11, c12⟩ := cells13w hC.one hC.two
          go_simp
        go_simp
        refine hK _ ?_
        clear hK KK
        refine held_op 9 25 (.bool false) rfl rfl (by kernel_rfl) (by kernel_rfl) (by kernel_rfl) (fun _ _ _ h => h) (by kernel_rfl) hS (fun W hC => ?_) (fun KK hK => ?_)
        · obtain ⟨c0, c1, c2, c3, c4, c5, c6, c7, c8, c9, c10, c11, c12⟩ := cells13w hC.one hC.two
          go_simp
        go_simp
        refine hK _ ?_
        clear hK KK
        refine held_op 10 24 (.bool false) rfl rfl (by kernel_rfl) (by kernel_rfl) (by kernel_rfl) (fun _ _ _ h => h) (by kernel_rfl) hS (fun W hC => ?_) (fun KK hK => ?_)
        · obtain ⟨c0, c1, c2, c3, c4, c5, c6, c7, c8, c9, c10, c11, c12⟩ := cells13w hC.one hC.two
          go_simp
        go_simp
        refine hK _ ?_
        clear hK KK
        refine held_op 11 23 (.string t) rfl rfl (by kernel_rfl) (by kernel_rfl) (by kernel_rfl) (fun _ _ _ h => h) (by kernel_rfl) hS (fun W hC => ?_) (fun KK hK => ?_)
        · obtain ⟨c0, c1, c2, c3, c4, c5, c6, c7, c8, c9, c10, c11, c12⟩ := cells13w hC.one hC.two
          go_simp
        go_simp
        refine hK _ ?_
        clear hK KK
        refine held_op 12 22 (.bool true) rfl rfl (by kernel_rfl) (by kernel_rfl) (by kernel_rfl) (fun _ _ _ h => h) (by kernel_rfl) hS (fun W hC => ?_) (fun KK hK => ?_)
        · obtain ⟨c0, c1, c2, c3, c4, c5, c6, c7, c8, c9, c10, c11, c12⟩ := cells13w hC.one hC.two
          go_simp
        go_simp
        refine hK _ ?_
        clear hK KK
        refine held_op 13 21 (.bool true) rfl rfl (by kernel_rfl) (by kernel_rfl) (by kernel_rfl) (fun _ _ _ h => h) (by kernel_rfl) hS (fun W hC => ?_) (fun KK hK => ?_)
        · obtain ⟨c0, c1, c2, c3, c4, c5, c6, c7, c8, c9, c10, c11, c12⟩ := cells13w hC.one hC.two
          go_simp
        go_simp
        refine hK _ ?_
        clear hK KK
        refine held_op 14 20 (.string t) rfl rfl (by kernel_rfl) (by kernel_rfl) (by kernel_rfl) (fun _ _ _ h => h) (by kernel_rfl) hS (fun W hC => ?_) (fun KK hK => ?_)
        · obtain ⟨c0, c1, c2, c3, c4, c5, c6, c7, c8, c9, c10, c11, c12⟩ := cells13w hC.one hC.two
          go_simp
        go_simp
        refine hK _ ?_
        clear hK KK
        refine held_op 16 19 (.agg #[(.string op), (.bool b), (.int .i64 m), (.int .i64 r), (.int .i64 n), (.bool l), (.int .i64 m2), (.int .i64 r2), (.int .i64 n2), (.bool l2), (.int .i64 j)]) rfl rfl (by kernel_rfl) (by kernel_rfl) (by kernel_rfl) (fun _ _ _ h => h) (by kernel_rfl) hS (fun W hC => ?_) (fun KK hK => ?_)
        · obtain ⟨c0, c1, c2, c3, c4, c5, c6, c7, c8, c9, c10, c11, c12⟩ := cells13w hC.one hC.two
          go_simp
        go_simp
        refine hK _ ?_
        clear hK KK
        refine held_op 17 18 (.agg #[(.string op), (.bool b), (.int .i64 m), (.int .i64 r), (.int .i64 n), (.bool l), (.int .i64 m2), (.int .i64 r2), (.int .i64 n2), (.bool l2), (.int .i64 j)]) rfl rfl (by kernel_rfl) (by kernel_rfl) (by kernel_rfl) (fun _ _ _ h => h) (by kernel_rfl) hS (fun W hC => ?_) (fun KK hK => ?_)
        · obtain ⟨c0, c1, c2, c3, c4, c5, c6, c7, c8, c9, c10, c11, c12⟩ := cells13w hC.one hC.two
          go_simp
        go_simp
        refine hK _ ?_
        clear hK KK
        refine held_one 15 17 rfl (by kernel_rfl) rfl (by kernel_rfl) (fun KK hK => ?_)
        go_simp
        refine (C3.out _ hS.below).mono ?_
        rintro e xc ⟨rfl, hb⟩
        go_wp2_with fail
        have hS := Two.call hS hb
        clear hb
        refine hK.out _ _ hS ?_
        clear hK KK
        refine held_one 18 16 rfl (by kernel_rfl) rfl (by kernel_rfl) (fun KK hK => ?_)
        go_simp
        refine (C4.out _ hS.below).mono ?_
        rintro e xc ⟨ga, gc, rfl, hb⟩
        go_wp2_with fail
        have hS := Two.call hS hb
        clear hb
        refine hK.out _ _ hS ?_
        clear hK KK
        refine held_op 19 15 (.int .i64 ((K : Nat) : Int)) rfl rfl (by kernel_rfl) (by kernel_rfl) (by kernel_rfl) (fun _ _ _ h => h) (by kernel_rfl) hS (fun W hC => ?_) (fun KK hK => ?_)
        · obtain ⟨c0, c1, c2, c3, c4, c5, c6, c7, c8, c9, c10, c11, c12⟩ := cells13w hC.one hC.two
          go_simp
        go_simp
        refine hK _ ?_
        clear hK KK
        refine held_op 20 14 (.agg #[(.string op), (.bool b), (.int .i64 m), (.int .i64 r), (.int .i64 n), (.bool l), (.int .i64 m2), (.int .i64 r2), (.int .i64 n2), (.bool l2), (.int .i64 j), (.int .i64 ((K : Nat) : Int)), (.int .i64 0)]) rfl rfl (by kernel_rfl) (by kernel_rfl) (by kernel_rfl) (fun _ _ _ h => h) (by kernel_rfl) hS (fun W hC => ?_) (fun KK hK => ?_)
        · obtain ⟨c0, c1, c2, c3, c4, c5, c6, c7, c8, c9, c10, c11, c12⟩ := cells13w hC.one hC.two
          go_simp
        go_simp
        refine hK _ ?_
        clear hK KK
        refine held_op 21 13 (.bool false) rfl rfl (by kernel_rfl) (by kernel_rfl) (by kernel_rfl) (fun _ _ _ h => h) (by kernel_rfl) hS (fun W hC => ?_) (fun KK hK => ?_)
        · obtain ⟨c0, c1, c2, c3, c4, c5, c6, c7, c8, c9, c10, c11, c12⟩ := cells13w hC.one hC.two
          go_simp
        go_simp
        refine hK _ ?_
        clear hK KK
        refine held_op 22 12 (.bool false) rfl rfl (by kernel_rfl) (by kernel_rfl) (by kernel_rfl) (fun _ _ _ h => h) (by kernel_rfl) hS (fun W hC => ?_) (fun KK hK => ?_)
        · obtain ⟨c0, c1, c2, c3, c4, c5, c6, c7, c8, c9, c10, c11, c12⟩ := cells13w hC.one hC.two
          go_simp
        go_simp
        refine hK _ ?_
        clear hK KK
        refine held_op 23 11 (.bool false) rfl rfl (by kernel_rfl) (by kernel_rfl) (by kernel_rfl) (fun _ _ _ h => h) (by kernel_rfl) hS (fun W hC => ?_) (fun KK hK => ?_)
        · obtain ⟨c0, c1, c2, c3, c4, c5, c6, c7, c8, c9, c10, c11, c12⟩ := cells13w hC.one hC.two
          go_simp
        go_simp
        refine hK _ ?_
        clear hK KK
        refine held_op 24 10 (.bool false) rfl rfl (by kernel_rfl) (by kernel_rfl) (by kernel_rfl) (fun _ _ _ h => h) (by kernel_rfl) hS (fun W hC => ?_) (fun KK hK => ?_)
        · obtain ⟨c0, c1, c2, c3, c4, c5, c6, c7, c8, c9, c10, c11, c12⟩ := cells13w hC.one hC.two
          go_simp
        go_simp
        refine hK _ ?_
        clear hK KK
        refine held_op 25 9 (.string ⟨#[]⟩) rfl rfl (by kernel_rfl) (by kernel_rfl) (by kernel_rfl) (fun _ _ _ h => h) (by kernel_rfl) hS (fun W hC => ?_) (fun KK hK => ?_)
        · obtain ⟨c0, c1, c2, c3, c4, c5, c6, c7, c8, c9, c10, c11, c12⟩ := cells13w hC.one hC.two
          go_simp
        go_simp
        refine hK _ ?_
        clear hK KK
        refine held_op 26 8 (.bool false) rfl rfl (by kernel_rfl) (by kernel_rfl) (by kernel_rfl) (fun _ _ _ h => h) (by kernel_rfl) hS (fun W hC => ?_) (fun KK hK => ?_)
        · obtain ⟨c0, c1, c2, c3, c4, c5, c6, c7, c8, c9, c10, c11, c12⟩ := cells13w hC.one hC.two
          go_simp
        go_simp
        refine hK _ ?_
        clear hK KK
        refine held_op 27 7 (.bool false) rfl rfl (by kernel_rfl) (by kernel_rfl) (by kernel_rfl) (fun _ _ _ h => h) (by kernel_rfl) hS (fun W hC => ?_) (fun KK hK => ?_)
        · obtain ⟨c0, c1, c2, c3, c4, c5, c6, c7, c8, c9, c10, c11, c12⟩ := cells13w hC.one hC.two
          go_simp
        go_simp
        refine hK _ ?_
        clear hK KK
        refine held_skip 28 6 rfl rfl (by kernel_rfl) (by kernel_rfl) (by kernel_rfl) (fun _ _ _ h => h) (by kernel_rfl) hS (fun KK hK => ?_)
        go_simp
        refine hK _ ?_
        clear hK KK
        refine held_skip 29 5 rfl rfl (by kernel_rfl) (by kernel_rfl) (by kernel_rfl) (fun _ _ _ h => h) (by kernel_rfl) hS (fun KK hK => ?_)
        go_simp
        refine hK _ ?_
        clear hK KK
        refine held_skip 30 4 rfl rfl (by kernel_rfl) (by kernel_rfl) (by kernel_rfl) (fun _ _ _ h => h) (by kernel_rfl) hS (fun KK hK => ?_)
        go_simp
        refine hK _ ?_
        clear hK KK
        refine held_skip 31 3 rfl rfl (by kernel_rfl) (by kernel_rfl) (by kernel_rfl) (fun _ _ _ h => h) (by kernel_rfl) hS (fun KK hK => ?_)
        go_simp
        refine hK _ ?_
        clear hK KK
        refine held_skip 32 2 rfl rfl (by kernel_rfl) (by kernel_rfl) (by kernel_rfl) (fun _ _ _ h => h) (by kernel_rfl) hS (fun KK hK => ?_)
        go_simp
        refine hK _ ?_
        clear hK KK
        refine held_op 33 1 (.bool false) rfl rfl (by kernel_rfl) (by kernel_rfl) (by kernel_rfl) (fun _ _ _ h => h) (by kernel_rfl) hS (fun W hC => ?_) (fun KK hK => ?_)
        · obtain ⟨c0, c1, c2, c3, c4, c5, c6, c7, c8, c9, c10, c11, c12⟩ := cells13w hC.one hC.two
          go_simp
        go_simp
        refine hK _ ?_
        clear hK KK
        refine held_op 34 0 (.bool false) rfl rfl (by kernel_rfl) (by kernel_rfl) (by kernel_rfl) (fun _ _ _ h => h) (by kernel_rfl) hS (fun W hC => ?_) (fun KK hK => ?_)
        · obtain ⟨c0, c1, c2, c3, c4, c5, c6, c7, c8, c9, c10, c11, c12⟩ := cells13w hC.one hC.two
          go_simp
        go_simp
        refine hK _ ?_
        clear hK KK
        refine held_done (by kernel_rfl) ?_
        go_wp2
        go_meet
        refine ⟨rfl, ?_⟩
        exact hS.below
      · have hu1 : ¬ u = ⟨#[]⟩ := by rw [← HUE.out]; exact wt_empty hw
        have hu2 := iso_no hu1
        have hu3 := text_no [] hu1
        have C5 : Hid (∀ W : World, Calls Tryz.prog 13 #[.string u] W fun e w' => e = .returned (.agg #[.string nm, .int .i64 n0, .int .i64 0]) ∧ Below W.heap.size W w') := fun W => by
          have h := implWordRead_any u W (by rw [← HUE.out]; have := wt_size nm n0; unfold maxLen; omega)
          have e : outW u = #[.string nm, .int .i64 n0, .int .i64 0] := by rw [← HUE.out]; exact wt_read hw
          rw [e] at h
          exact h
        clear hw HUE hu1
        obtain ⟨c0, c1, c2, c3, c4, c5, c6, c7, c8, c9, c10, c11, c12⟩ := cells13w HI.out HW.out
        first | (go_region_held3 (fun w' => w'.cell? ⟨B5, 0, none⟩ = some (.string op) ∧ w'.cell? ⟨B5, 1, none⟩ = some (.bool b) ∧ w'.cell? ⟨B5, 2, none⟩ = some (.int .i64 m) ∧ w'.cell? ⟨B5, 3, none⟩ = some (.int .i64 r) ∧ w'.cell? ⟨B5, 4, none⟩ = some (.int .i64 n) ∧ w'.cell? ⟨B5, 5, none⟩ = some (.bool l) ∧ w'.cell? ⟨B5, 6, none⟩ = some (.int .i64 m2) ∧ w'.cell? ⟨B5, 7, none⟩ = some (.int .i64 r2) ∧ w'.cell? ⟨B5, 8, none⟩ = some (.int .i64 n2) ∧ w'.cell? ⟨B5, 9, none⟩ = some (.bool l2) ∧ w'.cell? ⟨B5, 10, none⟩ = some (.int .i64 j) ∧ w'.cell? ⟨B7, 0, none⟩ = some (.string nm) ∧ w'.cell? ⟨B7, 1, none⟩ = some (.int .i64 n0)) (exact cells13w (by repeat (first | with_reducible exact HI.out | with_reducible apply heap_drewn)) (by repeat (first | with_reducible exact HW.out | with_reducible apply heap_drewn))) (first | (go_at_call 9; refine (C1.out _).mono ?_; rintro e xc ⟨rfl, hb⟩; have HI : Hid (xc.heap[B5]? = _) := heap_keep (by repeat (first | with_reducible exact HI.out | with_reducible apply heap_drewn)) hb; have HW : Hid (xc.heap[B7]? = _) := heap_keep (by repeat (first | with_reducible exact HW.out | with_reducible apply heap_drewn)) hb; have HB : Hid (Below w.heap.size w xc) := below_call (by repeat (first | with_reducible exact HB.out | with_reducible refine Below.drew ?_)) hb; clear hb) | (go_at_call 10; refine (C2.out _).mono ?_; rintro e xc ⟨rfl, hb⟩; have HI : Hid (xc.heap[B5]? = _) := heap_keep (by repeat (first | with_reducible exact HI.out | with_reducible apply heap_drewn)) hb; have HW : Hid (xc.heap[B7]? = _) := heap_keep (by repeat (first | with_reducible exact HW.out | with_reducible apply heap_drewn)) hb; have HB : Hid (Below w.heap.size w xc) := below_call (by repeat (first | with_reducible exact HB.out | with_reducible refine Below.drew ?_)) hb; clear hb) | (go_at_call 11; refine (C3.out _ (by repeat (first | with_reducible exact HB.out | with_reducible refine Below.drew ?_))).mono ?_; rintro e xc ⟨rfl, hb⟩; have HI : Hid (xc.heap[B5]? = _) := heap_keep (by repeat (first | with_reducible exact HI.out | with_reducible apply heap_drewn)) hb; have HW : Hid (xc.heap[B7]? = _) := heap_keep (by repeat (first | with_reducible exact HW.out | with_reducible apply heap_drewn)) hb; have HB : Hid (Below w.heap.size w xc) := below_call (by repeat (first | with_reducible exact HB.out | with_reducible refine Below.drew ?_)) hb; clear hb) | (go_at_call 12; refine (C4.out _ (by repeat (first | with_reducible exact HB.out | with_reducible refine Below.drew ?_))).mono ?_; rintro e xc ⟨ga, gc, rfl, hb⟩; have HI : Hid (xc.heap[B5]? = _) := heap_keep (by repeat (first | with_reducible exact HI.out | with_reducible apply heap_drewn)) hb; have HW : Hid (xc.heap[B7]? = _) := heap_keep (by repeat (first | with_reducible exact HW.out | with_reducible apply heap_drewn)) hb; have HB : Hid (Below w.heap.size w xc) := below_call (by repeat (first | with_reducible exact HB.out | with_reducible refine Below.drew ?_)) hb; clear hb) | (go_at_call 13; refine (C5.out _).mono ?_; rintro e xc ⟨rfl, hb⟩; have HI : Hid (xc.heap[B5]? = _) := heap_keep (by repeat (first | with_reducible exact HI.out | with_reducible apply heap_drewn)) hb; have HW : Hid (xc.heap[B7]? = _) := heap_keep (by repeat (first | with_reducible exact HW.out | with_reducible apply heap_drewn)) hb; have HB : Hid (Below w.heap.size w xc) := below_call (by repeat (first | with_reducible exact HB.out | with_reducible refine Below.drew ?_)) hb; clear hb))) | fail
        all_goals
          go_wp2
          go_meet
          refine ⟨rfl, ?_⟩
          show Below _ _ _
          repeat (first | with_reducible exact HB.out | with_reducible refine Below.drew ?_)
  case rest =>
  obtain ⟨rfl, HB⟩ := hcut
  clear HI HW C1 C2 HTE HUE
  go_wp2_with fail
  refine (drawInsnRead_any a1 len1 cap1 _ (HA1.out.below HB.out)).mono ?_
  rintro e z1 ⟨⟨ta, rfl, hta⟩, hb⟩
  have HB : Hid (Below w.heap.size w z1) := below_call HB.out hb
  clear hb
  go_wp2_with fail
  refine (drawWordRead_any a1 len1 cap1 _ (HA1.out.below HB.out)).mono ?_
  rintro e z2 ⟨⟨tb, rfl, htb⟩, hb⟩
  have HB : Hid (Below w.heap.size w z2) := below_call HB.out hb
  clear hb
  have hta2 : ta.size ≤ maxLen := by unfold maxLen; omega
  have htb2 : tb.size ≤ maxLen := by unfold maxLen; omega
  obtain ⟨⟨op, b, m, r, n, l, m2, r2, n2, l2, j⟩, k, c, hqa⟩ : ∃ (i : Ins) (k c : Int), outQ ta = (i, k, c) := ⟨_, _, _, rfl⟩
  go_wp2_with fail
  refine (implInsnRead_any ta _ hta2 (HT.out _ HB.out) (HP.out _ HB.out)).mono ?_
  rintro e z3 ⟨i', k', c', rfl, hq, hb⟩
  rw [hqa] at hq
  cases hq
  have HX : Hid (_ = _) := heap_alloc_new z3 (.cells #[(.string op), (.bool b), (.int .i64 m), (.int .i64 r), (.int .i64 n), (.bool l), (.int .i64 m2), (.int .i64 r2), (.int .i64 n2), (.bool l2), (.int .i64 j), (.int .i64 k), (.int .i64 c)] 34)
  have HB : Hid (Below w.heap.size w (z3.alloc (.cells #[(.string op), (.bool b), (.int .i64 m), (.int .i64 r), (.int .i64 n), (.bool l), (.int .i64 m2), (.int .i64 r2), (.int .i64 n2), (.bool l2), (.int .i64 j), (.int .i64 k), (.int .i64 c)] 34))) := below_more (below_call HB.out hb) _
  have D1 : Hid (∀ W : World, Calls Tryz.prog 16 #[.string ta] W fun e w' => e = .returned (.agg #[(.string op), (.bool b), (.int .i64 m), (.int .i64 r), (.int .i64 n), (.bool l), (.int .i64 m2), (.int .i64 r2), (.int .i64 n2), (.bool l2), (.int .i64 j), (.int .i64 k), (.int .i64 c)]) ∧ Below W.heap.size W w') := fun W => by
    refine (specInsnRead_any ta W hta2).mono ?_
    rintro e w' ⟨i', k', c', rfl, hq, hb⟩
    rw [← out_eq, hqa] at hq
    cases hq
    exact ⟨rfl, hb⟩
  clear hb
  have HQA : Hid (outQ ta = (⟨op, b, m, r, n, l, m2, r2, n2, l2, j⟩, k, c)) := hqa
  clear hqa
  go_wp2_with fail
  generalize z3.alloc (.cells #[(.string op), (.bool b), (.int .i64 m), (.int .i64 r), (.int .i64 n), (.bool l), (.int .i64 m2), (.int .i64 r2), (.int .i64 n2), (.bool l2), (.int .i64 j), (.int .i64 k), (.int .i64 c)] 34) = y4 at *
  generalize z3.heap.size = BX at *
  have hwb := implWordRead_any tb y4 htb2
  have hwb2 : ∀ W : World, Calls Tryz.prog 17 #[.string tb] W fun e w' => e = .returned (.agg (outW tb)) ∧ Below W.heap.size W w' := fun W => specWordRead_any tb W htb2
  obtain ⟨nm, n0, cw, hwe⟩ := outW_form tb
  have HWE : Hid (outW tb = #[(.string nm), (.int .i64 n0), (.int .i64 cw)]) := hwe
  rw [hwe] at hwb hwb2
  have D2 : Hid (∀ W : World, Calls Tryz.prog 17 #[.string tb] W fun e w' => e = .returned (.agg #[(.string nm), (.int .i64 n0), (.int .i64 cw)]) ∧ Below W.heap.size W w') := hwb2
  clear hwb2 hwe
  refine hwb.mono ?_
  clear hwb
  rintro e z4 ⟨rfl, hb⟩
  have HX : Hid (_ = _) := heap_more (heap_keep HX.out hb) (.cells #[(.string nm), (.int .i64 n0), (.int .i64 cw)] 39)
  have HY : Hid (_ = _) := heap_alloc_new z4 (.cells #[(.string nm), (.int .i64 n0), (.int .i64 cw)] 39)
  have HB : Hid (Below w.heap.size w (z4.alloc (.cells #[(.string nm), (.int .i64 n0), (.int .i64 cw)] 39))) := below_more (below_call HB.out hb) _
  clear hb
  go_upto_region 13 with fail
  generalize z4.alloc (.cells #[(.string nm), (.int .i64 n0), (.int .i64 cw)] 39) = y5 at *
  generalize z4.heap.size = BY at *
  rcases outQ_cases ta with ⟨i, ok, hqa⟩ | ⟨cc, hcc, hqa⟩
  · rw [HQA.out] at hqa
    cases hqa
    have hs := ins_size op b m r n l m2 r2 n2 l2 j
    have hok : insnB op b m r n l m2 r2 n2 l2 j = true := ok
    have htx : insAll op b m r n l m2 r2 n2 l2 j = insT op b m r n l m2 r2 n2 l2 j := by unfold insAll; rw [if_pos hok]
    obtain ⟨tx, htx2⟩ : ∃ tx, tx = insAll op b m r n l m2 r2 n2 l2 j := ⟨_, rfl⟩
    have D3 : Hid (∀ W : World, Below w.heap.size w W → Calls Tryz.prog 6 #[.agg #[(.string op), (.bool b), (.int .i64 m), (.int .i64 r), (.int .i64 n), (.bool l), (.int .i64 m2), (.int .i64 r2), (.int .i64 n2), (.bool l2), (.int .i64 j)]] W fun e w' => e = .returned (.string tx) ∧ Below W.heap.size W w') := fun W hW => by
      rw [htx2]; exact implInsnText_any op b m r n l m2 r2 n2 l2 j W (HT.out W hW) (HP.out W hW)
    have D4 : Hid (∀ W : World, Below w.heap.size w W → Calls Tryz.prog 11 #[.string tx] W fun e w' => e = .returned (.agg #[(.string op), (.bool b), (.int .i64 m), (.int .i64 r), (.int .i64 n), (.bool l), (.int .i64 m2), (.int .i64 r2), (.int .i64 n2), (.bool l2), (.int .i64 j), (.int .i64 (lenI ⟨op, b, m, r, n, l, m2, r2, n2, l2, j⟩)), (.int .i64 0)]) ∧ Below W.heap.size W w') := fun W hW => by
      refine (implInsnRead_any tx W (by rw [htx2]; unfold maxLen; omega) (HT.out W hW) (HP.out W hW)).mono ?_
      rintro e w' ⟨i', k', c', rfl, hq, hb⟩
      rw [htx2, htx] at hq
      have h2 := ins_read ⟨op, b, m, r, n, l, m2, r2, n2, l2, j⟩ ok
      have h3 := h2.symm.trans hq
      cases h3
      exact ⟨rfl, hb⟩
    clear hs hok htx htx2 ok HQA
    generalize lenI ⟨op, b, m, r, n, l, m2, r2, n2, l2, j⟩ = k at *
    rcases outW_cases tb with ⟨nm2, n3, hwr, hwe⟩ | ⟨cd, hcd, hwe⟩
    · rw [HWE.out] at hwe
      obtain ⟨rfl, rfl, rfl⟩ : nm = nm2 ∧ n0 = n3 ∧ cw = 0 := by simpa using hwe
      have hnw := wt_size nm n0
      have hnm2 : nm.size ≤ 30 := by
        by_cases e : nm = ⟨#[]⟩
        · rw [e]; show 0 ≤ 30; omega
        · have := (word_named e hwr).1; omega
      obtain ⟨tu, htu⟩ : ∃ tu, tu = wtB nm n0 := ⟨_, rfl⟩
      have D5 : Hid (∀ W : World, Below w.heap.size w W → Calls Tryz.prog 8 #[.agg #[.string nm, .int .i64 n0]] W fun e w' => e = .returned (.string tu) ∧ Below W.heap.size W w') := fun W hW => by
        rw [htu]; exact implWordText_any nm n0 W (by unfold maxLen; omega) (HP.out W hW)
      have D6 : Hid (∀ W : World, Calls Tryz.prog 13 #[.string tu] W fun e w' => e = .returned (.agg #[.string nm, .int .i64 n0, .int .i64 0]) ∧ Below W.heap.size W w') := fun W => by
        have h := implWordRead_any tu W (by rw [htu]; unfold maxLen; omega)
        have e : outW tu = #[.string nm, .int .i64 n0, .int .i64 0] := by rw [htu]; exact wt_read hwr
        rw [e] at h
        exact h
      clear hwe hwr hnw hnm2 htu HWE
      refine wp_region_quiet (C := Two w BX BY (.cells #[(.string op), (.bool b), (.int .i64 m), (.int .i64 r), (.int .i64 n), (.bool l), (.int .i64 m2), (.int .i64 r2), (.int .i64 n2), (.bool l2), (.int .i64 j), (.int .i64 k), (.int .i64 0)] 34 (0, 0)) (.cells #[(.string nm), (.int .i64 n0), (.int .i64 0)] 39 (0, 0))) (by kernel_rfl) (by kernel_rfl) (Two.drew ⟨HX.out, HY.out, HB.out⟩) ?_
      rw [List.toList_toArray]
      refine WQ.out ?_
      refine quiet_take (.agg #[(.string op), (.bool b), (.int .i64 m), (.int .i64 r), (.int .i64 n), (.bool l), (.int .i64 m2), (.int .i64 r2), (.int .i64 n2), (.bool l2), (.int .i64 j), (.int .i64 k), (.int .i64 0)]) (by kernel_rfl) (fun W hC => ?_) (fun K hK => ?_)
      · obtain ⟨c0, c1, c2, c3, c4, c5, c6, c7, c8, c9, c10, c11, c12, c13, c14, c15⟩ := cells16 hC.one hC.two
        go_simp
      go_simp
      refine hK _ ?_
      clear hK K
      refine quiet_take (.string ta) (by kernel_rfl) (fun W hC => ?_) (fun K hK => ?_)
      · obtain ⟨c0, c1, c2, c3, c4, c5, c6, c7, c8, c9, c10, c11, c12, c13, c14, c15⟩ := cells16 hC.one hC.two
        go_simp
      go_simp
      refine hK _ ?_
      clear hK K
      refine quiet_take (.agg #[(.string op), (.bool b), (.int .i64 m), (.int .i64 r), (.int .i64 n), (.bool l), (.int .i64 m2), (.int .i64 r2), (.int .i64 n2), (.bool l2), (.int .i64 j), (.int .i64 k), (.int .i64 0)]) (by kernel_rfl) (fun W hC => ?_) (fun K hK => ?_)
      · go_simp
        exact (D1.out W).mono (fun e w' h => ⟨h.1, hC.call h.2⟩)
      go_simp
      refine hK _ ?_
      clear hK K
      refine quiet_take (.bool true) (by kernel_rfl) (fun W hC => ?_) (fun K hK => ?_)
      · obtain ⟨c0, c1, c2, c3, c4, c5, c6, c7, c8, c9, c10, c11, c12, c13, c14, c15⟩ := cells16 hC.one hC.two
        go_simp
      go_simp
      refine hK _ ?_
      clear hK K
      refine quiet_take (.bool true) (by kernel_rfl) (fun W hC => ?_) (fun K hK => ?_)
      · obtain ⟨c0, c1, c2, c3, c4, c5, c6, c7, c8, c9, c10, c11, c12, c13, c14, c15⟩ := cells16 hC.one hC.two
        go_simp
      go_simp
      refine hK _ ?_
      clear hK K
      refine quiet_take (.agg #[(.string nm), (.int .i64 n0), (.int .i64 0)]) (by kernel_rfl) (fun W hC => ?_) (fun K hK => ?_)
      · obtain ⟨c0, c1, c2, c3, c4, c5, c6, c7, c8, c9, c10, c11, c12, c13, c14, c15⟩ := cells16 hC.one hC.two
        go_simp
      go_simp
      refine hK _ ?_
      clear hK K
      refine quiet_take (.string tb) (by kernel_rfl) (fun W hC => ?_) (fun K hK => ?_)
      · obtain ⟨c0, c1, c2, c3, c4, c5, c6, c7, c8, c9, c10, c11, c12, c13, c14, c15⟩ := cells16 hC.one hC.two
        go_simp
      go_simp
      refine hK _ ?_
      clear hK K
      refine quiet_take (.agg #[(.string nm), (.int .i64 n0), (.int .i64 0)]) (by kernel_rfl) (fun W hC => ?_) (fun K hK => ?_)
      · go_simp
        exact (D2.out W).mono (fun e w' h => ⟨h.1, hC.call h.2⟩)
      go_simp
      refine hK _ ?_
      clear hK K
      refine quiet_take (.bool true) (by kernel_rfl) (fun W hC => ?_) (fun K hK => ?_)
      · obtain ⟨c0, c1, c2, c3, c4, c5, c6, c7, c8, c9, c10, c11, c12, c13, c14, c15⟩ := cells16 hC.one hC.two
        go_simp
      go_simp
      refine hK _ ?_
      clear hK K
      refine quiet_take (.bool true) (by kernel_rfl) (fun W hC => ?_) (fun K hK => ?_)
      · obtain ⟨c0, c1, c2, c3, c4, c5, c6, c7, c8, c9, c10, c11, c12, c13, c14, c15⟩ := cells16 hC.one hC.two
        go_simp
      go_simp
      refine hK _ ?_
      clear hK K
      refine quiet_take (.bool true) (by kernel_rfl) (fun W hC => ?_) (fun K hK => ?_)
      · obtain ⟨c0, c1, c2, c3, c4, c5, c6, c7, c8, c9, c10, c11, c12, c13, c14, c15⟩ := cells16 hC.one hC.two
        go_simp
      go_simp
      refine hK _ ?_
      clear hK K
      refine quiet_take (.pointer (some ⟨BX, 12, none⟩)) (by kernel_rfl) (fun W hC => ?_) (fun K hK => ?_)
      · obtain ⟨c0, c1, c2, c3, c4, c5, c6, c7, c8, c9, c10, c11, c12, c13, c14, c15⟩ := cells16 hC.one hC.two
        go_simp
      go_simp
      refine hK _ ?_
      clear hK K
      refine quiet_take (.int .i64 0) (by kernel_rfl) (fun W hC => ?_) (fun K hK => ?_)
      · obtain ⟨c0, c1, c2, c3, c4, c5, c6, c7, c8, c9, c10, c11, c12, c13, c14, c15⟩ := cells16 hC.one hC.two
        go_simp
      go_simp
      refine hK _ ?_
      clear hK K
      refine quiet_take (.bool false) (by kernel_rfl) (fun W hC => ?_) (fun K hK => ?_)
      · obtain ⟨c0, c1, c2, c3, c4, c5, c6, c7, c8, c9, c10, c11, c12, c13, c14, c15⟩ := cells16 hC.one hC.two
        go_simp
      go_simp
      refine hK _ ?_
      clear hK K
      refine quiet_take (.bool false) (by kernel_rfl) (fun W hC => ?_) (fun K hK => ?_)
      · obtain ⟨c0, c1, c2, c3, c4, c5, c6, c7, c8, c9, c10, c11, c12, c13, c14, c15⟩ := cells16 hC.one hC.two
        go_simp
      go_simp
      refine hK _ ?_
      clear hK K
      refine quiet_take (.pointer (some ⟨BX, 0, none⟩)) (by kernel_rfl) (fun W hC => ?_) (fun K hK => ?_)
      · obtain ⟨c0, c1, c2, c3, c4, c5, c6, c7, c8, c9, c10, c11, c12, c13, c14, c15⟩ := cells16 hC.one hC.two
        go_simp
      go_simp
      refine hK _ ?_
      clear hK K
      refine quiet_take (.agg #[(.string op), (.bool b), (.int .i64 m), (.int .i64 r), (.int .i64 n), (.bool l), (.int .i64 m2), (.int .i64 r2), (.int .i64 n2), (.bool l2), (.int .i64 j)]) (by kernel_rfl) (fun W hC => ?_) (fun K hK => ?_)
      · obtain ⟨c0, c1, c2, c3, c4, c5, c6, c7, c8, c9, c10, c11, c12, c13, c14, c15⟩ := cells16 hC.one hC.two
        go_simp
      go_simp
      refine hK _ ?_
      clear hK K
      refine quiet_take (.string tx) (by kernel_rfl) (fun W hC => ?_) (fun K hK => ?_)
      · go_simp
        exact (D3.out W hC.below).mono (fun e w' h => ⟨h.1, hC.call h.2⟩)
      go_simp
      refine hK _ ?_
      clear hK K
      refine quiet_take (.agg #[(.string op), (.bool b), (.int .i64 m), (.int .i64 r), (.int .i64 n), (.bool l), (.int .i64 m2), (.int .i64 r2), (.int .i64 n2), (.bool l2), (.int .i64 j), (.int .i64 k), (.int .i64 0)]) (by kernel_rfl) (fun W hC => ?_) (fun K hK => ?_)
      · go_simp
        exact (D4.out W hC.below).mono (fun e w' h => ⟨h.1, hC.call h.2⟩)
      go_simp
      refine hK _ ?_
      clear hK K
      refine quiet_take (.agg #[(.string op), (.bool b), (.int .i64 m), (.int .i64 r), (.int .i64 n), (.bool l), (.int .i64 m2), (.int .i64 r2), (.int .i64 n2), (.bool l2), (.int .i64 j), (.int .i64 k), (.int .i64 0)]) (by kernel_rfl) (fun W hC => ?_) (fun K hK => ?_)
      · obtain ⟨c0, c1, c2, c3, c4, c5, c6, c7, c8, c9, c10, c11, c12, c13, c14, c15⟩ := cells16 hC.one hC.two
        go_simp
      go_simp
      refine hK _ ?_
      clear hK K
      refine quiet_take (.bool true) (by kernel_rfl) (fun W hC => ?_) (fun K hK => ?_)
      · obtain ⟨c0, c1, c2, c3, c4, c5, c6, c7, c8, c9, c10, c11, c12, c13, c14, c15⟩ := cells16 hC.one hC.two
        go_simp
      go_simp
      refine hK _ ?_
      clear hK K
      refine quiet_take (.bool true) (by kernel_rfl) (fun W hC => ?_) (fun K hK => ?_)
      · obtain ⟨c0, c1, c2, c3, c4, c5, c6, c7, c8, c9, c10, c11, c12, c13, c14, c15⟩ := cells16 hC.one hC.two
        go_simp
      go_simp
      refine hK _ ?_
      clear hK K
      refine quiet_take (.bool true) (by kernel_rfl) (fun W hC => ?_) (fun K hK => ?_)
      · obtain ⟨c0, c1, c2, c3, c4, c5, c6, c7, c8, c9, c10, c11, c12, c13, c14, c15⟩ := cells16 hC.one hC.two
        go_simp
      go_simp
      refine hK _ ?_
      clear hK K
      refine quiet_take (.bool true) (by kernel_rfl) (fun W hC => ?_) (fun K hK => ?_)
      · obtain ⟨c0, c1, c2, c3, c4, c5, c6, c7, c8, c9, c10, c11, c12, c13, c14, c15⟩ := cells16 hC.one hC.two
        go_simp
      go_simp
      refine hK _ ?_
      clear hK K
      refine quiet_take (.pointer (some ⟨BY, 2, none⟩)) (by kernel_rfl) (fun W hC => ?_) (fun K hK => ?_)
      · obtain ⟨c0, c1, c2, c3, c4, c5, c6, c7, c8, c9, c10, c11, c12, c13, c14, c15⟩ := cells16 hC.one hC.two
        go_simp
      go_simp
      refine hK _ ?_
      clear hK K
      refine quiet_take (.int .i64 0) (by kernel_rfl) (fun W hC => ?_) (fun K hK => ?_)
      · obtain ⟨c0, c1, c2, c3, c4, c5, c6, c7, c8, c9, c10, c11, c12, c13, c14, c15⟩ := cells16 hC.one hC.two
        go_simp
      go_simp
      refine hK _ ?_
      clear hK K
      refine quiet_take (.bool false) (by kernel_rfl) (fun W hC => ?_) (fun K hK => ?_)
      · obtain ⟨c0, c1, c2, c3, c4, c5, c6, c7, c8, c9, c10, c11, c12, c13, c14, c15⟩ := cells16 hC.one hC.two
        go_simp
      go_simp
      refine hK _ ?_
      clear hK K
      refine quiet_take (.bool false) (by kernel_rfl) (fun W hC => ?_) (fun K hK => ?_)
      · obtain ⟨c0, c1, c2, c3, c4, c5, c6, c7, c8, c9, c10, c11, c12, c13, c14, c15⟩ := cells16 hC.one hC.two
        go_simp
      go_simp
      refine hK _ ?_
      clear hK K
      refine quiet_take (.pointer (some ⟨BY, 0, none⟩)) (by kernel_rfl) (fun W hC => ?_) (fun K hK => ?_)
      · obtain ⟨c0, c1, c2, c3, c4, c5, c6, c7, c8, c9, c10, c11, c12, c13, c14, c15⟩ := cells16 hC.one hC.two
        go_simp
      go_simp
      refine hK _ ?_
      clear hK K
      refine quiet_take (.agg #[(.string nm), (.int .i64 n0)]) (by kernel_rfl) (fun W hC => ?_) (fun K hK => ?_)
      · obtain ⟨c0, c1, c2, c3, c4, c5, c6, c7, c8, c9, c10, c11, c12, c13, c14, c15⟩ := cells16 hC.one hC.two
        go_simp
      go_simp
      refine hK _ ?_
      clear hK K
      refine quiet_take (.string tu) (by kernel_rfl) (fun W hC => ?_) (fun K hK => ?_)
      · go_simp
        exact (D5.out W hC.below).mono (fun e w' h => ⟨h.1, hC.call h.2⟩)
      go_simp
      refine hK _ ?_
      clear hK K
      refine quiet_take (.agg #[(.string nm), (.int .i64 n0), (.int .i64 0)]) (by kernel_rfl) (fun W hC => ?_) (fun K hK => ?_)
      · go_simp
        exact (D6.out W).mono (fun e w' h => ⟨h.1, hC.call h.2⟩)
      go_simp
      refine hK _ ?_
      clear hK K
      refine quiet_take (.agg #[(.string nm), (.int .i64 n0), (.int .i64 0)]) (by kernel_rfl) (fun W hC => ?_) (fun K hK => ?_)
      · obtain ⟨c0, c1, c2, c3, c4, c5, c6, c7, c8, c9, c10, c11, c12, c13, c14, c15⟩ := cells16 hC.one hC.two
        go_simp
      go_simp
      refine hK _ ?_
      clear hK K
      refine quiet_take (.bool true) (by kernel_rfl) (fun W hC => ?_) (fun K hK => ?_)
      · obtain ⟨c0, c1, c2, c3, c4, c5, c6, c7, c8, c9, c10, c11, c12, c13, c14, c15⟩ := cells16 hC.one hC.two
        go_simp
      go_simp
      refine hK _ ?_
      clear hK K
      refine quiet_take (.bool true) (by kernel_rfl) (fun W hC => ?_) (fun K hK => ?_)
      · obtain ⟨c0, c1, c2, c3, c4, c5, c6, c7, c8, c9, c10, c11, c12, c13, c14, c15⟩ := cells16 hC.one hC.two
        go_simp
      go_simp
      refine hK _ ?_
      clear hK K
      refine quiet_take (.bool true) (by kernel_rfl) (fun W hC => ?_) (fun K hK => ?_)
      · obtain ⟨c0, c1, c2, c3, c4, c5, c6, c7, c8, c9, c10, c11, c12, c13, c14, c15⟩ := cells16 hC.one hC.two
        go_simp
      go_simp
      refine hK _ ?_
      clear hK K
      refine quiet_take (.bool true) (by kernel_rfl) (fun W hC => ?_) (fun K hK => ?_)
      · obtain ⟨c0, c1, c2, c3, c4, c5, c6, c7, c8, c9, c10, c11, c12, c13, c14, c15⟩ := cells16 hC.one hC.two
        go_simp
      go_simp
      refine hK _ ?_
      clear hK K
      refine ⟨wpQuiet_nil ?_⟩
      intro wq hq
      have HB : Hid (Below w.heap.size w wq) := hq.below
      clear hq
      go_wp2
      go_ret
      exact ⟨rfl, HB.out⟩
    · rw [HWE.out] at hwe
      obtain ⟨rfl, rfl, rfl⟩ : nm = ⟨#[]⟩ ∧ n0 = 0 ∧ cw = cd := by simpa using hwe
      have hdn : (cw != 0) = true := by rw [bne_iff_ne]; omega
      clear hwe hcd HWE
      refine wp_region_quiet (C := Two w BX BY (.cells #[(.string op), (.bool b), (.int .i64 m), (.int .i64 r), (.int .i64 n), (.bool l), (.int .i64 m2), (.int .i64 r2), (.int .i64 n2), (.bool l2), (.int .i64 j), (.int .i64 k), (.int .i64 0)] 34 (0, 0)) (.cells #[(.string ⟨#[]⟩), (.int .i64 0), (.int .i64 cw)] 39 (0, 0))) (by kernel_rfl) (by kernel_rfl) (Two.drew ⟨HX.out, HY.out, HB.out⟩) ?_
      rw [List.toList_toArray]
      refine WQ.out ?_
      refine quiet_take (.agg #[(.string op), (.bool b), (.int .i64 m), (.int .i64 r), (.int .i64 n), (.bool l), (.int .i64 m2), (.int .i64 r2), (.int .i64 n2), (.bool l2), (.int .i64 j), (.int .i64 k), (.int .i64 0)]) (by kernel_rfl) (fun W hC => ?_) (fun K hK => ?_)
      · obtain ⟨c0, c1, c2, c3, c4, c5, c6, c7, c8, c9, c10, c11, c12, c13, c14, c15⟩ := cells16 hC.one hC.two
        go_simp
      go_simp
      refine hK _ ?_
      clear hK K
      refine quiet_take (.string ta) (by kernel_rfl) (fun W hC => ?_) (fun K hK => ?_)
      · obtain ⟨c0, c1, c2, c3, c4, c5, c6, c7, c8, c9, c10, c11, c12, c13, c14, c15⟩ := cells16 hC.one hC.two
        go_simp
      go_simp
      refine hK _ ?_
      clear hK K
      refine quiet_take (.agg #[(.string op), (.bool b), (.int .i64 m), (.int .i64 r), (.int .i64 n), (.bool l), (.int .i64 m2), (.int .i64 r2), (.int .i64 n2), (.bool l2), (.int .i64 j), (.int .i64 k), (.int .i64 0)]) (by kernel_rfl) (fun W hC => ?_) (fun K hK => ?_)
      · go_simp
        exact (D1.out W).mono (fun e w' h => ⟨h.1, hC.call h.2⟩)
      go_simp
      refine hK _ ?_
      clear hK K
      refine quiet_take (.bool true) (by kernel_rfl) (fun W hC => ?_) (fun K hK => ?_)
      · obtain ⟨c0, c1, c2, c3, c4, c5, c6, c7, c8, c9, c10, c11, c12, c13, c14, c15⟩ := cells16 hC.one hC.two
        go_simp
      go_simp
      refine hK _ ?_
      clear hK K
      refine quiet_take (.bool true) (by kernel_rfl) (fun W hC => ?_) (fun K hK => ?_)
      · obtain ⟨c0, c1, c2, c3, c4, c5, c6, c7, c8, c9, c10, c11, c12, c13, c14, c15⟩ := cells16 hC.one hC.two
        go_simp
      go_simp
      refine hK _ ?_
      clear hK K
      refine quiet_take (.agg #[(.string ⟨#[]⟩), (.int .i64 0), (.int .i64 cw)]) (by kernel_rfl) (fun W hC => ?_) (fun K hK => ?_)
      · obtain ⟨c0, c1, c2, c3, c4, c5, c6, c7, c8, c9, c10, c11, c12, c13, c14, c15⟩ := cells16 hC.one hC.two
        go_simp
      go_simp
      refine hK _ ?_
      clear hK K
      refine quiet_take (.string tb) (by kernel_rfl) (fun W hC => ?_) (fun K hK => ?_)
      · obtain ⟨c0, c1, c2, c3, c4, c5, c6, c7, c8, c9, c10, c11, c12, c13, c14, c15⟩ := cells16 hC.one hC.two
        go_simp
      go_simp
      refine hK _ ?_
      clear hK K
      refine quiet_take (.agg #[(.string ⟨#[]⟩), (.int .i64 0), (.int .i64 cw)]) (by kernel_rfl) (fun W hC => ?_) (fun K hK => ?_)
      · go_simp
        exact (D2.out W).mono (fun e w' h => ⟨h.1, hC.call h.2⟩)
      go_simp
      refine hK _ ?_
      clear hK K
      refine quiet_take (.bool true) (by kernel_rfl) (fun W hC => ?_) (fun K hK => ?_)
      · obtain ⟨c0, c1, c2, c3, c4, c5, c6, c7, c8, c9, c10, c11, c12, c13, c14, c15⟩ := cells16 hC.one hC.two
        go_simp
      go_simp
      refine hK _ ?_
      clear hK K
      refine quiet_take (.bool true) (by kernel_rfl) (fun W hC => ?_) (fun K hK => ?_)
      · obtain ⟨c0, c1, c2, c3, c4, c5, c6, c7, c8, c9, c10, c11, c12, c13, c14, c15⟩ := cells16 hC.one hC.two
        go_simp
      go_simp
      refine hK _ ?_
      clear hK K
      refine quiet_take (.bool true) (by kernel_rfl) (fun W hC => ?_) (fun K hK => ?_)
      · obtain ⟨c0, c1, c2, c3, c4, c5, c6, c7, c8, c9, c10, c11, c12, c13, c14, c15⟩ := cells16 hC.one hC.two
        go_simp
      go_simp
      refine hK _ ?_
      clear hK K
      refine quiet_take (.pointer (some ⟨BX, 12, none⟩)) (by kernel_rfl) (fun W hC => ?_) (fun K hK => ?_)
      · obtain ⟨c0, c1, c2, c3, c4, c5, c6, c7, c8, c9, c10, c11, c12, c13, c14, c15⟩ := cells16 hC.one hC.two
        go_simp
      go_simp
      refine hK _ ?_
      clear hK K
      refine quiet_take (.int .i64 0) (by kernel_rfl) (fun W hC => ?_) (fun K hK => ?_)
      · obtain ⟨c0, c1, c2, c3, c4, c5, c6, c7, c8, c9, c10, c11, c12, c13, c14, c15⟩ := cells16 hC.one hC.two
        go_simp
      go_simp
      refine hK _ ?_
      clear hK K
      refine quiet_take (.bool false) (by kernel_rfl) (fun W hC => ?_) (fun K hK => ?_)
      · obtain ⟨c0, c1, c2, c3, c4, c5, c6, c7, c8, c9, c10, c11, c12, c13, c14, c15⟩ := cells16 hC.one hC.two
        go_simp
      go_simp
      refine hK _ ?_
      clear hK K
      refine quiet_take (.bool false) (by kernel_rfl) (fun W hC => ?_) (fun K hK => ?_)
      · obtain ⟨c0, c1, c2, c3, c4, c5, c6, c7, c8, c9, c10, c11, c12, c13, c14, c15⟩ := cells16 hC.one hC.two
        go_simp
      go_simp
      refine hK _ ?_
      clear hK K
      refine quiet_take (.pointer (some ⟨BX, 0, none⟩)) (by kernel_rfl) (fun W hC => ?_) (fun K hK => ?_)
      · obtain ⟨c0, c1, c2, c3, c4, c5, c6, c7, c8, c9, c10, c11, c12, c13, c14, c15⟩ := cells16 hC.one hC.two
        go_simp
      go_simp
      refine hK _ ?_
      clear hK K
      refine quiet_take (.agg #[(.string op), (.bool b), (.int .i64 m), (.int .i64 r), (.int .i64 n), (.bool l), (.int .i64 m2), (.int .i64 r2), (.int .i64 n2), (.bool l2), (.int .i64 j)]) (by kernel_rfl) (fun W hC => ?_) (fun K hK => ?_)
      · obtain ⟨c0, c1, c2, c3, c4, c5, c6, c7, c8, c9, c10, c11, c12, c13, c14, c15⟩ := cells16 hC.one hC.two
        go_simp
      go_simp
      refine hK _ ?_
      clear hK K
      refine quiet_take (.string tx) (by kernel_rfl) (fun W hC => ?_) (fun K hK => ?_)
      · go_simp
        exact (D3.out W hC.below).mono (fun e w' h => ⟨h.1, hC.call h.2⟩)
      go_simp
      refine hK _ ?_
      clear hK K
      refine quiet_take (.agg #[(.string op), (.bool b), (.int .i64 m), (.int .i64 r), (.int .i64 n), (.bool l), (.int .i64 m2), (.int .i64 r2), (.int .i64 n2), (.bool l2), (.int .i64 j), (.int .i64 k), (.int .i64 0)]) (by kernel_rfl) (fun W hC => ?_) (fun K hK => ?_)
      · go_simp
        exact (D4.out W hC.below).mono (fun e w' h => ⟨h.1, hC.call h.2⟩)
      go_simp
      refine hK _ ?_
      clear hK K
      refine quiet_take (.agg #[(.string op), (.bool b), (.int .i64 m), (.int .i64 r), (.int .i64 n), (.bool l), (.int .i64 m2), (.int .i64 r2), (.int .i64 n2), (.bool l2), (.int .i64 j), (.int .i64 k), (.int .i64 0)]) (by kernel_rfl) (fun W hC => ?_) (fun K hK => ?_)
      · obtain ⟨c0, c1, c2, c3, c4, c5, c6, c7, c8, c9, c10, c11, c12, c13, c14, c15⟩ := cells16 hC.one hC.two
        go_simp
      go_simp
      refine hK _ ?_
      clear hK K
      refine quiet_take (.bool true) (by kernel_rfl) (fun W hC => ?_) (fun K hK => ?_)
      · obtain ⟨c0, c1, c2, c3, c4, c5, c6, c7, c8, c9, c10, c11, c12, c13, c14, c15⟩ := cells16 hC.one hC.two
        go_simp
      go_simp
      refine hK _ ?_
      clear hK K
      refine quiet_take (.bool true) (by kernel_rfl) (fun W hC => ?_) (fun K hK => ?_)
      · obtain ⟨c0, c1, c2, c3, c4, c5, c6, c7, c8, c9, c10, c11, c12, c13, c14, c15⟩ := cells16 hC.one hC.two
        go_simp
      go_simp
      refine hK _ ?_
      clear hK K
      refine quiet_take (.bool true) (by kernel_rfl) (fun W hC => ?_) (fun K hK => ?_)
      · obtain ⟨c0, c1, c2, c3, c4, c5, c6, c7, c8, c9, c10, c11, c12, c13, c14, c15⟩ := cells16 hC.one hC.two
        go_simp
      go_simp
      refine hK _ ?_
      clear hK K
      refine quiet_take (.bool true) (by kernel_rfl) (fun W hC => ?_) (fun K hK => ?_)
      · obtain ⟨c0, c1, c2, c3, c4, c5, c6, c7, c8, c9, c10, c11, c12, c13, c14, c15⟩ := cells16 hC.one hC.two
        go_simp
      go_simp
      refine hK _ ?_
      clear hK K
      refine quiet_take (.pointer (some ⟨BY, 2, none⟩)) (by kernel_rfl) (fun W hC => ?_) (fun K hK => ?_)
      · obtain ⟨c0, c1, c2, c3, c4, c5, c6, c7, c8, c9, c10, c11, c12, c13, c14, c15⟩ := cells16 hC.one hC.two
        go_simp
      go_simp
      refine hK _ ?_
      clear hK K
      refine quiet_take (.int .i64 cw) (by kernel_rfl) (fun W hC => ?_) (fun K hK => ?_)
      · obtain ⟨c0, c1, c2, c3, c4, c5, c6, c7, c8, c9, c10, c11, c12, c13, c14, c15⟩ := cells16 hC.one hC.two
        go_simp
      go_simp
      refine hK _ ?_
      clear hK K
      refine quiet_take (.bool true) (by kernel_rfl) (fun W hC => ?_) (fun K hK => ?_)
      · obtain ⟨c0, c1, c2, c3, c4, c5, c6, c7, c8, c9, c10, c11, c12, c13, c14, c15⟩ := cells16 hC.one hC.two
        go_simp
      go_simp
      refine hK _ ?_
      clear hK K
      refine quiet_take (.bool true) (by kernel_rfl) (fun W hC => ?_) (fun K hK => ?_)
      · obtain ⟨c0, c1, c2, c3, c4, c5, c6, c7, c8, c9, c10, c11, c12, c13, c14, c15⟩ := cells16 hC.one hC.two
        go_simp
      go_simp
      refine hK _ ?_
      clear hK K
      refine quiet_skip (by kernel_rfl) (fun K hK => ?_)
      go_simp
      refine hK _ ?_
      clear hK K
      refine quiet_skip (by kernel_rfl) (fun K hK => ?_)
      go_simp
      refine hK _ ?_
      clear hK K
      refine quiet_skip (by kernel_rfl) (fun K hK => ?_)
      go_simp
      refine hK _ ?_
      clear hK K
      refine quiet_skip (by kernel_rfl) (fun K hK => ?_)
      go_simp
      refine hK _ ?_
      clear hK K
      refine quiet_skip (by kernel_rfl) (fun K hK => ?_)
      go_simp
      refine hK _ ?_
      clear hK K
      refine quiet_skip (by kernel_rfl) (fun K hK => ?_)
      go_simp
      refine hK _ ?_
      clear hK K
      refine quiet_take (.bool true) (by kernel_rfl) (fun W hC => ?_) (fun K hK => ?_)
      · obtain ⟨c0, c1, c2, c3, c4, c5, c6, c7, c8, c9, c10, c11, c12, c13, c14, c15⟩ := cells16 hC.one hC.two
        go_simp
      go_simp
      refine hK _ ?_
      clear hK K
      refine quiet_take (.bool true) (by kernel_rfl) (fun W hC => ?_) (fun K hK => ?_)
      · obtain ⟨c0, c1, c2, c3, c4, c5, c6, c7, c8, c9, c10, c11, c12, c13, c14, c15⟩ := cells16 hC.one hC.two
        go_simp
      go_simp
      refine hK _ ?_
      clear hK K
      refine quiet_take (.bool true) (by kernel_rfl) (fun W hC => ?_) (fun K hK => ?_)
      · obtain ⟨c0, c1, c2, c3, c4, c5, c6, c7, c8, c9, c10, c11, c12, c13, c14, c15⟩ := cells16 hC.one hC.two
        go_simp
      go_simp
      refine hK _ ?_
      clear hK K
      refine ⟨wpQuiet_nil ?_⟩
      intro wq hq
      have HB : Hid (Below w.heap.size w wq) := hq.below
      clear hq
      go_wp2
      go_ret
      exact ⟨rfl, HB.out⟩
  · rw [HQA.out] at hqa
    cases hqa
    have hcn : (c != 0) = true := by rw [bne_iff_ne]; omega
    clear hcc HQA
    rcases outW_cases tb with ⟨nm2, n3, hwr, hwe⟩ | ⟨cd, hcd, hwe⟩
    · rw [HWE.out] at hwe
      obtain ⟨rfl, rfl, rfl⟩ : nm = nm2 ∧ n0 = n3 ∧ cw = 0 := by simpa using hwe
      have hnw := wt_size nm n0
      have hnm2 : nm.size ≤ 30 := by
        by_cases e : nm = ⟨#[]⟩
        · rw [e]; show 0 ≤ 30; omega
        · have := (word_named e hwr).1; omega
      obtain ⟨tu, htu⟩ : ∃ tu, tu = wtB nm n0 := ⟨_, rfl⟩
      have D5 : Hid (∀ W : World, Below w.heap.size w W → Calls Tryz.prog 8 #[.agg #[.string nm, .int .i64 n0]] W fun e w' => e = .returned (.string tu) ∧ Below W.heap.size W w') := fun W hW => by
        rw [htu]; exact implWordText_any nm n0 W (by unfold maxLen; omega) (HP.out W hW)
      have D6 : Hid (∀ W : World, Calls Tryz.prog 13 #[.string tu] W fun e w' => e = .returned (.agg #[.string nm, .int .i64 n0, .int .i64 0]) ∧ Below W.heap.size W w') := fun W => by
        have h := implWordRead_any tu W (by rw [htu]; unfold maxLen; omega)
        have e : outW tu = #[.string nm, .int .i64 n0, .int .i64 0] := by rw [htu]; exact wt_read hwr
        rw [e] at h
        exact h
      clear hwe hwr hnw hnm2 htu HWE
      refine wp_region_quiet (C := Two w BX BY (.cells #[(.string ⟨#[]⟩), (.bool false), (.int .i64 0), (.int .i64 0), (.int .i64 0), (.bool false), (.int .i64 0), (.int .i64 0), (.int .i64 0), (.bool false), (.int .i64 0), (.int .i64 0), (.int .i64 c)] 34 (0, 0)) (.cells #[(.string nm), (.int .i64 n0), (.int .i64 0)] 39 (0, 0))) (by kernel_rfl) (by kernel_rfl) (Two.drew ⟨HX.out, HY.out, HB.out⟩) ?_
      rw [List.toList_toArray]
      refine WQ.out ?_
      refine quiet_take (.agg #[(.string ⟨#[]⟩), (.bool false), (.int .i64 0), (.int .i64 0), (.int .i64 0), (.bool false), (.int .i64 0), (.int .i64 0), (.int .i64 0), (.bool false), (.int .i64 0), (.int .i64 0), (.int .i64 c)]) (by kernel_rfl) (fun W hC => ?_) (fun K hK => ?_)
      · obtain ⟨c0, c1, c2, c3, c4, c5, c6, c7, c8, c9, c10, c11, c12, c13, c14, c15⟩ := cells16 hC.one hC.two
        go_simp
      go_simp
      refine hK _ ?_
      clear hK K
      refine quiet_take (.string ta) (by kernel_rfl) (fun W hC => ?_) (fun K hK => ?_)
      · obtain ⟨c0, c1, c2, c3, c4, c5, c6, c7, c8, c9, c10, c11, c12, c13, c14, c15⟩ := cells16 hC.one hC.two
        go_simp
      go_simp
      refine hK _ ?_
      clear hK K
      refine quiet_take (.agg #[(.string ⟨#[]⟩), (.bool false), (.int .i64 0), (.int .i64 0), (.int .i64 0), (.bool false), (.int .i64 0), (.int .i64 0), (.int .i64 0), (.bool false), (.int .i64 0), (.int .i64 0), (.int .i64 c)]) (by kernel_rfl) (fun W hC => ?_) (fun K hK => ?_)
      · go_simp
        exact (D1.out W).mono (fun e w' h => ⟨h.1, hC.call h.2⟩)
      go_simp
      refine hK _ ?_
      clear hK K
      refine quiet_take (.bool true) (by kernel_rfl) (fun W hC => ?_) (fun K hK => ?_)
      · obtain ⟨c0, c1, c2, c3, c4, c5, c6, c7, c8, c9, c10, c11, c12, c13, c14, c15⟩ := cells16 hC.one hC.two
        go_simp
      go_simp
      refine hK _ ?_
      clear hK K
      refine quiet_take (.bool true) (by kernel_rfl) (fun W hC => ?_) (fun K hK => ?_)
      · obtain ⟨c0, c1, c2, c3, c4, c5, c6, c7, c8, c9, c10, c11, c12, c13, c14, c15⟩ := cells16 hC.one hC.two
        go_simp
      go_simp
      refine hK _ ?_
      clear hK K
      refine quiet_take (.agg #[(.string nm), (.int .i64 n0), (.int .i64 0)]) (by kernel_rfl) (fun W hC => ?_) (fun K hK => ?_)
      · obtain ⟨c0, c1, c2, c3, c4, c5, c6, c7, c8, c9, c10, c11, c12, c13, c14, c15⟩ := cells16 hC.one hC.two
        go_simp
      go_simp
      refine hK _ ?_
      clear hK K
      refine quiet_take (.string tb) (by kernel_rfl) (fun W hC => ?_) (fun K hK => ?_)
      · obtain ⟨c0, c1, c2, c3, c4, c5, c6, c7, c8, c9, c10, c11, c12, c13, c14, c15⟩ := cells16 hC.one hC.two
        go_simp
      go_simp
      refine hK _ ?_
      clear hK K
      refine quiet_take (.agg #[(.string nm), (.int .i64 n0), (.int .i64 0)]) (by kernel_rfl) (fun W hC => ?_) (fun K hK => ?_)
      · go_simp
        exact (D2.out W).mono (fun e w' h => ⟨h.1, hC.call h.2⟩)
      go_simp
      refine hK _ ?_
      clear hK K
      refine quiet_take (.bool true) (by kernel_rfl) (fun W hC => ?_) (fun K hK => ?_)
      · obtain ⟨c0, c1, c2, c3, c4, c5, c6, c7, c8, c9, c10, c11, c12, c13, c14, c15⟩ := cells16 hC.one hC.two
        go_simp
      go_simp
      refine hK _ ?_
      clear hK K
      refine quiet_take (.bool true) (by kernel_rfl) (fun W hC => ?_) (fun K hK => ?_)
      · obtain ⟨c0, c1, c2, c3, c4, c5, c6, c7, c8, c9, c10, c11, c12, c13, c14, c15⟩ := cells16 hC.one hC.two
        go_simp
      go_simp
      refine hK _ ?_
      clear hK K
      refine quiet_take (.bool true) (by kernel_rfl) (fun W hC => ?_) (fun K hK => ?_)
      · obtain ⟨c0, c1, c2, c3, c4, c5, c6, c7, c8, c9, c10, c11, c12, c13, c14, c15⟩ := cells16 hC.one hC.two
        go_simp
      go_simp
      refine hK _ ?_
      clear hK K
      refine quiet_take (.pointer (some ⟨BX, 12, none⟩)) (by kernel_rfl) (fun W hC => ?_) (fun K hK => ?_)
      · obtain ⟨c0, c1, c2, c3, c4, c5, c6, c7, c8, c9, c10, c11, c12, c13, c14, c15⟩ := cells16 hC.one hC.two
        go_simp
      go_simp
      refine hK _ ?_
      clear hK K
      refine quiet_take (.int .i64 c) (by kernel_rfl) (fun W hC => ?_) (fun K hK => ?_)
      · obtain ⟨c0, c1, c2, c3, c4, c5, c6, c7, c8, c9, c10, c11, c12, c13, c14, c15⟩ := cells16 hC.one hC.two
        go_simp
      go_simp
      refine hK _ ?_
      clear hK K
      refine quiet_take (.bool true) (by kernel_rfl) (fun W hC => ?_) (fun K hK => ?_)
      · obtain ⟨c0, c1, c2, c3, c4, c5, c6, c7, c8, c9, c10, c11, c12, c13, c14, c15⟩ := cells16 hC.one hC.two
        go_simp
      go_simp
      refine hK _ ?_
      clear hK K
      refine quiet_take (.bool true) (by kernel_rfl) (fun W hC => ?_) (fun K hK => ?_)
      · obtain ⟨c0, c1, c2, c3, c4, c5, c6, c7, c8, c9, c10, c11, c12, c13, c14, c15⟩ := cells16 hC.one hC.two
        go_simp
      go_simp
      refine hK _ ?_
      clear hK K
      refine quiet_skip (by kernel_rfl) (fun K hK => ?_)
      go_simp
      refine hK _ ?_
      clear hK K
      refine quiet_skip (by kernel_rfl) (fun K hK => ?_)
      go_simp
      refine hK _ ?_
      clear hK K
      refine quiet_skip (by kernel_rfl) (fun K hK => ?_)
      go_simp
      refine hK _ ?_
      clear hK K
      refine quiet_skip (by kernel_rfl) (fun K hK => ?_)
      go_simp
      refine hK _ ?_
      clear hK K
      refine quiet_skip (by kernel_rfl) (fun K hK => ?_)
      go_simp
      refine hK _ ?_
      clear hK K
      refine quiet_skip (by kernel_rfl) (fun K hK => ?_)
      go_simp
      refine hK _ ?_
      clear hK K
      refine quiet_take (.bool true) (by kernel_rfl) (fun W hC => ?_) (fun K hK => ?_)
      · obtain ⟨c0, c1, c2, c3, c4, c5, c6, c7, c8, c9, c10, c11, c12, c13, c14, c15⟩ := cells16 hC.one hC.two
        go_simp
      go_simp
      refine hK _ ?_
      clear hK K
      refine quiet_take (.bool true) (by kernel_rfl) (fun W hC => ?_) (fun K hK => ?_)
      · obtain ⟨c0, c1, c2, c3, c4, c5, c6, c7, c8, c9, c10, c11, c12, c13, c14, c15⟩ := cells16 hC.one hC.two
        go_simp
      go_simp
      refine hK _ ?_
      clear hK K
      refine quiet_take (.bool true) (by kernel_rfl) (fun W hC => ?_) (fun K hK => ?_)
      · obtain ⟨c0, c1, c2, c3, c4, c5, c6, c7, c8, c9, c10, c11, c12, c13, c14, c15⟩ := cells16 hC.one hC.two
        go_simp
      go_simp
      refine hK _ ?_
      clear hK K
      refine quiet_take (.pointer (some ⟨BY, 2, none⟩)) (by kernel_rfl) (fun W hC => ?_) (fun K hK => ?_)
      · obtain ⟨c0, c1, c2, c3, c4, c5, c6, c7, c8, c9, c10, c11, c12, c13, c14, c15⟩ := cells16 hC.one hC.two
        go_simp
      go_simp
      refine hK _ ?_
      clear hK K
      refine quiet_take (.int .i64 0) (by kernel_rfl) (fun W hC => ?_) (fun K hK => ?_)
      · obtain ⟨c0, c1, c2, c3, c4, c5, c6, c7, c8, c9, c10, c11, c12, c13, c14, c15⟩ := cells16 hC.one hC.two
        go_simp
      go_simp
      refine hK _ ?_
      clear hK K
      refine quiet_take (.bool false) (by kernel_rfl) (fun W hC => ?_) (fun K hK => ?_)
      · obtain ⟨c0, c1, c2, c3, c4, c5, c6, c7, c8, c9, c10, c11, c12, c13, c14, c15⟩ := cells16 hC.one hC.two
        go_simp
      go_simp
      refine hK _ ?_
      clear hK K
      refine quiet_take (.bool false) (by kernel_rfl) (fun W hC => ?_) (fun K hK => ?_)
      · obtain ⟨c0, c1, c2, c3, c4, c5, c6, c7, c8, c9, c10, c11, c12, c13, c14, c15⟩ := cells16 hC.one hC.two
        go_simp
      go_simp
      refine hK _ ?_
      clear hK K
      refine quiet_take (.pointer (some ⟨BY, 0, none⟩)) (by kernel_rfl) (fun W hC => ?_) (fun K hK => ?_)
      · obtain ⟨c0, c1, c2, c3, c4, c5, c6, c7, c8, c9, c10, c11, c12, c13, c14, c15⟩ := cells16 hC.one hC.two
        go_simp
      go_simp
      refine hK _ ?_
      clear hK K
      refine quiet_take (.agg #[(.string nm), (.int .i64 n0)]) (by kernel_rfl) (fun W hC => ?_) (fun K hK => ?_)
      · obtain ⟨c0, c1, c2, c3, c4, c5, c6, c7, c8, c9, c10, c11, c12, c13, c14, c15⟩ := cells16 hC.one hC.two
        go_simp
      go_simp
      refine hK _ ?_
      clear hK K
      refine quiet_take (.string tu) (by kernel_rfl) (fun W hC => ?_) (fun K hK => ?_)
      · go_simp
        exact (D5.out W hC.below).mono (fun e w' h => ⟨h.1, hC.call h.2⟩)
      go_simp
      refine hK _ ?_
      clear hK K
      refine quiet_take (.agg #[(.string nm), (.int .i64 n0), (.int .i64 0)]) (by kernel_rfl) (fun W hC => ?_) (fun K hK => ?_)
      · go_simp
        exact (D6.out W).mono (fun e w' h => ⟨h.1, hC.call h.2⟩)
      go_simp
      refine hK _ ?_
      clear hK K
      refine quiet_take (.agg #[(.string nm), (.int .i64 n0), (.int .i64 0)]) (by kernel_rfl) (fun W hC => ?_) (fun K hK => ?_)
      · obtain ⟨c0, c1, c2, c3, c4, c5, c6, c7, c8, c9, c10, c11, c12, c13, c14, c15⟩ := cells16 hC.one hC.two
        go_simp
      go_simp
      refine hK _ ?_
      clear hK K
      refine quiet_take (.bool true) (by kernel_rfl) (fun W hC => ?_) (fun K hK => ?_)
      · obtain ⟨c0, c1, c2, c3, c4, c5, c6, c7, c8, c9, c10, c11, c12, c13, c14, c15⟩ := cells16 hC.one hC.two
        go_simp
      go_simp
      refine hK _ ?_
      clear hK K
      refine quiet_take (.bool true) (by kernel_rfl) (fun W hC => ?_) (fun K hK => ?_)
      · obtain ⟨c0, c1, c2, c3, c4, c5, c6, c7, c8, c9, c10, c11, c12, c13, c14, c15⟩ := cells16 hC.one hC.two
        go_simp
      go_simp
      refine hK _ ?_
      clear hK K
      refine quiet_take (.bool true) (by kernel_rfl) (fun W hC => ?_) (fun K hK => ?_)
      · obtain ⟨c0, c1, c2, c3, c4, c5, c6, c7, c8, c9, c10, c11, c12, c13, c14, c15⟩ := cells16 hC.one hC.two
        go_simp
      go_simp
      refine hK _ ?_
      clear hK K
      refine quiet_take (.bool true) (by kernel_rfl) (fun W hC => ?_) (fun K hK => ?_)
      · obtain ⟨c0, c1, c2, c3, c4, c5, c6, c7, c8, c9, c10, c11, c12, c13, c14, c15⟩ := cells16 hC.one hC.two
        go_simp
      go_simp
      refine hK _ ?_
      clear hK K
      refine ⟨wpQuiet_nil ?_⟩
      intro wq hq
      have HB : Hid (Below w.heap.size w wq) := hq.below
      clear hq
      go_wp2
      go_ret
      exact ⟨rfl, HB.out⟩
    · rw [HWE.out] at hwe
      obtain ⟨rfl, rfl, rfl⟩ : nm = ⟨#[]⟩ ∧ n0 = 0 ∧ cw = cd := by simpa using hwe
      have hdn : (cw != 0) = true := by rw [bne_iff_ne]; omega
      clear hwe hcd HWE
      refine wp_region_quiet (C := Two w BX BY (.cells #[(.string ⟨#[]⟩), (.bool false), (.int .i64 0), (.int .i64 0), (.int .i64 0), (.bool false), (.int .i64 0), (.int .i64 0), (.int .i64 0), (.bool false), (.int .i64 0), (.int .i64 0), (.int .i64 c)] 34 (0, 0)) (.cells #[(.string ⟨#[]⟩), (.int .i64 0), (.int .i64 cw)] 39 (0, 0))) (by kernel_rfl) (by kernel_rfl) (Two.drew ⟨HX.out, HY.out, HB.out⟩) ?_
      rw [List.toList_toArray]
      refine WQ.out ?_
      refine quiet_take (.agg #[(.string ⟨#[]⟩), (.bool false), (.int .i64 0), (.int .i64 0), (.int .i64 0), (.bool false), (.int .i64 0), (.int .i64 0), (.int .i64 0), (.bool false), (.int .i64 0), (.int .i64 0), (.int .i64 c)]) (by kernel_rfl) (fun W hC => ?_) (fun K hK => ?_)
      · obtain ⟨c0, c1, c2, c3, c4, c5, c6, c7, c8, c9, c10, c11, c12, c13, c14, c15⟩ := cells16 hC.one hC.two
        go_simp
      go_simp
      refine hK _ ?_
      clear hK K
      refine quiet_take (.string ta) (by kernel_rfl) (fun W hC => ?_) (fun K hK => ?_)
      · obtain ⟨c0, c1, c2, c3, c4, c5, c6, c7, c8, c9, c10, c11, c12, c13, c14, c15⟩ := cells16 hC.one hC.two
        go_simp
      go_simp
      refine hK _ ?_
      clear hK K
      refine quiet_take (.agg #[(.string ⟨#[]⟩), (.bool false), (.int .i64 0), (.int .i64 0), (.int .i64 0), (.bool false), (.int .i64 0), (.int .i64 0), (.int .i64 0), (.bool false), (.int .i64 0), (.int .i64 0), (.int .i64 c)]) (by kernel_rfl) (fun W hC => ?_) (fun K hK => ?_)
      · go_simp
        exact (D1.out W).mono (fun e w' h => ⟨h.1, hC.call h.2⟩)
      go_simp
      refine hK _ ?_
      clear hK K
      refine quiet_take (.bool true) (by kernel_rfl) (fun W hC => ?_) (fun K hK => ?_)
      · obtain ⟨c0, c1, c2, c3, c4, c5, c6, c7, c8, c9, c10, c11, c12, c13, c14, c15⟩ := cells16 hC.one hC.two
        go_simp
      go_simp
      refine hK _ ?_
      clear hK K
      refine quiet_take (.bool true) (by kernel_rfl) (fun W hC => ?_) (fun K hK => ?_)
      · obtain ⟨c0, c1, c2, c3, c4, c5, c6, c7, c8, c9, c10, c11, c12, c13, c14, c15⟩ := cells16 hC.one hC.two
        go_simp
      go_simp
      refine hK _ ?_
      clear hK K
      refine quiet_take (.agg #[(.string ⟨#[]⟩), (.int .i64 0), (.int .i64 cw)]) (by kernel_rfl) (fun W hC => ?_) (fun K hK => ?_)
      · obtain ⟨c0, c1, c2, c3, c4, c5, c6, c7, c8, c9, c10, c11, c12, c13, c14, c15⟩ := cells16 hC.one hC.two
        go_simp
      go_simp
      refine hK _ ?_
      clear hK K
      refine quiet_take (.string tb) (by kernel_rfl) (fun W hC => ?_) (fun K hK => ?_)
      · obtain ⟨c0, c1, c2, c3, c4, c5, c6, c7, c8, c9, c10, c11, c12, c13, c14, c15⟩ := cells16 hC.one hC.two
        go_simp
      go_simp
      refine hK _ ?_
      clear hK K
      refine quiet_take (.agg #[(.string ⟨#[]⟩), (.int .i64 0), (.int .i64 cw)]) (by kernel_rfl) (fun W hC => ?_) (fun K hK => ?_)
      · go_simp
        exact (D2.out W).mono (fun e w' h => ⟨h.1, hC.call h.2⟩)
      go_simp
      refine hK _ ?_
      clear hK K
      refine quiet_take (.bool true) (by kernel_rfl) (fun W hC => ?_) (fun K hK => ?_)
      · obtain ⟨c0, c1, c2, c3, c4, c5, c6, c7, c8, c9, c10, c11, c12, c13, c14, c15⟩ := cells16 hC.one hC.two
        go_simp
      go_simp
      refine hK _ ?_
      clear hK K
      refine quiet_take (.bool true) (by kernel_rfl) (fun W hC => ?_) (fun K hK => ?_)
      · obtain ⟨c0, c1, c2, c3, c4, c5, c6, c7, c8, c9, c10, c11, c12, c13, c14, c15⟩ := cells16 hC.one hC.two
        go_simp
      go_simp
      refine hK _ ?_
      clear hK K
      refine quiet_take (.bool true) (by kernel_rfl) (fun W hC => ?_) (fun K hK => ?_)
      · obtain ⟨c0, c1, c2, c3, c4, c5, c6, c7, c8, c9, c10, c11, c12, c13, c14, c15⟩ := cells16 hC.one hC.two
        go_simp
      go_simp
      refine hK _ ?_
      clear hK K
      refine quiet_take (.pointer (some ⟨BX, 12, none⟩)) (by kernel_rfl) (fun W hC => ?_) (fun K hK => ?_)
      · obtain ⟨c0, c1, c2, c3, c4, c5, c6, c7, c8, c9, c10, c11, c12, c13, c14, c15⟩ := cells16 hC.one hC.two
        go_simp
      go_simp
      refine hK _ ?_
      clear hK K
      refine quiet_take (.int .i64 c) (by kernel_rfl) (fun W hC => ?_) (fun K hK => ?_)
      · obtain ⟨c0, c1, c2, c3, c4, c5, c6, c7, c8, c9, c10, c11, c12, c13, c14, c15⟩ := cells16 hC.one hC.two
        go_simp
      go_simp
      refine hK _ ?_
      clear hK K
      refine quiet_take (.bool true) (by kernel_rfl) (fun W hC => ?_) (fun K hK => ?_)
      · obtain ⟨c0, c1, c2, c3, c4, c5, c6, c7, c8, c9, c10, c11, c12, c13, c14, c15⟩ := cells16 hC.one hC.two
        go_simp
      go_simp
      refine hK _ ?_
      clear hK K
      refine quiet_take (.bool true) (by kernel_rfl) (fun W hC => ?_) (fun K hK => ?_)
      · obtain ⟨c0, c1, c2, c3, c4, c5, c6, c7, c8, c9, c10, c11, c12, c13, c14, c15⟩ := cells16 hC.one hC.two
        go_simp
      go_simp
      refine hK _ ?_
      clear hK K
      refine quiet_skip (by kernel_rfl) (fun K hK => ?_)
      go_simp
      refine hK _ ?_
      clear hK K
      refine quiet_skip (by kernel_rfl) (fun K hK => ?_)
      go_simp
      refine hK _ ?_
      clear hK K
      refine quiet_skip (by kernel_rfl) (fun K hK => ?_)
      go_simp
      refine hK _ ?_
      clear hK K
      refine quiet_skip (by kernel_rfl) (fun K hK => ?_)
      go_simp
      refine hK _ ?_
      clear hK K
      refine quiet_skip (by kernel_rfl) (fun K hK => ?_)
      go_simp
      refine hK _ ?_
      clear hK K
      refine quiet_skip (by kernel_rfl) (fun K hK => ?_)
      go_simp
      refine hK _ ?_
      clear hK K
      refine quiet_take (.bool true) (by kernel_rfl) (fun W hC => ?_) (fun K hK => ?_)
      · obtain ⟨c0, c1, c2, c3, c4, c5, c6, c7, c8, c9, c10, c11, c12, c13, c14, c15⟩ := cells16 hC.one hC.two
        go_simp
      go_simp
      refine hK _ ?_
      clear hK K
      refine quiet_take (.bool true) (by kernel_rfl) (fun W hC => ?_) (fun K hK => ?_)
      · obtain ⟨c0, c1, c2, c3, c4, c5, c6, c7, c8, c9, c10, c11, c12, c13, c14, c15⟩ := cells16 hC.one hC.two
        go_simp
      go_simp
      refine hK _ ?_
      clear hK K
      refine quiet_take (.bool true) (by kernel_rfl) (fun W hC => ?_) (fun K hK => ?_)
      · obtain ⟨c0, c1, c2, c3, c4, c5, c6, c7, c8, c9, c10, c11, c12, c13, c14, c15⟩ := cells16 hC.one hC.two
        go_simp
      go_simp
      refine hK _ ?_
      clear hK K
      refine quiet_take (.pointer (some ⟨BY, 2, none⟩)) (by kernel_rfl) (fun W hC => ?_) (fun K hK => ?_)
      · obtain ⟨c0, c1, c2, c3, c4, c5, c6, c7, c8, c9, c10, c11, c12, c13, c14, c15⟩ := cells16 hC.one hC.two
        go_simp
      go_simp
      refine hK _ ?_
      clear hK K
      refine quiet_take (.int .i64 cw) (by kernel_rfl) (fun W hC => ?_) (fun K hK => ?_)
      · obtain ⟨c0, c1, c2, c3, c4, c5, c6, c7, c8, c9, c10, c11, c12, c13, c14, c15⟩ := cells16 hC.one hC.two
        go_simp
      go_simp
      refine hK _ ?_
      clear hK K
      refine quiet_take (.bool true) (by kernel_rfl) (fun W hC => ?_) (fun K hK => ?_)
      · obtain ⟨c0, c1, c2, c3, c4, c5, c6, c7, c8, c9, c10, c11, c12, c13, c14, c15⟩ := cells16 hC.one hC.two
        go_simp
      go_simp
      refine hK _ ?_
      clear hK K
      refine quiet_take (.bool true) (by kernel_rfl) (fun W hC => ?_) (fun K hK => ?_)
      · obtain ⟨c0, c1, c2, c3, c4, c5, c6, c7, c8, c9, c10, c11, c12, c13, c14, c15⟩ := cells16 hC.one hC.two
        go_simp
      go_simp
      refine hK _ ?_
      clear hK K
      refine quiet_skip (by kernel_rfl) (fun K hK => ?_)
      go_simp
      refine hK _ ?_
      clear hK K
      refine quiet_skip (by kernel_rfl) (fun K hK => ?_)
      go_simp
      refine hK _ ?_
      clear hK K
      refine quiet_skip (by kernel_rfl) (fun K hK => ?_)
      go_simp
      refine hK _ ?_
      clear hK K
      refine quiet_skip (by kernel_rfl) (fun K hK => ?_)
      go_simp
      refine hK _ ?_
      clear hK K
      refine quiet_skip (by kernel_rfl) (fun K hK => ?_)
      go_simp
      refine hK _ ?_
      clear hK K
      refine quiet_skip (by kernel_rfl) (fun K hK => ?_)
      go_simp
      refine hK _ ?_
      clear hK K
      refine quiet_take (.bool true) (by kernel_rfl) (fun W hC => ?_) (fun K hK => ?_)
      · obtain ⟨c0, c1, c2, c3, c4, c5, c6, c7, c8, c9, c10, c11, c12, c13, c14, c15⟩ := cells16 hC.one hC.two
        go_simp
      go_simp
      refine hK _ ?_
      clear hK K
      refine quiet_take (.bool true) (by kernel_rfl) (fun W hC => ?_) (fun K hK => ?_)
      · obtain ⟨c0, c1, c2, c3, c4, c5, c6, c7, c8, c9, c10, c11, c12, c13, c14, c15⟩ := cells16 hC.one hC.two
        go_simp
      go_simp
      refine hK _ ?_
      clear hK K
      refine quiet_take (.bool true) (by kernel_rfl) (fun W hC => ?_) (fun K hK => ?_)
      · obtain ⟨c0, c1, c2, c3, c4, c5, c6, c7, c8, c9, c10, c11, c12, c13, c14, c15⟩ := cells16 hC.one hC.two
        go_simp
      go_simp
      refine hK _ ?_
      clear hK K
      refine ⟨wpQuiet_nil ?_⟩
      intro wq hq
      have HB : Hid (Below w.heap.size w wq) := hq.below
      clear hq
      go_wp2
      go_ret
      exact ⟨rfl, HB.out⟩
end Go.Proofs.YtodjccipfonaiaaGreatDoor
