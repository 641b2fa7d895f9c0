/- Taking apart, the program's side: Listing. -/
import Derived.Test.YtknielpkmablkaaDoorRows
import Derived.RangeFuncNested
import Derived.RangeFuncBound
import Derived.RangeFuncCalls
import Derived.RangeFuncLeaves
import Derived.RangeFuncBox
import Derived.Lib.BufStepsIn
import Derived.Maps.AppendAt
import Derived.Shelf.Abstract
import Derived.Shelf.RegionOpen
import Derived.WalkKit
import Derived.OwnWalkIn
import Derived.TacticsInMore
import Derived.LoopNIn
import Derived.LoopIn
import Derived.WalkSpells
import Derived.WalkLawsBesides
import Derived.Test.YtknielpkmablkaaDoorBun0
import Derived.Test.YtknielpkmablkaaDoorBun27
import Derived.Test.YtknielpkmablkaaDoorBun1
import Derived.Test.YtknielpkmablkaaDoorBun44
import Derived.Test.YtknielpkmablkaaDoorDisSX
import Derived.Test.YtknielpkmablkaaDoorDisLX
import Derived.Test.YtknielpkmablkaaDoorDisTX
import Derived.Test.YtknielpkmablkaaDoorDisQX
namespace Go.Proofs.YtknielpkmablkaaDoor
open Go.RowKit Go.Shelf
attribute [local go_sem] Oper.semAt_some
set_option linter.unusedVariables false

abbrev RowS : Type := { r : rowE // r.2.size ≤ 60 }
def rowsOf (xs : List RowS) : List rowE := xs.map (·.1)
theorem rowsOf_more (xs : List RowS) (x : RowS) : rowsOf (xs ++ [x]) = rowsOf xs ++ [x.1] := by simp [rowsOf]
theorem eachRow_stops (n : Nat) (hn : 1 ≤ n) (Bw Bb cap : Nat) (a : Option Addr) (L : List Int) (base : Int) (w0 : World) (hR : ReadI w0 a L) (hT : Tabs w0) (hP : Pow w0) (hl : L.length ≤ 2000000) (hcap : L.length ≤ cap) (w : World) (hW : Below w0.heap.size w0 w) (hBw : Bw < w.heap.size) (hBb : Bb < w.heap.size) (hcw : w.cell? ⟨Bw, 0, none⟩ = some (.slice a L.length cap)) (hcb : w.cell? ⟨Bb, 0, none⟩ = some (.int .i64 base)) :
    SeqStopsK Fence.wide n Tryd.prog 27 #[.pointer (some ⟨Bw, 0, none⟩), .pointer (some ⟨Bb, 0, none⟩)] (fun x : RowS => #[.agg #[.int .i64 x.1.1, .string x.1.2]]) (Below w0.heap.size) (fun xs => DisRes base L (rowsOf xs)) (fun pre => DisPre base L (rowsOf pre)) 400 w := fun l J Jx W hW2 hJ hJx hY h0 => by
  refine (eachRow1_in n hn l Bw Bb cap a L base w0 hR hT hP hl hcap W.heap.size (fun pre W => ∃ ps, rowsOf ps = pre ∧ J ps W) (fun pre W => ∃ ps, rowsOf ps = pre ∧ Jx ps W) ?_ ?_ W (hW.trans (hW2.mono hW.size)) ((hW2.cell (p := ⟨Bw, 0, none⟩) hBw).trans hcw) ((hW2.cell (p := ⟨Bb, 0, none⟩) hBb).trans hcb) ⟨[], rfl, h0⟩).mono ?_
  · rintro pre X Y row ⟨ps, e, h⟩ hg hrow
    exact ⟨ps, e, hJ ps X Y row h hg hrow⟩
  · rintro pre x X ⟨ps, rfl, h⟩ hlen hx
    refine (hY ps ⟨x, hx⟩ X h (by simpa [rowsOf] using hlen)).mono ?_
    rintro e W' (⟨he, hj, hk⟩ | ⟨he, hj⟩)
    · exact .inl ⟨he, ⟨_, rowsOf_more ps ⟨x, hx⟩, hj⟩, hk⟩
    · exact .inr ⟨he, _, rowsOf_more ps ⟨x, hx⟩, hj⟩
  · rintro e W' ⟨hv, ⟨ys, hd, ps, rfl, hj⟩ | ⟨pre, hd, ps, rfl, hj⟩⟩
    · exact ⟨hv, .inl ⟨ps, hd, hj⟩⟩
    · exact ⟨hv, .inr ⟨ps, hd, hj⟩⟩
theorem ownsB_form {w : World} {B e size k : Nat} {v : Value} {xs : List Value} (h : w.ownsRow B e size v k xs) : ∃ q m c, v = .slice q m c := by
  rcases h.2 with ⟨rfl, _⟩ | ⟨g, cap, cur, rfl, _⟩
  · exact ⟨_, _, _, rfl⟩
  · exact ⟨_, _, _, rfl⟩
theorem rowsInto {F : Fence} {n : Nat} (w : World) {ops : Array Oper} {rest : List Oper} {o : Oper} {a : Act} {Q : Exit → Act → World → Prop} (hgd : o.guard = none) (sl x : Operand)
    (ho : o.op = .call { callee := .builtin .append, args := #[sl, x], argTypes := #[40, 9] })
    (base : Nat) (v : Value) (k : Nat) (xs : List Value) (hs : a.eval sl = v) (hown : w.ownsRow base 5 1 v k xs) (s : ByteArray) (hx : a.eval x = .string s) (h47 : k + s.size ≤ 1000000) (hbase : base ≤ w.heap.size)
    (h : ∀ v' w', w'.ownsRow base 5 1 v' (k + s.size) (xs ++ Lib.strCells s) → w.grownBy w' v.ownBlock → wpListIn F n Tryd.prog ops Q rest (a.put o.dst v') w') : wpListIn F n Tryd.prog ops Q (o :: rest) a w := by
  obtain ⟨i0, hi, hz0, hz1, hz2⟩ := info_parts info5
  obtain ⟨v', w', hr, r1, r2, _⟩ := Lib.run_append_own_string (P := Tryd.prog) w base 40 9 o.type 5 i0 Tryd.underlying40 Tryd.underlying9 hi hz0 hz1 hz2 v k xs hown s (by unfold maxLen; omega) (by omega) hbase
  refine wpListIn_plain hgd fun K hK => ⟨by simp [Oper.about, ho, resolve, Target.leads, Sem.run_pure], ?_⟩
  rw [Oper.semAt_plain F _ _ (by rw [ho]; intro c hc; cases hc)]
  simp [execOp, ho, resolve, invoke, builtin, hs, hx, hr, Result.andThen]
  exact hK _ _ (h v' w' r1 r2)
theorem conv_own {W : World} {B : Nat} {v : Value} {L : List UInt8} (h : W.ownsRow B 5 1 v L.length (cellsU L)) : (convert 40 9 v).run Tryd.prog W = .ok (.string ⟨L.toArray⟩) W := by
  rcases h.2 with ⟨rfl, h0⟩ | ⟨g, cap, cur, rfl, _, hg, _, _, _, hT⟩
  · obtain rfl : L = [] := List.eq_nil_of_length_eq_zero h0
    simp [convert, run_underlying Tryd.underlying40, run_underlying Tryd.underlying9, run_underlying Tryd.underlying5]
    rfl
  · exact conv_row W g L.length cap 5 cur.toList L (by simpa using hg) rfl (by simpa using hT)
theorem listL_step (pre : List RowS) (x : RowS) : (listL (rowsOf (pre ++ [x]))).length = (listL (rowsOf pre)).length + x.1.2.size + 1 ∧ cellsU (listL (rowsOf (pre ++ [x]))) = cellsU (listL (rowsOf pre)) ++ Lib.strCells x.1.2 ++ [.int .u8 10] := by
  rw [rowsOf_more, listL_more]
  constructor
  · simp
    omega
  · simp [cellsU, Lib.strCells]
theorem own_cells {W : World} {n₀ e size k : Nat} {v : Value} {xs : List Value} (h : W.ownsRow n₀ e size v k xs) : (∀ (j : Nat) (o : Obj), v.ownBlock = some j → W.heap[j]? = some o → o.isCells = true) ∧ ∀ j, v.ownBlock = some j → n₀ ≤ j := by
  rcases h.2 with ⟨rfl, _⟩ | ⟨g, cap, cur, rfl, hb, hgb, _⟩
  · exact ⟨fun j o e => by simp [Value.ownBlock] at e, fun j e => by simp [Value.ownBlock] at e⟩
  · refine ⟨fun j o e hj => ?_, fun j e => ?_⟩
    · obtain rfl : g = j := by simpa [Value.ownBlock] using e
      rw [hgb] at hj
      cases hj
      rfl
    · obtain rfl : g = j := by simpa [Value.ownBlock] using e
      exact hb
theorem boxed_texted {W w1 : World} {n₀ B t e size k m : Nat} {v v2 : Value} {xs ys : List Value} (hv : Boxed W B t v) (hte : t ≠ e) (hrow : W.ownsRow n₀ e size v k xs) (hn : n₀ ≤ W.heap.size) (hB : n₀ ≤ B) (hown : w1.ownsRow n₀ e size v2 m ys) (hg : W.grownBy w1 v.ownBlock) :
    (w1.setCell ⟨B, 0, none⟩ v2).ownsRow n₀ e size v2 m ys ∧ KeepsOthers W (w1.setCell ⟨B, 0, none⟩ v2) ∧ Below n₀ W (w1.setCell ⟨B, 0, none⟩ v2) ∧ n₀ ≤ (w1.setCell ⟨B, 0, none⟩ v2).heap.size := by
  have hv1 := hv.kept hg (hv.not_row hte hrow)
  refine ⟨hown.kept (grownBy_setCell' w1 B v2) (.inr (hv1.not_row hte hown).symm), (KeepsOthers.of_grownBy hg (own_cells hrow).1).trans (KeepsOthers.setCell _ _ _), ((Below.refl n₀ W).grown hg hn (own_cells hrow).2).setCell (p := ⟨B, 0, none⟩) hB v2, ?_⟩
  rw [set_size]
  exact Nat.le_trans hn hg.size
def LI (n₀ : Nat) (w : World) (pre : List RowS) (W : World) : Prop :=
  ((∃ v, Boxed W (n₀ + 1) 40 v ∧ W.ownsRow n₀ 5 1 v (listL (rowsOf pre)).length (cellsU (listL (rowsOf pre))) ∧ True) ∧ (Boxed W n₀ 9 (.string ⟨#[]⟩) ∧ (listL (rowsOf pre)).length ≤ 4000)) ∧ Below n₀ w W
def LX (n₀ : Nat) (w : World) (c : Code) (pre : List RowS) (W : World) : Prop :=
  ((c = .ret ∧ 4000 < (listL (rowsOf pre)).length) ∧ Boxed W n₀ 9 (.string ⟨#[]⟩)) ∧ Below n₀ w W
set_option maxRecDepth 100000 in
set_option maxHeartbeats 3200000 in
theorem implListing_any (p : Option Addr) (L : List Int) (cap : Nat) (base : Int) (w : World) (hR : ReadI w p L) (hT : Tabs w) (hP : Pow w) (hl : L.length ≤ 2000000) (hcap : L.length ≤ cap) :
    Calls Tryd.prog 14 #[.slice p L.length cap, .int .i64 base] w fun e w' => ∃ rs, DisRes base L rs ∧ e = .returned (.string (listT rs)) ∧ Below w.heap.size w w' := by
  have HR : Hid (ReadI w p L) := hR
  have HT : Hid (Tabs w) := hT
  have HP : Hid (Pow w) := hP
  clear hR hT hP
  refine (callsIn_wide (n := 3)).1 ?_
  refine callsIn_of_wp_marks Tryd.func14 rfl trivial ?_ rfl
  simp only [Tryd.ntmps14, List.size_toArray, List.length_cons, List.length_nil, Nat.reduceAdd, Nat.reduceSub, Array.replicate_succ, Array.replicate_zero, List.push_toArray, List.append_toArray, List.nil_append, List.cons_append]
  gi_wp2_with fail
  refine ⟨trivial, (callsIn_wide.2 (eachRow_any p L.length cap base _)).mono ?_⟩
  rintro e w' ⟨rfl, rfl⟩
  gi_wp2
  obtain ⟨W0, hW0⟩ : ∃ W0, ((((w.alloc (.cells #[.string ⟨#[]⟩] 9)).alloc (.cells #[.slice none 0 0] 40)).alloc (.cells #[.slice p L.length cap] 22)).alloc (.cells #[.int .i64 base] 2)) = W0 := ⟨_, rfl⟩
  have hsz : W0.heap.size = w.heap.size + 1 + 1 + 1 + 1 := by rw [← hW0]; simp
  have hB0 : Below w.heap.size w W0 := by rw [← hW0]; exact below_more (below_more (below_more (below_new _ _) _) _) _
  have bR : Boxed W0 w.heap.size 9 (.string ⟨#[]⟩) := by rw [← hW0]; exact (((Boxed.new w _ _).alloc _).alloc _).alloc _
  have bL : Boxed W0 (w.heap.size + 1) 40 (.slice none 0 0) := by
    rw [← hW0]
    have h := Boxed.new (w.alloc (.cells #[.string ⟨#[]⟩] 9)) 40 (.slice none 0 0)
    rw [World.size_alloc] at h
    exact (h.alloc _).alloc _
  have bW : Boxed W0 (w.heap.size + 1 + 1) 22 (.slice p L.length cap) := by
    rw [← hW0]
    have h := Boxed.new ((w.alloc (.cells #[.string ⟨#[]⟩] 9)).alloc (.cells #[.slice none 0 0] 40)) 22 (.slice p L.length cap)
    rw [World.size_alloc, World.size_alloc] at h
    exact h.alloc _
  have bB : Boxed W0 (w.heap.size + 1 + 1 + 1) 2 (.int .i64 base) := by
    rw [← hW0]
    have h := Boxed.new (((w.alloc (.cells #[.string ⟨#[]⟩] 9)).alloc (.cells #[.slice none 0 0] 40)).alloc (.cells #[.slice p L.length cap] 22)) 2 (.int .i64 base)
    rw [World.size_alloc, World.size_alloc, World.size_alloc] at h
    exact h
  rw [hW0]
  clear hW0
  refine wpIn_rangeFunc_ownH rfl (by omega) (gf := 27) (lb := #[.pointer (some ⟨w.heap.size + 1 + 1, 0, none⟩), .pointer (some ⟨w.heap.size + 1 + 1 + 1, 0, none⟩)]) rfl trivial (enters_of Tryd.func27 (by kernel_rfl) rfl)
    (eachRow_stops (3 - 1) (by omega) (w.heap.size + 1 + 1) (w.heap.size + 1 + 1 + 1) cap p L base w HR.out HT.out HP.out hl hcap W0 hB0 (by omega) (by omega) bW.cell bB.cell) belowK_t (belowK_b (by omega)) (Below.refl _ _) (fun _ => rfl)
    (LI w.heap.size w) (LX w.heap.size w)
    (OwnFrom.and (OwnFrom.and (Own.from (holdsRow_own _ _ _ _ _ _ _ (fun _ _ => True)) _) (OwnFrom.and (Own.from (boxed_own _ _ _) _) (ownFrom_pure _ _))) (ownFrom_below (Nat.le_refl _) (by omega)))
    (fun c => OwnFrom.and (OwnFrom.and (ownFrom_pure _ _) (Own.from (boxed_own _ _ _) _)) (ownFrom_below (Nat.le_refl _) (by omega)))
    ⟨⟨⟨_, bL, World.ownsRow_nil _ _ _ _, trivial⟩, bR, by simp [rowsOf, listL]⟩, hB0⟩
    (fun x a' W => ∃ Bx, w.heap.size + 1 < Bx ∧ W.heap[Bx]? = some (.cells #[.int .i64 x.1.1, .string x.1.2] 34 (0, 0)) ∧ a' = { tmps := #[.slice p L.length cap, .int .i64 base, undef, undef, .pointer (some ⟨w.heap.size, 0, none⟩), .pointer (some ⟨w.heap.size + 1, 0, none⟩), .pointer (some ⟨Bx, 0, none⟩), .slice p L.length cap, .int .i64 base, .func (.func 27) #[] #[.pointer (some ⟨w.heap.size + 1 + 1, 0, none⟩), .pointer (some ⟨w.heap.size + 1 + 1 + 1, 0, none⟩)], .agg #[.int .i64 x.1.1, .string x.1.2], undef, undef, undef, undef, undef, undef, undef, undef, undef, undef, undef, undef], defers := [] })
    (fun x a' _ X Y row hs hg hr => by
      obtain ⟨Bx, e1, e2, e3⟩ := hs
      refine ⟨Bx, e1, (hg.block Bx (heap_lt e2) (fun e => ?_)).trans e2, e3⟩
      obtain ⟨_, o, ho, hc⟩ := hr Bx e.symm
      rw [e2] at ho
      cases ho
      cases hc)
    ?assign ?body ?done ?stop
  case assign =>
    rintro l pre x W K ⟨⟨⟨v, hv, hrow, _⟩, hbR, hle⟩, hB⟩ hK
    gi_wp2
    exact hK _ _ ((KeepsOthers.alloc _ _).from _) ((Below.refl _ W).alloc hB.size _) ⟨⟨⟨v, hv.alloc _, hrow.kept (World.grownBy_alloc W _ none) (by cases v.ownBlock <;> simp), trivial⟩, hbR.alloc _, hle⟩, hB.alloc hB.size _⟩ ⟨W.heap.size, hv.lt, heap_alloc_new _ _, rfl⟩
  case body =>
    rintro l pre ⟨⟨xn, xt⟩, hxs⟩ a' W hl ⟨r, hr⟩ ⟨⟨⟨v, hv, hrow, _⟩, hbR, hle⟩, hB⟩ ⟨Bx, hBx, hX, rfl⟩ hlt
    dsimp only at hxs hX
    obtain ⟨q, m, c, rfl⟩ := ownsB_form hrow
    obtain ⟨i0, hi, hz0, hz1, hz2⟩ := info_parts info5
    have cv := hv.cell
    have x0 : W.cell? ⟨Bx, 0, none⟩ = some (.int .i64 xn) := cell_of_row _ _ 0 _ _ _ hX
    have x1 : W.cell? ⟨Bx, 1, none⟩ = some (.string xt) := cell_of_row _ _ 1 _ _ _ hX
    have hsW := hB.size
    have hst := listL_step pre ⟨(xn, xt), hxs⟩
    gi_wp2_with (first
      | (gi_at_builtin; refine rowsInto W rfl (.tmp 11) (.tmp 13) rfl w.heap.size _ _ _ rfl hrow xt rfl (by omega) hsW ?_; intro v1 w1 hown1 hgrow1; obtain ⟨q1, m1, c1, rfl⟩ := ownsB_form hown1; have hv1 := hv.kept hgrow1 (hv.not_row (by decide) hrow); have k1 := hv1.cell; have f1 := hv1.frozen; have h2 := hv1.set (.slice q1 m1 c1); have k2 := h2.cell; obtain ⟨hr2, hk2, hb2, hs2⟩ := boxed_texted hv (by decide) hrow hsW (Nat.le_add_right _ 1) hown1 hgrow1; have hbR2 := (hbR.kept hgrow1 (hbR.not_row (by decide) hrow)).other (B' := w.heap.size + 1) (by omega) (.slice q1 m1 c1))
      | (gi_at_builtin; refine wpListIn_append_own _ rfl (.tmp 15) (.tmp 16) 40 rfl w.heap.size 5 i0 (.int .u8 0) 1 1 Tryd.underlying40 hi hz0 hz1 hz2 rfl (by decide) _ _ _ rfl (hr2.kept (World.grownBy_alloc _ (.cells #[.int .u8 10] 5) none) (by cases (Value.slice q1 m1 c1).ownBlock <;> simp)) ⟨w1.heap.size, 0, none⟩ 1 1 [.int .u8 10] rfl rfl (newsY (set_size _ _ _) _ _) (by simp [Value.oneCell']) (by unfold maxLen; omega) (by omega) (Nat.le_trans hs2 (by simp)) ?_; intro v3 w3 hown3 hgrow3 _; obtain ⟨g3, cap3, rfl⟩ := ownsRow_succ hown3; obtain ⟨hv3, hv4, hr4, hk4, hb4⟩ := h2.appended (by decide) hr2 hs2 (Nat.le_add_right _ 1) hown3 hgrow3; have k3 := hv3.cell; have f3 := hv3.frozen; have k4 := hv4.cell; have hbR4 := ((hbR2.alloc (.cells #[.int .u8 10] 5)).kept hgrow3 (hbR2.not_row (by decide) hr2)).other (B' := w.heap.size + 1) (by omega) (.slice (some ⟨g3, 0, none⟩) ((listL (rowsOf pre)).length + xt.size + 1) cap3); have kR := hbR4.cell; have fR := hbR4.frozen))
    · exact ⟨((hk2.trans hk4).trans (KeepsOthers.setCell _ _ _)).from _, ⟨⟨rfl, by rw [hst.1]; omega⟩, hbR4.set _⟩, (hB.trans (hb2.trans hb4)).setCell (p := ⟨w.heap.size, 0, none⟩) (Nat.le_refl _) _⟩
    · exact ⟨(hk2.trans hk4).from _, hb2.trans hb4, ⟨⟨_, hv4, by rw [hst.1, hst.2]; exact hr4, trivial⟩, hbR4, by rw [hst.1]; omega⟩, hB.trans (hb2.trans hb4)⟩
  case done =>
    rintro D xs W hD hS ⟨⟨⟨v, hv, hrow, _⟩, hbR, hle⟩, hB⟩ hK
    have hcv := conv_own hrow
    obtain ⟨q, m, c, rfl⟩ := ownsB_form hrow
    have cv := hv.cell
    have cR := hbR.cell
    have fR := hbR.frozen
    gi_wp2
    have hK' := (KeepsOthers.setCell W ⟨w.heap.size, 0, none⟩ (.string ⟨(listL (rowsOf xs)).toArray⟩)).same D _ hK rfl
    refine ⟨by simp, .inl ⟨_, _, rfl, run_takeDeferred hK', ?_⟩⟩
    have hc5 := cell_kept (hbR.set (.string ⟨(listL (rowsOf xs)).toArray⟩)).cell (grownBy_putObj' _ D (.deferred none)) (fun r e => by cases e; exact ⟨_, hK', rfl⟩)
    refine ⟨.string ⟨(listL (rowsOf xs)).toArray⟩, ?_, ⟨rowsOf xs, hS, ret_str (listT_fits (by omega)).symm, (hB.setCell (p := ⟨w.heap.size, 0, none⟩) (Nat.le_refl _) _).trans (belowK_b (w := w) (Nat.le_refl _) _ D _ _ (by omega) hK' rfl rfl)⟩⟩
    simp [results, Tryd.f14, go_sem, hc5]
  case stop =>
    rintro D c pre W hD hpre ⟨⟨⟨rfl, h4⟩, bR1⟩, hB1⟩ hK
    gi_wp2
    refine ⟨by simp, .inl ⟨_, _, rfl, run_takeDeferred hK, ?_⟩⟩
    have hc5 := cell_kept bR1.cell (grownBy_putObj' _ D (.deferred none)) (fun r e => by cases e; exact ⟨_, hK, rfl⟩)
    obtain ⟨all, hal, hp⟩ := hpre
    refine ⟨.string ⟨#[]⟩, ?_, ⟨all, hal, ret_str (listT_big ?_).symm, hB1.trans (belowK_b (w := w) (Nat.le_refl _) W D _ _ (by omega) hK rfl rfl)⟩⟩
    · simp [results, Tryd.f14, go_sem, hc5]
    · obtain ⟨post, rfl⟩ := hp
      have e : listL (rowsOf pre ++ post) = listL (rowsOf pre) ++ listL post := by simp [listL]
      rw [e, List.length_append]
      omega
end Go.Proofs.YtknielpkmablkaaDoor
