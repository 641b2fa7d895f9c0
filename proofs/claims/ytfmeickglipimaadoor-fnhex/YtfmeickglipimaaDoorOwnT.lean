/- Owned rows: more than one number at once; their cells. -/
import Derived.Test.YtfmeickglipimaaDoorRows
import Derived.WalkKit
import Derived.WalkSpells
import Derived.WalkLawsBesides
import Derived.Deep.AppendLies
import Derived.Test.YtfmeickglipimaaDoorBase
import Derived.Test.YtfmeickglipimaaDoorRes2
import Derived.Test.YtfmeickglipimaaDoorOwn
namespace Go.Proofs.YtfmeickglipimaaDoor
open Go.RowKit
set_option linter.unusedVariables false

theorem OwnI.moreL {w : World} {B : Nat} {v : Value} {L M : List Int} (h : w.ownsRow B 2 1 v (L.length + M.length) (cellsI L ++ cellsI M)) : OwnI w B v (L ++ M) := by
  unfold OwnI
  rw [List.length_append]
  simpa [cellsI] using h
theorem one_cellsI (M : List Int) : ∀ u ∈ cellsI M, u.oneCell' = true := by
  intro u hu
  simp only [cellsI, List.mem_map] at hu
  obtain ⟨x, _, rfl⟩ := hu
  rfl
theorem OwnI.some {w : World} {B : Nat} {v : Value} {L : List Int} (h : OwnI w B v L) (hl : 0 < L.length) : ∃ g cap, v = .slice (some ⟨g, 0, none⟩) L.length cap ∧ B ≤ g ∧ L.length ≤ cap ∧ cap ≤ maxLen ∧ ∀ i (hi : i < L.length), w.cell? ⟨g, i, none⟩ = some (.int .i64 L[i]) := by
  rcases h.form with ⟨_, e⟩ | ⟨g, cap, cur, hv, hB, hg, h4, h5, h6, h7⟩
  · subst e; simp at hl
  · exact ⟨g, cap, hv, hB, h4, h5, fun i hi => by simp [World.cell?, hg, h7 i hi]⟩
theorem OwnI.drew {w : World} {B : Nat} {v : Value} {L : List Int} (h : OwnI w B v L) : OwnI w.drew B v L := h
theorem own_four {w x : World} {g : Nat} (h : Below w.heap.size w x) (hg : x.heap.size = g) {a b c d a' b' c' d' : Int} (e1 : a = a') (e2 : b = b') (e3 : c = c') (e4 : d = d') : OwnI (x.alloc (.cells #[.int .i64 a, .int .i64 b, .int .i64 c, .int .i64 d] 2)) w.heap.size (.slice (some ⟨g, 0, none⟩) 4 4) [a', b', c', d'] := by
  subst hg e1 e2 e3 e4
  exact OwnI.mk (L := [a, b, c, d]) h.size (heap_alloc_new x _) (by simp) (by simp [maxLen]) rfl (fun i hi => by
    match i, hi with
    | 0, _ => rfl
    | 1, _ => rfl
    | 2, _ => rfl
    | 3, _ => rfl)
/- One row behind the other. -/
theorem append_rowsI {w : World} {B B2 : Nat} {v v2 : Value} {L M : List Int} (h : OwnI w B v L) (h2 : OwnI w B2 v2 M) (hl : L.length ≤ 100000000) (hm : M.length ≤ 100000000) (hB : B ≤ w.heap.size) (ty : TypeId) :
    ∃ v' w', (Builtin.append_ #[23, 23] ty #[v, v2]).run Tryd.prog w = .ok v' w' ∧ OwnI w' B v' (L ++ M) ∧ w.grownBy w' v.ownBlock := by
  obtain ⟨i0, hi, hz0, hz1, hz2⟩ := info_parts infoI
  rcases h2.form with ⟨rfl, rfl⟩ | ⟨g, cap, cur, rfl, _, hg, h4, h5, h6, h7⟩
  · refine ⟨v, w, run_append_owned_none w B 23 ty 2 i0 1 Tryd.underlying23 hi v L.length (cellsI L) h, by simpa using h, ?_⟩
    exact ⟨rfl, rfl, rfl, Nat.le_refl _, fun _ _ _ => rfl⟩
  · obtain ⟨v', w', e, h8, h9, _⟩ := run_append_own (P := Tryd.prog) w B 23 ty 2 i0 (.int .i64 0) 1 8 Tryd.underlying23 hi hz0 hz1 hz2 rfl (by decide) v L.length (cellsI L) h ⟨g, 0, none⟩ M.length cap (cellsI M) (by simp [cellsI]) (fun j u hj => by
      have hjl : j < M.length := by have := (List.getElem?_eq_some_iff.1 hj).1; simpa [cellsI] using this
      have e : (⟨g, 0, none⟩ : Addr).add j = ⟨g, j, none⟩ := by unfold Addr.add; split <;> simp_all
      rw [e]
      simp [World.cell?, hg, h7 j hjl]
      simpa [cellsI, hjl] using hj) (one_cellsI M) (by unfold maxLen; omega) (by omega) hB
    exact ⟨v', w', e, OwnI.moreL h8, h9⟩
/- An append whose run is known. -/
theorem wpList_append_run {P : Program} {w : World} {ops : Array Oper} {rest : List Oper} {o : Oper} {a : Act} {Q : Exit → Act → World → Prop} (hgd : o.guard = none) (s x : Operand) (t : TypeId)
    (ho : o.op = .call { callee := .builtin .append, args := #[s, x], argTypes := #[t, t] }) (v y v' : Value) (w' : World) (hs : a.eval s = v) (hx : a.eval x = y)
    (hr : (Builtin.append_ #[t, t] o.type #[v, y]).run P w = .ok v' w') (h : wpList P ops Q rest (a.put o.dst v') w') : wpList P ops Q (o :: rest) a w :=
  wpList_plain hgd fun _ hK => by
    unfold Oper.wp execOp
    simp only [ho, resolve, invoke, builtin, Sem.run_bind, Sem.run_pure, Result.andThen_ok, List.map_toArray, List.map_cons, List.map_nil, hs, hx, hr]
    exact hK _ _ h
end Go.Proofs.YtfmeickglipimaaDoor
