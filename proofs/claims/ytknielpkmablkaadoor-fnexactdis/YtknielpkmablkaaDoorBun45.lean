/- Rows of structs that a call itself makes. -/
import Derived.Test.YtknielpkmablkaaDoorRows
import Derived.WalkKit
import Derived.WalkSpells
import Derived.WalkLawsBesides
import Derived.Outline
import Derived.Test.YtknielpkmablkaaDoorBun0
import Derived.Test.YtknielpkmablkaaDoorBun1
import Derived.Test.YtknielpkmablkaaDoorBun44
import Derived.Deep.AppendLies
import Derived.RegionTactic
import Derived.BigRegion
import Derived.Deep.RegionHeld3
import Derived.Test.YtknielpkmablkaaDoorBun27
import Derived.Test.YtknielpkmablkaaDoorBun42
namespace Go.Proofs.YtknielpkmablkaaDoor
open Go.RowKit
set_option linter.unusedVariables false

def OwnX {α : Type} (T : TypeId) (n : Nat) (c : α → List Value) (w : World) (B : Nat) (v : Value) (L : List α) : Prop := w.ownsRow B T n v L.length (L.flatMap c)
variable {α : Type} {T : TypeId} {n : Nat} {c : α → List Value}
theorem OwnX.stays {w w' : World} {B : Nat} {v : Value} {L : List α} (h : OwnX T n c w B v L) (hb : ∀ q, q < w.heap.size → v.ownBlock = some q → w'.heap[q]? = w.heap[q]?) : OwnX T n c w' B v L := by
  obtain ⟨h1, h2⟩ := h
  refine ⟨h1, ?_⟩
  rcases h2 with h2 | ⟨g, cap, cur, rfl, hB, hg, rest⟩
  · exact .inl h2
  · exact .inr ⟨g, cap, cur, rfl, hB, (hb g (heap_lt hg) rfl).trans hg, rest⟩
theorem OwnX.call {w w' : World} {B : Nat} {v : Value} {L : List α} (h : OwnX T n c w B v L) (hb : Below w.heap.size w w') : OwnX T n c w' B v L := h.stays fun q hq _ => hb.block q hq
theorem OwnX.alloc {w : World} {B : Nat} {v : Value} {L : List α} (h : OwnX T n c w B v L) (o : Obj) : OwnX T n c (w.alloc o) B v L := h.call (below_new w o)
theorem OwnX.low {w : World} {B B' : Nat} {v : Value} {L : List α} (h : OwnX T n c w B v L) (hB : B' ≤ B) : OwnX T n c w B' v L := by
  obtain ⟨h1, h2⟩ := h
  refine ⟨h1, ?_⟩
  rcases h2 with h2 | ⟨g, cap, cur, hv, hg, rest⟩
  · exact .inl h2
  · exact .inr ⟨g, cap, cur, hv, by omega, rest⟩
theorem OwnX.nil (w : World) (B : Nat) : OwnX T n c w B (.slice none 0 0) ([] : List α) := ⟨by simp, .inl ⟨rfl, rfl⟩⟩
theorem OwnX.form {w : World} {B : Nat} {v : Value} {L : List α} (h : OwnX T n c w B v L) :
    (v = .slice none 0 0 ∧ L = []) ∨ ∃ g cap cur, v = .slice (some ⟨g, 0, none⟩) L.length cap ∧ B ≤ g ∧ w.heap[g]? = some (.cells cur T (0, 0)) ∧ L.length ≤ cap ∧ cap ≤ maxLen ∧ cur.size = cap * n ∧ cur.toList.take (L.length * n) = L.flatMap c := by
  obtain ⟨h1, h2⟩ := h
  rcases h2 with ⟨h2, h3⟩ | ⟨g, cap, cur, hv, hB, hg, h4, h5, h6, h7⟩
  · exact .inl ⟨h2, List.eq_nil_of_length_eq_zero h3⟩
  · exact .inr ⟨g, cap, cur, hv, hB, hg, h4, h5, h6, h7⟩
theorem OwnX.more {w : World} {B : Nat} {v : Value} {L : List α} {a : α} (h : w.ownsRow B T n v (L.length + 1) (L.flatMap c ++ c a)) : OwnX T n c w B v (L ++ [a]) := by
  unfold OwnX
  rw [List.length_append, List.flatMap_append]
  simpa using h
def lenV : Value → Nat
  | .slice _ k _ => k
  | _ => 0
theorem OwnX.len {w : World} {B : Nat} {v : Value} {L : List α} (h : OwnX T n c w B v L) : lenV v = L.length := by
  rcases h.form with ⟨rfl, rfl⟩ | ⟨g, cap, cur, rfl, _⟩ <;> rfl
theorem OwnX.is {w : World} {B : Nat} {v : Value} {L : List α} (hc : ∀ a, (c a).length = n) (h : OwnX T n c w B v L) : ∃ a cap, v = .slice a L.length cap ∧ RowIs n c w a L := by
  rcases h.form with ⟨rfl, rfl⟩ | ⟨g, cap, cur, rfl, hB, hg, h4, h5, h6, h7⟩
  · exact ⟨none, 0, rfl, fun h => absurd h (by simp)⟩
  · refine ⟨_, cap, rfl, fun hl => ⟨_, rfl, heap_lt hg, fun i hi j v hv => ?_⟩⟩
    have hj : j < n := by
      have := (List.getElem?_eq_some_iff.1 hv).1
      rwa [hc] at this
    have hlt : i * n + j < L.length * n := by
      have : (i + 1) * n ≤ L.length * n := Nat.mul_le_mul_right n hi
      rw [Nat.succ_mul] at this; omega
    have e := congrArg (fun l => l[i * n + j]?) h7
    simp only [List.getElem?_take, if_pos hlt] at e
    rw [flat_get n c hc L i j hi hj, hv] at e
    rw [add_zero_block, cell_of_row w g _ _ _ _ hg]
    simpa using e
theorem OwnX.mk {w : World} {B g cap : Nat} {cur : Array Value} {L : List α} (hc : ∀ a, (c a).length = n) (hB : B ≤ g) (hg : w.heap[g]? = some (.cells cur T (0, 0))) (h4 : L.length ≤ cap) (h5 : cap ≤ maxLen) (h6 : cur.size = cap * n) (h7 : ∀ i (hi : i < L.length) j, j < n → cur[i * n + j]? = (c L[i])[j]?) : OwnX T n c w B (.slice (some ⟨g, 0, none⟩) L.length cap) L := by
  refine ⟨flat_len n c hc L, .inr ⟨g, cap, cur, rfl, hB, hg, h4, h5, h6, ?_⟩⟩
  apply List.ext_getElem?
  intro q
  rw [List.getElem?_take]
  by_cases hq : q < L.length * n
  · rw [if_pos hq]
    have hn : 0 < n := by
      rcases Nat.eq_zero_or_pos n with h0 | h0
      · subst h0; omega
      · exact h0
    have e : q = q / n * n + q % n := by rw [Nat.mul_comm]; exact (Nat.div_add_mod q n).symm
    have hi : q / n < L.length := (Nat.div_lt_iff_lt_mul hn).2 hq
    have hj : q % n < n := Nat.mod_lt _ hn
    have := h7 (q / n) hi (q % n) hj
    rw [← flat_get n c hc L (q / n) (q % n) hi hj, ← e] at this
    simpa using this
  · rw [if_neg hq, List.getElem?_eq_none (by rw [flat_len n c hc]; omega)]
theorem newsX (w : World) (l : List Value) (t : TypeId) : ∀ j u, l[j]? = some u → (w.alloc (.cells l.toArray t)).cell? ((⟨w.heap.size, 0, none⟩ : Addr).add j) = some u := by
  intro j u hj
  rw [add_zero_block, cell_of_row _ _ _ _ _ _ (heap_alloc_new w _)]
  simpa using hj
theorem newsY {w : World} {N : Nat} (h : w.heap.size = N) (l : List Value) (t : TypeId) : ∀ j u, l[j]? = some u → (w.alloc (.cells l.toArray t)).cell? ((⟨N, 0, none⟩ : Addr).add j) = some u := by
  subst h; exact newsX w l t
theorem set_size (w : World) (p : Addr) (v : Value) : (w.setCell p v).heap.size = w.heap.size := by simp [World.setCell]
def intC (x : Int) : List Value := [.int .i64 x]
theorem intC_flat (L : List Int) : L.flatMap intC = cellsI L := by
  induction L with
  | nil => rfl
  | cons x L ih => rw [List.flatMap_cons, ih]; rfl
theorem OwnX.ints {w : World} {B : Nat} {v : Value} {L : List Int} (h : OwnX 2 1 intC w B v L) : OwnI w B v L := by
  unfold OwnX at h
  rwa [intC_flat] at h
theorem OwnI.x {w : World} {B : Nat} {v : Value} {L : List Int} (h : OwnI w B v L) : OwnX 2 1 intC w B v L := by
  unfold OwnX
  rwa [intC_flat]
theorem OwnX.blk {w : World} {B : Nat} {v : Value} {L : List α} (h : OwnX T n c w B v L) : ∀ q, v.ownBlock = some q → B ≤ q ∧ q < w.heap.size := fun q hq => by
  rcases h.form with ⟨rfl, _⟩ | ⟨g, cap, cur, rfl, hB, hg, _⟩
  · cases hq
  · have : g = q := by simpa [Value.ownBlock] using hq
    subst this
    exact ⟨hB, heap_lt hg⟩
end Go.Proofs.YtknielpkmablkaaDoor
namespace Go.Proofs.YtknielpkmablkaaDoor
open Go.RowKit
set_option linter.unusedVariables false

theorem OwnI.moreL {w : World} {B : Nat} {v : Value} {L M : List Int} (h : w.ownsRow B 2 1 v (L.length + M.length) (cellsI L ++ cellsI M)) : OwnI w B v (L ++ M) := by
  unfold OwnI
  rw [List.length_append]
  simpa [cellsI] using h
theorem one_cellsI (M : List Int) : ∀ u ∈ cellsI M, u.oneCell' = true := by
  intro u hu
  simp only [cellsI, List.mem_map] at hu
  obtain ⟨x, _, rfl⟩ := hu
  rfl
theorem OwnI.some {w : World} {B : Nat} {v : Value} {L : List Int} (h : OwnI w B v L) (hl : 0 < L.length) : ∃ g cap, v = .slice (some ⟨g, 0, none⟩) L.length cap ∧ B ≤ g ∧ L.length ≤ cap ∧ cap ≤ maxLen ∧ ∀ i (hi : i < L.length), w.cell? ⟨g, i, none⟩ = some (.int .i64 L[i]) := by
  rcases h.form with ⟨_, e⟩ | ⟨g, cap, cur, hv, hB, hg, h4, h5, h6, h7⟩
  · subst e; simp at hl
  · exact ⟨g, cap, hv, hB, h4, h5, fun i hi => by simp [World.cell?, hg, h7 i hi]⟩
theorem OwnI.drew {w : World} {B : Nat} {v : Value} {L : List Int} (h : OwnI w B v L) : OwnI w.drew B v L := h
theorem own_four {w x : World} {g : Nat} (h : Below w.heap.size w x) (hg : x.heap.size = g) {a b c d a' b' c' d' : Int} (e1 : a = a') (e2 : b = b') (e3 : c = c') (e4 : d = d') : OwnI (x.alloc (.cells #[.int .i64 a, .int .i64 b, .int .i64 c, .int .i64 d] 2)) w.heap.size (.slice (some ⟨g, 0, none⟩) 4 4) [a', b', c', d'] := by
  subst hg e1 e2 e3 e4
  exact OwnI.mk (L := [a, b, c, d]) h.size (heap_alloc_new x _) (by simp) (by simp [maxLen]) rfl (fun i hi => by
    match i, hi with
    | 0, _ => rfl
    | 1, _ => rfl
    | 2, _ => rfl
    | 3, _ => rfl)
/- One row behind the other. -/
theorem append_rowsI {w : World} {B B2 : Nat} {v v2 : Value} {L M : List Int} (h : OwnI w B v L) (h2 : OwnI w B2 v2 M) (hl : L.length ≤ 100000000) (hm : M.length ≤ 100000000) (hB : B ≤ w.heap.size) (ty : TypeId) :
    ∃ v' w', (Builtin.append_ #[22, 22] ty #[v, v2]).run Tryd.prog w = .ok v' w' ∧ OwnI w' B v' (L ++ M) ∧ w.grownBy w' v.ownBlock := by
  obtain ⟨i0, hi, hz0, hz1, hz2⟩ := info_parts infoI
  rcases h2.form with ⟨rfl, rfl⟩ | ⟨g, cap, cur, rfl, _, hg, h4, h5, h6, h7⟩
  · refine ⟨v, w, run_append_owned_none w B 22 ty 2 i0 1 Tryd.underlying22 hi v L.length (cellsI L) h, by simpa using h, ?_⟩
    exact ⟨rfl, rfl, rfl, Nat.le_refl _, fun _ _ _ => rfl⟩
  · obtain ⟨v', w', e, h8, h9, _⟩ := run_append_own (P := Tryd.prog) w B 22 ty 2 i0 (.int .i64 0) 1 8 Tryd.underlying22 hi hz0 hz1 hz2 rfl (by decide) v L.length (cellsI L) h ⟨g, 0, none⟩ M.length cap (cellsI M) (by simp [cellsI]) (fun j u hj => by
      have hjl : j < M.length := by have := (List.getElem?_eq_some_iff.1 hj).1; simpa [cellsI] using this
      have e : (⟨g, 0, none⟩ : Addr).add j = ⟨g, j, none⟩ := by unfold Addr.add; split <;> simp_all
      rw [e]
      simp [World.cell?, hg, h7 j hjl]
      simpa [cellsI, hjl] using hj) (one_cellsI M) (by unfold maxLen; omega) (by omega) hB
    exact ⟨v', w', e, OwnI.moreL h8, h9⟩
/- An append whose run is known. -/
theorem wpList_append_run {P : Program} {w : World} {ops : Array Oper} {rest : List Oper} {o : Oper} {a : Act} {Q : Exit → Act → World → Prop} (hgd : o.guard = none) (s x : Operand) (t : TypeId)
    (ho : o.op = .call { callee := .builtin .append, args := #[s, x], argTypes := #[t, t] }) (v y v' : Value) (w' : World) (hs : a.eval s = v) (hx : a.eval x = y)
    (hr : (Builtin.append_ #[t, t] o.type #[v, y]).run P w = .ok v' w') (h : wpList P ops Q rest (a.put o.dst v') w') : wpList P ops Q (o :: rest) a w :=
  wpList_plain hgd fun _ hK => by
    unfold Oper.wp execOp
    simp only [ho, resolve, invoke, builtin, Sem.run_bind, Sem.run_pure, Result.andThen_ok, List.map_toArray, List.map_cons, List.map_nil, hs, hx, hr]
    exact hK _ _ h
end Go.Proofs.YtknielpkmablkaaDoor
namespace Go.Proofs.YtknielpkmablkaaDoor
open Go.RowKit
set_option linter.unusedVariables false

theorem base_spec (n : Int) (w : World) : Calls Tryd.prog 22 #[.int .i64 n] w fun e w' => e = .returned (.bool (baseB n)) ∧ w' = w := by
  cases hb : isB n 0 65534
  · have HE : Hid (baseB n = false) := by show _ = _; unfold baseB; rw [hb]; rfl
    have HB : Hid (isB n 0 65534 = false) := hb
    clear hb
    go_enter Tryd.func22, Tryd.ntmps22
    go_wp2_with fail
    refine (l02Is_any n 0 65534 _).mono ?_
    rintro e w1 ⟨rfl, rfl⟩
    rw [HB.out]
    go_wp2
    go_ret
    exact ⟨ret_bool (by rw [HE.out]), rfl⟩
  · have HE : Hid (baseB n = (n % 2 == 0)) := by show _ = _; unfold baseB; rw [hb]; rfl
    have HB : Hid (isB n 0 65534 = true) := hb
    have h0 : 0 ≤ n := by unfold isB at hb; simp at hb; omega
    clear hb
    go_enter Tryd.func22, Tryd.ntmps22
    go_wp2_with fail
    refine (l02Is_any n 0 65534 _).mono ?_
    rintro e w1 ⟨rfl, rfl⟩
    rw [HB.out]
    go_wp2
    go_ret
    exact ⟨ret_bool (by rw [HE.out]), rfl⟩
theorem digit_run (n : Int) (h0 : 0 ≤ n) (h1 : n < 16) (W : World) : (Instr.index 9 (.string ⟨#[48, 49, 50, 51, 52, 53, 54, 55, 56, 57, 65, 66, 67, 68, 69, 70]⟩) (.int .i64 n)).run Tryd.prog W = .ok (.int .u8 ((hexd n.toNat).toNat : Int)) W := by
  have h : n = 0 ∨ n = 1 ∨ n = 2 ∨ n = 3 ∨ n = 4 ∨ n = 5 ∨ n = 6 ∨ n = 7 ∨ n = 8 ∨ n = 9 ∨ n = 10 ∨ n = 11 ∨ n = 12 ∨ n = 13 ∨ n = 14 ∨ n = 15 := by omega
  rcases h with rfl | rfl | rfl | rfl | rfl | rfl | rfl | rfl | rfl | rfl | rfl | rfl | rfl | rfl | rfl | rfl <;> (show _ = _; kernel_rfl)
theorem text_catL (a b : List UInt8) : (⟨a.toArray⟩ : ByteArray) ++ ⟨b.toArray⟩ = ⟨(a ++ b).toArray⟩ := by
  apply ByteArray.ext
  simp
theorem text_size (a : List UInt8) : (⟨a.toArray⟩ : ByteArray).size = a.length := rfl
end Go.Proofs.YtknielpkmablkaaDoor
