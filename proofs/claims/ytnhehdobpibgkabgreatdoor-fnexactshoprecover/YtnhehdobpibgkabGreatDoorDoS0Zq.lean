/- What a record does, by the specification. -/
import Derived.Test.YtnhehdobpibgkabGreatDoorRows
import Derived.WalkKit
import Derived.WalkSpells
import Derived.WalkLawsBesides
import Derived.Outline
import Derived.RegionTactic
import Derived.BigRegion
import Derived.Deep.RegionHeld3
import Derived.Deep.RegionLaw
import Derived.Test.YtnhehdobpibgkabGreatDoorBun0
import Derived.Test.YtnhehdobpibgkabGreatDoorBun1
import Derived.Test.YtnhehdobpibgkabGreatDoorBun10
import Derived.Test.YtnhehdobpibgkabGreatDoorHexRSZq
import Derived.Test.YtnhehdobpibgkabGreatDoorBun21
import Derived.Test.YtnhehdobpibgkabGreatDoorBun24
import Derived.Test.YtnhehdobpibgkabGreatDoorPutSZq
import Derived.Test.YtnhehdobpibgkabGreatDoorDoPZq
import Derived.Test.YtnhehdobpibgkabGreatDoorGoThPZq
namespace Go.Proofs.YtnhehdobpibgkabGreatDoor
open Go.RowKit
set_option linter.unusedVariables false

theorem specText_yes {s : ByteArray} {p : Int} {t : ByteArray} {q : Int} {w : World} (h : pT s p = some (t, q)) (hs : s.size ≤ 8000) (h0 : 0 ≤ p) (hp : p ≤ s.size) : Calls Tryz.prog 12 #[.string s, .int .i64 p] w fun e w' => e = .returned (.agg #[.string t, .int .i64 q, .int .i64 0]) ∧ Below w.heap.size w w' := by
  refine (specGetText_any s p w (by unfold maxLen; omega) (by omega) (by omega)).mono ?_
  rintro e w' ⟨rfl, hb⟩
  obtain ⟨k, rfl⟩ : ∃ k : Nat, p = (k : Int) := ⟨p.toNat, by omega⟩
  have hn : numV s (k : Int) = getN s k := if_neg (by omega)
  rw [hn, pT_parts h]
  exact ⟨rfl, hb⟩
theorem specText_no {s : ByteArray} {p : Int} {w : World} (h : pT s p = none) (hs : s.size ≤ 8000) (h0 : 0 ≤ p) (hp : p ≤ s.size) : Calls Tryz.prog 12 #[.string s, .int .i64 p] w fun e w' => (∃ t q c, ¬ c = 0 ∧ e = .returned (.agg #[.string t, .int .i64 q, .int .i64 c])) ∧ Below w.heap.size w w' := by
  refine (specGetText_any s p w (by unfold maxLen; omega) (by omega) (by omega)).mono ?_
  rintro e w' ⟨rfl, hb⟩
  obtain ⟨k, rfl⟩ : ∃ k : Nat, p = (k : Int) := ⟨p.toNat, by omega⟩
  have hn : numV s (k : Int) = getN s k := if_neg (by omega)
  rw [hn]
  exact ⟨⟨_, _, _, pT_no h, rfl⟩, hb⟩
theorem specHex_is {s : ByteArray} {c : Int} {w : World} (hc : rdC s = c) (hs : s.size ≤ maxLen) : Calls Tryz.prog 24 #[.string s] w fun e w' => (∃ n a l k, e = .returned (.agg #[.int .i64 n, .slice a l k, .int .i64 c])) ∧ Below w.heap.size w w' := by
  subst hc
  refine (specHexRead_any s w hs).mono ?_
  rintro e w' ⟨⟨v, rfl, ho⟩, hb⟩
  rw [readers] at ho ⊢
  obtain ⟨a, cap, rfl, _⟩ := own_readI ho
  exact ⟨⟨_, a, _, cap, rfl⟩, hb⟩
theorem specSources_is {a : Option Addr} {L : List Src} {n cap : Nat} {w : World} {bb : Bool} (hb : srcsB L = bb) (hR : RowIs 2 srcC w a L) (hn : L.length = n) (hl : n ≤ 2000000) (hs : ∀ s ∈ L, fitsS s) : Calls Tryz.prog 22 #[.slice a n cap] w fun e w' => e = .returned (.bool bb) ∧ Below w.heap.size w w' := by
  subst hb; subst hn; exact specSources_any a L cap w hR hl hs
theorem l04Source_is {a : Option Addr} {L : List Src} {n cap : Nat} {nm : ByteArray} {w : World} {k : Int} (hk : idxL L nm = k) (hR : RowIs 2 srcC w a L) (hn : L.length = n) (hl : n ≤ 2000000) : Calls Tryz.prog 23 #[.slice a n cap, .string nm] w fun e w' => e = .returned (.int .i64 k) ∧ Below w.heap.size w w' := by
  subst hk; subst hn; exact l04Source_any a L cap nm w hR hl
/- An append whose run is known, as a step of a drawn region. -/
theorem step_append_run {P : Program} {w : World} {o : Oper} {a : Act} {K : Act → World → Prop} {Q : Exit → Act → World → Prop} (s x : Operand) (t : TypeId)
    (ho : o.op = .call { callee := .builtin .append, args := #[s, x], argTypes := #[t, t] }) (v y v' : Value) (w' : World) (hs : a.eval s = v) (hx : a.eval x = y)
    (hr : (Builtin.append_ #[t, t] o.type #[v, y]).run P w = .ok v' w') (h : K (a.put o.dst v') w') : Oper.wp P o a w K Q := by
  unfold Oper.wp execOp
  simp only [ho, resolve, invoke, builtin, Sem.run_bind, Sem.run_pure, Result.andThen_ok, List.map_toArray, List.map_cons, List.map_nil, hs, hx, hr]
  exact h
theorem row30 {W : World} {b : Nat} {t : TypeId} {v0 v1 v2 : Value} (h : W.heap[b]? = some (.cells #[v0, v1, v2] t (0, 0))) : W.cell? ⟨b, 0, none⟩ = some v0 := cellH h rfl
def StIs (w : World) (b : Nat) (T : Told) (at_ : Int) : Prop := ∃ v, w.heap[b]? = some (.cells #[v, .string T.2.1, .int .i64 (T.2.2 : Int), .int .i64 at_] 32 (0, 0)) ∧ OwnR w (b + 1) v T.1
theorem StIs.call {w w' : World} {b : Nat} {T : Told} {at_ : Int} (h : StIs w b T at_) (hb : Below w.heap.size w w') : StIs w' b T at_ := by
  obtain ⟨v, h1, h2⟩ := h
  exact ⟨v, heap_keep h1 hb, h2.call hb⟩
def SD (b : Nat) (T : Told) (at_ : Int) (o : Option Told) (w : World) (e : Ending) (w' : World) : Prop :=
  But b w w' ∧ ((∃ r, o = some r ∧ e = .returned (.bool true) ∧ StIs w' b r at_) ∨ (o = none ∧ e = .returned (.bool false) ∧ StIs w' b T at_))
theorem full_text {s : ByteArray} (h : 0 < s.size) : s.toList.isEmpty = false := by
  have hne : ¬ s = (⟨#[]⟩ : ByteArray) := fun e => by rw [e] at h; exact absurd h (by decide)
  have h2 := textS_ne hne
  cases h3 : s.toList with
  | nil => rw [h3, Lib.toList_data] at h2; exact absurd h2 (by decide)
  | cons c l => rfl
theorem doB_none {S : List Src} {im : ByteArray} {n : Nat} {s : ByteArray} (h : pT s 1 = none) : doB S im n s = none := by
  have h1 : one1 s = none := by unfold one1; rw [h]; rfl
  have h2 : two2 s = none := by unfold two2; rw [h]; rfl
  unfold doB
  rw [h1, h2]
  simp
theorem one1_is {s t : ByteArray} {q : Int} (h : pT s 1 = some (t, q)) : one1 s = if q = (s.size : Int) then some t else none := by
  unfold one1; rw [h]; rfl
theorem two2_no {s t : ByteArray} {q : Int} (h : pT s 1 = some (t, q)) (h2 : pT s q = none) : two2 s = none := by
  unfold two2; rw [h]; simp only [Option.bind_some]; rw [h2]; rfl
theorem two2_is {s t t2 : ByteArray} {q q2 : Int} (h : pT s 1 = some (t, q)) (h2 : pT s q = some (t2, q2)) : two2 s = if q2 = (s.size : Int) then some (t, t2) else none := by
  unfold two2; rw [h]; simp only [Option.bind_some]; rw [h2]; rfl
end Go.Proofs.YtnhehdobpibgkabGreatDoor
