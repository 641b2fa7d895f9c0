/- The walks of GetText, in both ways. -/
import Derived.Test.YtnhehdobpibgkaaGreatDoorRows
import Derived.WalkKit
import Derived.WalkSpells
import Derived.WalkLawsBesides
import Derived.Test.YtnhehdobpibgkaaGreatDoorBun0
import Derived.RegionTactic
import Derived.BigRegion
import Derived.Test.YtnhehdobpibgkaaGreatDoorReadNumZq
import Derived.Test.YtnhehdobpibgkaaGreatDoorJoinZq
import Derived.Test.YtnhehdobpibgkaaGreatDoorBun9
import Derived.Deep.AppendLies
import Derived.Test.YtnhehdobpibgkaaGreatDoorBun2
import Derived.Outline
import Derived.Test.YtnhehdobpibgkaaGreatDoorBun1
namespace Go.Proofs.YtnhehdobpibgkaaGreatDoor
open Go.RowKit

def getT (s : ByteArray) (x : Int × Int × Int) : ByteArray × Int × Int :=
  if x.2.2 ≠ 0 then (⟨#[]⟩, 0, x.2.2) else if x.1 < 0 ∨ 8000 < x.1 then (⟨#[]⟩, 0, 3) else if (s.size : Int) - x.1 < x.2.1 then (⟨#[]⟩, 0, 4)
  else (s.extract x.2.1.toNat (x.2.1 + x.1).toNat, x.2.1 + x.1, 0)
theorem rdF_at (s : ByteArray) (p : Nat) : ∀ f i u, (rdF s p f i u).2.2 = 0 → 0 ≤ (rdF s p f i u).2.1 ∧ (rdF s p f i u).2.1 ≤ s.size := by
  intro f
  induction f with
  | zero => intro i u h; simp [rdF] at h
  | succ f ih =>
    intro i u h
    unfold rdF at h ⊢
    split at h
    · rename_i hin
      rw [dif_pos hin]
      split at h
      · simp at h
      · rename_i h9
        rw [if_neg h9]
        split at h
        · rename_i hc
          rw [if_pos hc]
          split at h
          · simp at h
          · rename_i hz
            rw [if_neg hz]
            simp; omega
        · rename_i hc
          rw [if_neg hc]
          exact ih _ _ h
    · simp at h
theorem getN_at (s : ByteArray) (at_ : Int) (h : (getN s at_).2.2 = 0) : 0 ≤ (getN s at_).2.1 ∧ (getN s at_).2.1 ≤ s.size := by
  unfold getN at h ⊢
  split at h
  · simp at h
  · rename_i h1
    rw [if_neg h1]
    split at h
    · simp at h
    · rename_i h2
      rw [if_neg h2]
      exact rdF_at s _ _ _ _ h
theorem numV_at (s : ByteArray) (at_ : Int) (h : (numV s at_).2.2 = 0) : 0 ≤ (numV s at_).2.1 ∧ (numV s at_).2.1 ≤ s.size ∧ s.size ≤ 8000 := by
  unfold numV at h ⊢
  split at h
  · simp at h
  · rename_i h1
    rw [if_neg h1]
    have := getN_at s at_ h
    omega
theorem textOut {x : ByteArray × Int × Int} {a : ByteArray} {b c : Int} (h : x = (a, b, c)) : Ending.returned (.agg #[.string a, .int .i64 b, .int .i64 c]) = .returned (.agg #[.string x.1, .int .i64 x.2.1, .int .i64 x.2.2]) := by rw [h]
theorem cut_mid (s : ByteArray) (P N : Int) (h0 : 0 ≤ P) (h1 : 0 ≤ N) (h2 : P + N ≤ s.size) (W : World) :
    (Instr.slice 9 (.string s) (some (.int .i64 P)) (some (.int .i64 (P + N))) none).run Tryz.prog W = .ok (.string (s.extract P.toNat (P + N).toNat)) W := by
  have e : ((P + N).toNat : Int) = P + N := Int.toNat_of_nonneg (by omega)
  simp [Instr.slice, run_underlying Tryz.underlying9, Instr.sliceBounds, run_sliceBound, h0, h2, e, (by omega : 0 ≤ P + N), (by omega : P ≤ P + N)]
theorem retT {x : ByteArray × Int × Int} {a : ByteArray} {b : Int} {c : Int} (h : x = (a, b, c)) : Ending.returned (.tuple #[.string a, .int .i64 b, errV c]) = .returned (.tuple #[.string x.1, .int .i64 x.2.1, errV x.2.2]) := by rw [h]
theorem errV_0 : errV 0 = .nilIface := rfl
theorem errV_n {c : Int} (h : ¬ c = 0) : errV c = .iface 95 (.agg #[.int .i64 c]) := if_neg h
set_option maxRecDepth 100000 in
set_option maxHeartbeats 1000000 in
theorem readText_any (s : ByteArray) (at_ : Int) (w : World) (hs : s.size ≤ 8000) (hb1 : at_ ≤ 9223372036854775807) :
    Calls Tryz.prog 45 #[.string s, .int .i64 at_] w fun e w' => e = .returned (.tuple #[.string (getT s (getN s at_)).1, .int .i64 (getT s (getN s at_)).2.1, errV (getT s (getN s at_)).2.2]) ∧ Below w.heap.size w w' := by
  have HA : Hid (_ → _) := getN_at s at_
  go_enter Tryz.func45, Tryz.ntmps45
  go_wp2_with fail
  refine (readNum_any s at_ _ hs hb1).mono ?_
  rintro e w ⟨rfl, rfl⟩
  generalize hx : getN s at_ = x at *
  obtain ⟨N, P, C⟩ := x
  have HX : Hid (_ = _) := hx
  clear hx
  by_cases hC : C = 0
  · subst hC
    obtain ⟨hP0, hP1⟩ := HA.out rfl
    simp only at hP0 hP1
    simp only [errV_0]
    by_cases hN0 : N < 0
    · have HF : Hid (getT s (N, P, 0) = _) := (if_neg (by simp)).trans (if_pos (Or.inl hN0))
      go_wp2
      go_ret3
      exact ⟨retT (a := ⟨#[]⟩) (b := 0) (c := 3) (by rw [HX.out]; exact HF.out), Below.refl _ _⟩
    by_cases hN1 : 8000 < N
    · have HF : Hid (getT s (N, P, 0) = _) := (if_neg (by simp)).trans (if_pos (Or.inr hN1))
      go_wp2
      go_ret3
      exact ⟨retT (a := ⟨#[]⟩) (b := 0) (c := 3) (by rw [HX.out]; exact HF.out), Below.refl _ _⟩
    by_cases hsh : (s.size : Int) - N < P
    · have HF : Hid (getT s (N, P, 0) = _) := (if_neg (by simp)).trans ((if_neg (by simp; omega)).trans (if_pos hsh))
      have hsh2 : (s.size : Int) - P < N := by omega
      clear hsh
      go_wp2
      go_ret3
      exact ⟨retT (a := ⟨#[]⟩) (b := 0) (c := 4) (by rw [HX.out]; exact HF.out), Below.refl _ _⟩
    · have HF : Hid (getT s (N, P, 0) = _) := (if_neg (by simp)).trans ((if_neg (by simp; omega)).trans (if_neg hsh))
      have hsl := cut_mid s P N hP0 (by omega) (by omega)
      have hl : (s.extract P.toNat (P + N).toNat).size ≤ 1000000 := by simp; omega
      go_wp2_with fail
      refine (join_one (s.extract P.toNat (P + N).toNat) _ hl).mono ?_
      rintro e w1 ⟨rfl, hb⟩
      go_wp2
      go_ret3
      exact ⟨retT (a := s.extract P.toNat (P + N).toNat) (b := P + N) (c := 0) (by rw [HX.out]; exact HF.out), hb⟩
  · have HF : Hid (getT s (N, P, C) = _) := if_pos hC
    have HE : Hid (_ = _) := errV_n hC
    simp only [errV_n hC]
    clear hC
    go_wp2
    go_ret3
    exact ⟨(by rw [← HE.out]; exact retT (a := ⟨#[]⟩) (b := 0) (c := C) (by rw [HX.out]; exact HF.out)), Below.refl _ _⟩

end Go.Proofs.YtnhehdobpibgkaaGreatDoor
namespace Go.Proofs.YtnhehdobpibgkaaGreatDoor
open Go.RowKit

set_option maxRecDepth 100000 in
set_option maxHeartbeats 1000000 in
theorem specGetText_any (s : ByteArray) (at_ : Int) (w : World) (hs0 : s.size ≤ maxLen) (hb0 : -9223372036854775808 ≤ at_) (hb1 : at_ ≤ 9223372036854775807) :
    Calls Tryz.prog 42 #[.string s, .int .i64 at_] w fun e w' => e = .returned (.agg #[.string (getT s (numV s at_)).1, .int .i64 (getT s (numV s at_)).2.1, .int .i64 (getT s (numV s at_)).2.2]) ∧ Below w.heap.size w w' := by
  have HA : Hid (_ → _) := numV_at s at_
  have hm := hs0
  unfold maxLen at hm
  go_enter Tryz.func42, Tryz.ntmps42
  go_wp2_with fail
  refine (specGetNum_any s at_ _ hs0 hb0 hb1).mono ?_
  rintro e w1 ⟨rfl, hb⟩
  obtain ⟨⟨c0, c1, c2⟩, ⟨f0, f1, f2⟩, hz⟩ := keep3 hb
  have HB : Hid (_) := ((Below.refl w.heap.size w).alloc (Nat.le_refl _) _).trans (hb.mono (by simp))
  clear hb
  generalize hx : numV s at_ = x at *
  obtain ⟨N, P, C⟩ := x
  have HX : Hid (_ = _) := hx
  clear hx
  by_cases hC : C = 0
  · subst hC
    obtain ⟨hP0, hP1, hs8⟩ := HA.out rfl
    simp only at hP0 hP1
    by_cases hN0 : N < 0
    · have HF : Hid (getT s (N, P, 0) = _) := (if_neg (by simp)).trans (if_pos (Or.inl hN0))
      go_wp2
      refine bodyPost_ret (v := .agg #[.string ⟨#[]⟩, .int .i64 0, .int .i64 3]) (by simp [results, Tryz.results42, go_sem, c0, c1, c2, hz]) rfl ⟨textOut (by rw [HX.out]; exact HF.out), ?_⟩
      exact (((HB.out.setCell (by simp) _).setCell (by simp) _).setCell (by simp) _).alloc (by simp; omega) _
    by_cases hN1 : 8000 < N
    · have HF : Hid (getT s (N, P, 0) = _) := (if_neg (by simp)).trans (if_pos (Or.inr hN1))
      go_wp2
      refine bodyPost_ret (v := .agg #[.string ⟨#[]⟩, .int .i64 0, .int .i64 3]) (by simp [results, Tryz.results42, go_sem, c0, c1, c2, hz]) rfl ⟨textOut (by rw [HX.out]; exact HF.out), ?_⟩
      exact (((HB.out.setCell (by simp) _).setCell (by simp) _).setCell (by simp) _).alloc (by simp; omega) _
    by_cases hsh : (s.size : Int) - N < P
    · have HF : Hid (getT s (N, P, 0) = _) := (if_neg (by simp)).trans ((if_neg (by simp; omega)).trans (if_pos hsh))
      go_wp2
      refine bodyPost_ret (v := .agg #[.string ⟨#[]⟩, .int .i64 0, .int .i64 4]) (by simp [results, Tryz.results42, go_sem, c0, c1, c2, hz]) rfl ⟨textOut (by rw [HX.out]; exact HF.out), ?_⟩
      exact (((HB.out.setCell (by simp) _).setCell (by simp) _).setCell (by simp) _).alloc (by simp; omega) _
    · have HF : Hid (getT s (N, P, 0) = _) := (if_neg (by simp)).trans ((if_neg (by simp; omega)).trans (if_neg hsh))
      have hw1 : wrap64 (P + N) = P + N := by unfold wrap64; omega
      have hw2 : IntKind.i64.wrap (P + N) = P + N := by rw [IntKind.wrap_i64]; omega
      have hsl := cut_mid s P N hP0 (by omega) (by omega)
      go_wp2
      go_region
      go_wp2
      refine bodyPost_ret (v := .agg #[.string (s.extract P.toNat (P + N).toNat), .int .i64 (P + N), .int .i64 0]) (by simp [results, Tryz.results42, go_sem, c0, c1, c2, hz]) rfl ⟨textOut (by rw [HX.out]; exact HF.out), ?_⟩
      exact ((((HB.out.setCell (by simp) _).setCell (by simp) _).setCell (by simp) _).alloc (by simp; omega) _).drew
  · have HF : Hid (getT s (N, P, C) = _) := if_pos hC
    have hCb : (C == 0) = false := by rw [beq_eq_false_iff_ne]; exact hC
    go_wp2
    refine bodyPost_ret (v := .agg #[.string ⟨#[]⟩, .int .i64 0, .int .i64 C]) (by simp [results, Tryz.results42, go_sem, c0, c1, c2, hz]) rfl ⟨textOut (by rw [HX.out]; exact HF.out), ?_⟩
    exact (((HB.out.setCell (by simp) _).setCell (by simp) _).setCell (by simp) _).alloc (by simp; omega) _
end Go.Proofs.YtnhehdobpibgkaaGreatDoor
namespace Go.Proofs.YtnhehdobpibgkaaGreatDoor
open Go.RowKit
set_option linter.unusedVariables false

theorem OwnI.moreL {w : World} {B : Nat} {v : Value} {L M : List Int} (h : w.ownsRow B 2 1 v (L.length + M.length) (cellsI L ++ cellsI M)) : OwnI w B v (L ++ M) := by
  unfold OwnI
  rw [List.length_append]
  simpa [cellsI] using h
theorem one_cellsI (M : List Int) : ∀ u ∈ cellsI M, u.oneCell' = true := by
  intro u hu
  simp only [cellsI, List.mem_map] at hu
  obtain ⟨x, _, rfl⟩ := hu
  rfl
theorem OwnI.some {w : World} {B : Nat} {v : Value} {L : List Int} (h : OwnI w B v L) (hl : 0 < L.length) : ∃ g cap, v = .slice (some ⟨g, 0, none⟩) L.length cap ∧ B ≤ g ∧ L.length ≤ cap ∧ cap ≤ maxLen ∧ ∀ i (hi : i < L.length), w.cell? ⟨g, i, none⟩ = some (.int .i64 L[i]) := by
  rcases h.form with ⟨_, e⟩ | ⟨g, cap, cur, hv, hB, hg, h4, h5, h6, h7⟩
  · subst e; simp at hl
  · exact ⟨g, cap, hv, hB, h4, h5, fun i hi => by simp [World.cell?, hg, h7 i hi]⟩
theorem OwnI.drew {w : World} {B : Nat} {v : Value} {L : List Int} (h : OwnI w B v L) : OwnI w.drew B v L := h
theorem own_four {w x : World} {g : Nat} (h : Below w.heap.size w x) (hg : x.heap.size = g) {a b c d a' b' c' d' : Int} (e1 : a = a') (e2 : b = b') (e3 : c = c') (e4 : d = d') : OwnI (x.alloc (.cells #[.int .i64 a, .int .i64 b, .int .i64 c, .int .i64 d] 2)) w.heap.size (.slice (some ⟨g, 0, none⟩) 4 4) [a', b', c', d'] := by
  subst hg e1 e2 e3 e4
  exact OwnI.mk (L := [a, b, c, d]) h.size (heap_alloc_new x _) (by simp) (by simp [maxLen]) rfl (fun i hi => by
    match i, hi with
    | 0, _ => rfl
    | 1, _ => rfl
    | 2, _ => rfl
    | 3, _ => rfl)
/- One row behind the other. -/
theorem append_rowsI {w : World} {B B2 : Nat} {v v2 : Value} {L M : List Int} (h : OwnI w B v L) (h2 : OwnI w B2 v2 M) (hl : L.length ≤ 100000000) (hm : M.length ≤ 100000000) (hB : B ≤ w.heap.size) (ty : TypeId) :
    ∃ v' w', (Builtin.append_ #[88, 88] ty #[v, v2]).run Tryz.prog w = .ok v' w' ∧ OwnI w' B v' (L ++ M) ∧ w.grownBy w' v.ownBlock := by
  obtain ⟨i0, hi, hz0, hz1, hz2⟩ := info_parts infoI
  rcases h2.form with ⟨rfl, rfl⟩ | ⟨g, cap, cur, rfl, _, hg, h4, h5, h6, h7⟩
  · refine ⟨v, w, run_append_owned_none w B 88 ty 2 i0 1 Tryz.underlying88 hi v L.length (cellsI L) h, by simpa using h, ?_⟩
    exact ⟨rfl, rfl, rfl, Nat.le_refl _, fun _ _ _ => rfl⟩
  · obtain ⟨v', w', e, h8, h9, _⟩ := run_append_own (P := Tryz.prog) w B 88 ty 2 i0 (.int .i64 0) 1 8 Tryz.underlying88 hi hz0 hz1 hz2 rfl (by decide) v L.length (cellsI L) h ⟨g, 0, none⟩ M.length cap (cellsI M) (by simp [cellsI]) (fun j u hj => by
      have hjl : j < M.length := by have := (List.getElem?_eq_some_iff.1 hj).1; simpa [cellsI] using this
      have e : (⟨g, 0, none⟩ : Addr).add j = ⟨g, j, none⟩ := by unfold Addr.add; split <;> simp_all
      rw [e]
      simp [World.cell?, hg, h7 j hjl]
      simpa [cellsI, hjl] using hj) (one_cellsI M) (by unfold maxLen; omega) (by omega) hB
    exact ⟨v', w', e, OwnI.moreL h8, h9⟩
/- An append whose run is known. -/
theorem wpList_append_run {P : Program} {w : World} {ops : Array Oper} {rest : List Oper} {o : Oper} {a : Act} {Q : Exit → Act → World → Prop} (hgd : o.guard = none) (s x : Operand) (t : TypeId)
    (ho : o.op = .call { callee := .builtin .append, args := #[s, x], argTypes := #[t, t] }) (v y v' : Value) (w' : World) (hs : a.eval s = v) (hx : a.eval x = y)
    (hr : (Builtin.append_ #[t, t] o.type #[v, y]).run P w = .ok v' w') (h : wpList P ops Q rest (a.put o.dst v') w') : wpList P ops Q (o :: rest) a w :=
  wpList_plain hgd fun _ hK => by
    unfold Oper.wp execOp
    simp only [ho, resolve, invoke, builtin, Sem.run_bind, Sem.run_pure, Result.andThen_ok, List.map_toArray, List.map_cons, List.map_nil, hs, hx, hr]
    exact hK _ _ h
end Go.Proofs.YtnhehdobpibgkaaGreatDoor
namespace Go.Proofs.YtnhehdobpibgkaaGreatDoor
open Go.RowKit
set_option linter.unusedVariables false

theorem isWord_any (n : Int) (w : World) : Calls Tryz.prog 113 #[.int .i64 n] w fun e w' => e = .returned (.bool (isB n 0 65535)) ∧ w' = w := by
  by_cases h1 : 0 ≤ n
  · go_enter Tryz.func113, Tryz.ntmps113
    go_wp2
    go_ret
    exact ⟨ret_bool (by simp [isB, h1]), rfl⟩
  · go_enter Tryz.func113, Tryz.ntmps113
    go_wp2
    go_ret
    exact ⟨ret_bool (by simp [isB]; omega), rfl⟩
/- A list of numbers that a slice reads as. -/
def ReadI (w : World) (a : Option Addr) (L : List Int) : Prop := 0 < L.length → ∃ x : Addr, a = some x ∧ x.block < w.heap.size ∧ ∀ i (h : i < L.length), w.cell? (x.add i) = some (.int .i64 L[i])
theorem add_blockI (x : Addr) (i : Nat) : (x.add i).block = x.block := by unfold Addr.add; split <;> rfl
theorem ReadI.below {w w' : World} {a : Option Addr} {L : List Int} (h : ReadI w a L) (hb : Below w.heap.size w w') : ReadI w' a L := fun hl => by
  obtain ⟨x, rfl, hx, hc⟩ := h hl
  exact ⟨x, rfl, Nat.lt_of_lt_of_le hx hb.size, fun i hi => (hb.cell (by rw [add_blockI]; exact hx)).trans (hc i hi)⟩
theorem ReadI.alloc {w : World} {a : Option Addr} {L : List Int} (h : ReadI w a L) (o : Obj) : ReadI (w.alloc o) a L := h.below (below_new w o)
def wordsB (L : List Int) : Bool := L.all fun n => isB n 0 65535
theorem wordsB_step (L : List Int) (k : Nat) (h : k < L.length) : wordsB (L.drop k) = (isB L[k] 0 65535 && wordsB (L.drop (k + 1))) := by
  rw [List.drop_eq_getElem_cons h]; rfl
set_option maxRecDepth 100000 in
set_option maxHeartbeats 1600000 in
theorem areWords_any (a : Option Addr) (L : List Int) (cap : Nat) (w : World) (hR : ReadI w a L) (hl : L.length ≤ 1000000) :
    Calls Tryz.prog 106 #[.slice a L.length cap] w fun e w' => e = .returned (.bool (wordsB L)) ∧ w' = w := by
  have HR : Hid (_) := hR
  clear hR
  go_enter Tryz.func106, Tryz.ntmps106
  go_wp2
  go_loopw [7] (fun i wr => ∃ k : Nat, k ≤ L.length ∧ i = .int .i64 k ∧ Hid (wr = w) ∧ Hid (wordsB L = wordsB (L.drop k))) (fun i _ => L.length - (intOf i).toNat)
  case atStart => exact ⟨0, by omega, rfl, rfl, rfl⟩
  case round =>
    obtain ⟨k, hk, rfl, HW, HD⟩ := hrel
    have hw := HW.out
    subst hw
    by_cases hlt : k < L.length
    · obtain ⟨x, rfl, hx, hc⟩ := HR.out (by omega)
      have hck := hc k hlt
      clear hc
      have HS : Hid (_ = _) := wordsB_step L k hlt
      generalize hx' : L[k] = n at *
      clear hx'
      have hi0 : (0 : Int) ≤ (k : Int) := by omega
      have hi1 : (k : Int) < (L.length : Int) := by omega
      go_wp2_with fail
      refine (isWord_any n _).mono ?_
      rintro e w1 ⟨rfl, rfl⟩
      cases hb : isB n 0 65535
      · go_wp2
        go_ret
        exact ⟨ret_bool (by rw [HD.out, HS.out, hb]; rfl), rfl⟩
      · go_wp2
        go_roundw
        case rel => exact ⟨k + 1, by omega, by go_num, HW.out, by show _ = _; rw [HD.out, HS.out, hb]; rfl⟩
        case measure => simp [intOf]; omega
    · go_wp2
      go_ret
      exact ⟨ret_bool (by rw [HD.out, List.drop_of_length_le (by omega)]; rfl), rfl⟩
end Go.Proofs.YtnhehdobpibgkaaGreatDoor
