/- A reader takes an operation's name: what the map of the places has. -/
import Derived.Test.YtodjccipfonaiaaGreatDoorRows
import Derived.WalkKit
import Derived.WalkSpells
import Derived.WalkLawsBesides
import Derived.Outline
import Derived.RegionTactic
import Derived.BigRegion
import Derived.Deep.QuietTactic
import Derived.BigQuiet
import Derived.Deep.RegionHeld3
import Derived.Test.YtodjccipfonaiaaGreatDoorBun0
import Derived.Test.YtodjccipfonaiaaGreatDoorBun3
import Derived.Test.YtodjccipfonaiaaGreatDoorBun34
import Derived.Test.YtodjccipfonaiaaGreatDoorBun35
import Derived.Maps.OwnSet
import Derived.Test.YtodjccipfonaiaaGreatDoorBun25
import Derived.ChangeAlike
namespace Go.Proofs.YtodjccipfonaiaaGreatDoor
open Go.RowKit
set_option linter.unusedVariables false

def hasB (p : ByteArray) : Bool := Maps.has (rowsD 3) (.string p.data.toList)
theorem look_has {w : World} {b n : Nat} {p : ByteArray} (h : OwnP w b n (rowsD 3)) (hp : p.size ≤ 8000) : ∃ k i : Int, (Instr.lookup 51 (.map (some b)) (.string p) true).run Tryz.prog w = .ok (.tuple #[.agg #[.int .i64 k, .int .i64 i], .bool (hasB p)]) w ∧ (rowsD 3).atKey (.string p.data.toList) (encP 0 0) = encP k i := by
  obtain ⟨v, ps, hrun, hv⟩ := World.ownsMap.look_ok h lawS Tryz.underlying51 (zeroP w) (plR_mk 0 0) (WideMaps.keyOf_string_mk Tryz.underlying9 (s := p) (by unfold maxLen; omega))
  have h2 := hv
  unfold plR at h2
  split at h2
  · rename_i a
    split at h2
    · rename_i k i he
      have ha : a = #[.int .i64 k, .int .i64 i] := Array.toList_inj.1 (by rw [he])
      subst ha
      simp only [Option.some.injEq, Prod.mk.injEq] at h2
      exact ⟨k, i, hrun, h2.1.symm⟩
    · cases h2
  · cases h2
set_option maxRecDepth 100000 in
set_option maxHeartbeats 1600000 in
theorem op1_any (p : ByteArray) (mv mb n : Nat) (w : World) (hm : w.heap[mv]? = some (.cells #[.map (some mb)] 51 (0, 0))) (hO : OwnP w mb n (rowsD 3)) (hp : p.size ≤ 8000) : Calls Tryz.prog 97 #[.string p, .pointer (some ⟨mv, 0, none⟩)] w fun e w' => e = .returned (.bool (hasB p)) ∧ Below w.heap.size w w' := by
  have c0 := cell_of_row _ _ 0 _ _ _ hm
  obtain ⟨k, i, hl, _⟩ := look_has hO hp
  clear hm hO
  generalize hasB p = hb at *
  go_enter Tryz.func97, Tryz.ntmps97
  go_wp2
  go_ret
  exact ⟨rfl, below_new _ _⟩
end Go.Proofs.YtodjccipfonaiaaGreatDoor
namespace Go.Proofs.YtodjccipfonaiaaGreatDoor
open Go.RowKit
set_option linter.unusedVariables false

theorem wayHalf (z : Int) (h0 : -65537 ≤ z) (h1 : z ≤ 65537) : -100000 ≤ z.tdiv 2 ∧ z.tdiv 2 ≤ 100000 := by
  rcases Int.le_total 0 z with h | h
  · rw [Int.tdiv_eq_ediv_of_nonneg h]; omega
  · have e : z.tdiv 2 = -((-z).tdiv 2) := by rw [Int.neg_tdiv, Int.neg_neg]
    rw [e, Int.tdiv_eq_ediv_of_nonneg (by omega)]; omega
def wayT (L : List ByteArray) : Option (Int × List ByteArray) := match numT 65535 (signT L).2 with
  | none => none
  | some (n, L1) => if (signT L).1 = 0 then none else if n % 2 = 0 then some (((signT L).1 * n - 2).tdiv 2, L1) else none
def WayOut (b g t : Nat) (w : World) (L : List ByteArray) (e : Ending) (w' : World) : Prop := ∃ x n ok a' cap' L', e = .returned (.bool ok) ∧ wayT L = (if ok then some (n, L') else none) ∧ -100000 ≤ n ∧ n ≤ 100000 ∧ Rd x b g a' cap' L' ∧ But b w x ∧ ((ok = false ∧ w' = x) ∨ (ok = true ∧ w' = x.setCell ⟨t, 10, none⟩ (.int .i64 n)))
set_option maxRecDepth 100000 in
set_option maxHeartbeats 1600000 in
theorem way_any (b g cap t : Nat) (a : Option Addr) (L : List ByteArray) (w : World) (cs : Array Value) (hR : Rd w b g a cap L) (hT : w.heap[t]? = some (.cells cs 64 (0, 0))) (hc : cs.size = 17) (htb : t ≠ b) : Calls Tryz.prog 115 #[.pointer (some ⟨b, 0, none⟩), .pointer (some ⟨t, 0, none⟩)] w (WayOut b g t w L) := by
  have HR : Hid (Rd w b g a cap L) := hR
  have HT : Hid (w.heap[t]? = _) := hT
  have htw := heap_lt hT
  clear hR hT
  go_enter Tryz.func115, Tryz.ntmps115
  go_wp2_with fail
  refine (sign_any b g cap a L _ HR.out).mono ?_
  rintro e x1 ⟨a1, cap1, rfl, hR1, hB1⟩
  have HR1 : Hid (_) := hR1
  have HB1 : Hid (But b w x1) := hB1
  clear hR1 hB1 HR
  have hsc : (signT L).1 = 0 ∨ (signT L).1 = 1 ∨ (signT L).1 = -1 := by
    rcases signT_cases L with ⟨h, _⟩ | ⟨c, L3, _, _, h⟩
    · exact .inl h
    · rw [h]; show sgn c = 0 ∨ sgn c = 1 ∨ sgn c = -1; unfold sgn; split <;> omega
  have HW : Hid (wayT L = match numT 65535 (signT L).2 with | none => none | some (n, L1) => if (signT L).1 = 0 then none else if n % 2 = 0 then some (((signT L).1 * n - 2).tdiv 2, L1) else none) := rfl
  generalize (signT L).1 = s at *
  generalize (signT L).2 = L1 at *
  go_wp2_with fail
  refine (number_any 65535 b g cap1 a1 L1 _ HR1.out).mono ?_
  rintro e x2 ⟨n, ok, a2, cap2, L2, rfl, hN, hL2, hn0, hn1, hR2, hB2⟩
  have HR2 : Hid (_) := hR2
  have HB2 : Hid (But b w x2) := HB1.out.trans hB2
  have HN : Hid (_ = _) := hN
  have HT2 : Hid (x2.heap[t]? = _) := But.keep HT.out HB2.out htb
  have hnle : ok = true → n ≤ 65535 := fun h => by
    have h2 := HN.out
    rw [h] at h2
    obtain ⟨p, _, _, h3⟩ := numT_some h2
    exact h3
  clear hR2 hB2 hN hL2 HB1 HR1
  have ct : x2.cell? ⟨t, 10, none⟩ = some (cs[10]'(by omega)) := by
    simp [World.cell?, HT2.out]
  have zt : x2.frozen? ⟨t, 10, none⟩ = false := frozen_of_row _ _ 10 _ _ HT2.out
  have hst := heap_lt HT2.out
  cases ok
  · have HQ : Hid (wayT L = none) := by show _ = _; rw [HW.out, HN.out]; rfl
    clear hnle
    by_cases hs : s = 0
    · have e1 : (s == 0) = true := by rw [beq_iff_eq]; exact hs
      go_wp2
      go_ret
      exact ⟨x2, 0, false, a2, cap2, L2, rfl, HQ.out, by omega, by omega, HR2.out, HB2.out, .inl ⟨rfl, rfl⟩⟩
    · have e1 : (s == 0) = false := by rw [beq_eq_false_iff_ne]; exact hs
      go_wp2
      go_ret
      exact ⟨x2, 0, false, a2, cap2, L2, rfl, HQ.out, by omega, by omega, HR2.out, HB2.out, .inl ⟨rfl, rfl⟩⟩
  · have hnle := hnle rfl
    by_cases hs : s = 0
    · have HQ : Hid (wayT L = none) := by show _ = _; rw [HW.out, HN.out]; exact if_pos hs
      have e1 : (s == 0) = true := by rw [beq_iff_eq]; exact hs
      go_wp2
      go_ret
      exact ⟨x2, 0, false, a2, cap2, L2, rfl, HQ.out, by omega, by omega, HR2.out, HB2.out, .inl ⟨rfl, rfl⟩⟩
    · have e1 : (s == 0) = false := by rw [beq_eq_false_iff_ne]; exact hs
      by_cases hm : n % 2 = 0
      · have HQ : Hid (wayT L = some ((s * n - 2).tdiv 2, L2)) := by show _ = _; rw [HW.out, HN.out]; show (if s = 0 then none else if n % 2 = 0 then _ else none) = _; rw [if_neg hs, if_pos hm]
        have e5 : (n % 2 != 0) = false := by rw [bne_eq_false_iff_eq]; exact hm
        have hb1 : s * n ≤ 65535 := by rcases hsc with rfl | rfl | rfl <;> omega
        have hb2 : -65535 ≤ s * n := by rcases hsc with rfl | rfl | rfl <;> omega
        have hh := wayHalf (s * n - 2) (by omega) (by omega)
        clear hsc hm
        go_wp2
        go_ret
        exact ⟨x2, _, true, a2, cap2, L2, rfl, HQ.out, hh.1, hh.2, HR2.out, HB2.out, .inr ⟨rfl, rfl⟩⟩
      · have HQ : Hid (wayT L = none) := by show _ = _; rw [HW.out, HN.out]; show (if s = 0 then none else if n % 2 = 0 then _ else none) = _; rw [if_neg hs, if_neg hm]
        have e5 : (n % 2 != 0) = true := by rw [bne_iff_ne]; exact hm
        go_wp2
        go_ret
        exact ⟨x2, 0, false, a2, cap2, L2, rfl, HQ.out, by omega, by omega, HR2.out, HB2.out, .inl ⟨rfl, rfl⟩⟩
end Go.Proofs.YtodjccipfonaiaaGreatDoor
namespace Go.Proofs.YtodjccipfonaiaaGreatDoor
open Go.RowKit
set_option linter.unusedVariables false

/- All blocks but two are kept. -/
structure But2 (b t : Nat) (w w' : World) : Prop where
  os : w'.os = w.os
  tape : w'.tape = w.tape
  output : w'.output = w.output
  size : w.heap.size ≤ w'.heap.size
  block : ∀ k, k < w.heap.size → k ≠ b → k ≠ t → w'.heap[k]? = w.heap[k]?
theorem But2.of {b t : Nat} {w x : World} (h : But b w x) : But2 b t w x := ⟨h.os, h.tape, h.output, h.size, fun k hk hb _ => h.block k hk hb⟩
theorem But2.trans {b t : Nat} {x y z : World} (h : But2 b t x y) (k : But2 b t y z) : But2 b t x z :=
  ⟨k.os.trans h.os, k.tape.trans h.tape, k.output.trans h.output, Nat.le_trans h.size k.size, fun i hi hb ht => (k.block i (Nat.lt_of_lt_of_le hi h.size) hb ht).trans (h.block i hi hb ht)⟩
theorem But2.but {b t : Nat} {x y z : World} (h : But2 b t x y) (k : But b y z) : But2 b t x z := h.trans (But2.of k)
theorem But2.call {b t : Nat} {x y z : World} (h : But2 b t x y) (hb : Below y.heap.size y z) : But2 b t x z := h.but (But.of hb)
theorem But2.alloc {b t : Nat} {x y : World} (h : But2 b t x y) (o : Obj) : But2 b t x (y.alloc o) := h.call (below_new y o)
theorem But2.drew {b t : Nat} {x y : World} (h : But2 b t x y) : But2 b t x y.drew := ⟨h.os, h.tape, h.output, h.size, h.block⟩
theorem But2.setT {b t : Nat} {x y : World} (h : But2 b t x y) {p : Addr} (hp : p.block = t) (v : Value) : But2 b t x (y.setCell p v) :=
  h.trans ⟨rfl, rfl, rfl, by simp [World.setCell], fun k _ _ hk => Below.heap_setCell _ _ _ _ (by rw [hp]; exact hk)⟩
theorem But2.below {b t B : Nat} {W w w' : World} (h : Below B W w) (hb : But2 b t w w') (hB : B ≤ b) (hT : B ≤ t) (hs : B ≤ w.heap.size) : Below B W w' :=
  h.trans ⟨hb.os, hb.tape, hb.output, hb.size, fun k hk => hb.block k (by omega) (by omega) (by omega)⟩
theorem But2.keep {b t B : Nat} {w w' : World} {o : Obj} (h : w.heap[B]? = some o) (hb : But2 b t w w') (hne : B ≠ b) (hnt : B ≠ t) : w'.heap[B]? = some o := (hb.block B (heap_lt h) hne hnt).trans h
theorem Rd.drew {w : World} {b g : Nat} {a : Option Addr} {cap : Nat} {L : List ByteArray} (h : Rd w b g a cap L) : Rd w.drew b g a cap L := ⟨h.row, h.read, h.at', h.len, h.cap, h.less, h.text⟩
theorem Rd.six6 {w : World} {b g t : Nat} {a : Option Addr} {cap : Nat} {L : List ByteArray} (h : Rd w b g a cap L) (ht : t ≠ b) (hg : g ≠ t) (i0 i1 i2 i3 i4 i5 : Nat) (v0 v1 v2 v3 v4 v5 : Value) : Rd ((((((w.setCell ⟨t, i0, none⟩ v0).setCell ⟨t, i1, none⟩ v1).setCell ⟨t, i2, none⟩ v2).setCell ⟨t, i3, none⟩ v3).setCell ⟨t, i4, none⟩ v4).setCell ⟨t, i5, none⟩ v5) b g a cap L :=
  Rd.setN (p := ⟨t, i5, none⟩) ht hg (Rd.setN (p := ⟨t, i4, none⟩) ht hg (Rd.setN (p := ⟨t, i3, none⟩) ht hg (Rd.setN (p := ⟨t, i2, none⟩) ht hg (Rd.setN (p := ⟨t, i1, none⟩) ht hg (Rd.setN (p := ⟨t, i0, none⟩) ht hg h)))))
theorem But2.six6 {b t : Nat} {x w : World} (h : But2 b t x w) (i0 i1 i2 i3 i4 i5 : Nat) (v0 v1 v2 v3 v4 v5 : Value) : But2 b t x ((((((w.setCell ⟨t, i0, none⟩ v0).setCell ⟨t, i1, none⟩ v1).setCell ⟨t, i2, none⟩ v2).setCell ⟨t, i3, none⟩ v3).setCell ⟨t, i4, none⟩ v4).setCell ⟨t, i5, none⟩ v5) :=
  (((((h.setT (p := ⟨t, i0, none⟩) rfl v0).setT (p := ⟨t, i1, none⟩) rfl v1).setT (p := ⟨t, i2, none⟩) rfl v2).setT (p := ⟨t, i3, none⟩) rfl v3).setT (p := ⟨t, i4, none⟩) rfl v4).setT (p := ⟨t, i5, none⟩) rfl v5
def setO (cs : Array Value) (j : Nat) (m r n : Int) (l : Bool) : Array Value := (((cs.setIfInBounds j (.int .i64 m)).setIfInBounds (j + 1) (.int .i64 r)).setIfInBounds (j + 2) (.int .i64 n)).setIfInBounds (j + 3) (.bool l)
def setW (cs : Array Value) (j : Nat) (nm : ByteArray) (k : Int) : Array Value := (cs.setIfInBounds j (.string nm)).setIfInBounds (j + 1) (.int .i64 k)
/- The cells of an Insn as it is read: what they are of. -/
def Fit (cs : Array Value) : Prop := ∃ (p : ByteArray) (b : Bool) (m : Int) (r : Int) (n : Int) (l : Bool) (m2 : Int) (r2 : Int) (n2 : Int) (l2 : Bool) (j : Int) (s : ByteArray) (k1 : Int) (d : ByteArray) (k2 : Int) (jn : ByteArray) (k3 : Int), cs = #[.string p, .bool b, .int .i64 m, .int .i64 r, .int .i64 n, .bool l, .int .i64 m2, .int .i64 r2, .int .i64 n2, .bool l2, .int .i64 j, .string s, .int .i64 k1, .string d, .int .i64 k2, .string jn, .int .i64 k3]
theorem fit_O2 {cs : Array Value} (h : Fit cs) (M R K : Int) (Q : Bool) : Fit (setO cs 2 M R K Q) := by
  obtain ⟨p, b, m, r, n, l, m2, r2, n2, l2, j, s, k1, d, k2, jn, k3, rfl⟩ := h
  exact ⟨p, b, M, R, K, Q, m2, r2, n2, l2, j, s, k1, d, k2, jn, k3, by unfold setO; simp only [List.setIfInBounds_toArray, List.set_cons_zero, List.set_cons_succ]⟩
theorem fit_O6 {cs : Array Value} (h : Fit cs) (M R K : Int) (Q : Bool) : Fit (setO cs 6 M R K Q) := by
  obtain ⟨p, b, m, r, n, l, m2, r2, n2, l2, j, s, k1, d, k2, jn, k3, rfl⟩ := h
  exact ⟨p, b, m, r, n, l, M, R, K, Q, j, s, k1, d, k2, jn, k3, by unfold setO; simp only [List.setIfInBounds_toArray, List.set_cons_zero, List.set_cons_succ]⟩
theorem fit_W11 {cs : Array Value} (h : Fit cs) (S : ByteArray) (K : Int) : Fit (setW cs 11 S K) := by
  obtain ⟨p, b, m, r, n, l, m2, r2, n2, l2, j, s, k1, d, k2, jn, k3, rfl⟩ := h
  exact ⟨p, b, m, r, n, l, m2, r2, n2, l2, j, S, K, d, k2, jn, k3, by unfold setW; simp only [List.setIfInBounds_toArray, List.set_cons_zero, List.set_cons_succ]⟩
theorem fit_W13 {cs : Array Value} (h : Fit cs) (S : ByteArray) (K : Int) : Fit (setW cs 13 S K) := by
  obtain ⟨p, b, m, r, n, l, m2, r2, n2, l2, j, s, k1, d, k2, jn, k3, rfl⟩ := h
  exact ⟨p, b, m, r, n, l, m2, r2, n2, l2, j, s, k1, S, K, jn, k3, by unfold setW; simp only [List.setIfInBounds_toArray, List.set_cons_zero, List.set_cons_succ]⟩
theorem fit_W15 {cs : Array Value} (h : Fit cs) (S : ByteArray) (K : Int) : Fit (setW cs 15 S K) := by
  obtain ⟨p, b, m, r, n, l, m2, r2, n2, l2, j, s, k1, d, k2, jn, k3, rfl⟩ := h
  exact ⟨p, b, m, r, n, l, m2, r2, n2, l2, j, s, k1, d, k2, S, K, by unfold setW; simp only [List.setIfInBounds_toArray, List.set_cons_zero, List.set_cons_succ]⟩
theorem fit_J {cs : Array Value} (h : Fit cs) (K : Int) : Fit (cs.setIfInBounds 10 (.int .i64 K)) := by
  obtain ⟨p, b, m, r, n, l, m2, r2, n2, l2, j, s, k1, d, k2, jn, k3, rfl⟩ := h
  exact ⟨p, b, m, r, n, l, m2, r2, n2, l2, K, s, k1, d, k2, jn, k3, by simp only [List.setIfInBounds_toArray, List.set_cons_zero, List.set_cons_succ]⟩
theorem setO_size (cs : Array Value) (j : Nat) (m r n : Int) (l : Bool) : (setO cs j m r n l).size = cs.size := by simp [setO]
theorem setW_size (cs : Array Value) (j : Nat) (nm : ByteArray) (k : Int) : (setW cs j nm k).size = cs.size := by simp [setW]
theorem heap_setO {W : World} {t : Nat} {cs : Array Value} {ty : TypeId} (h : W.heap[t]? = some (.cells cs ty (0, 0))) (j : Nat) (m r n : Int) (l : Bool) :
    ((((W.setCell ⟨t, j, none⟩ (.int .i64 m)).setCell ⟨t, j + 1, none⟩ (.int .i64 r)).setCell ⟨t, j + 2, none⟩ (.int .i64 n)).setCell ⟨t, j + 3, none⟩ (.bool l)).heap[t]? = some (.cells (setO cs j m r n l) ty (0, 0)) :=
  heap_set (heap_set (heap_set (heap_set h j _) (j + 1) _) (j + 2) _) (j + 3) _
theorem heap_setW {W : World} {t : Nat} {cs : Array Value} {ty : TypeId} (h : W.heap[t]? = some (.cells cs ty (0, 0))) (j : Nat) (nm : ByteArray) (k : Int) :
    ((W.setCell ⟨t, j, none⟩ (.string nm)).setCell ⟨t, j + 1, none⟩ (.int .i64 k)).heap[t]? = some (.cells (setW cs j nm k) ty (0, 0)) :=
  heap_set (heap_set h j _) (j + 1) _
theorem cell17 {W : World} {t : Nat} {cs : Array Value} {ty : TypeId} {fr : Nat × Nat} (h : W.heap[t]? = some (.cells cs ty fr)) (hc : cs.size = 17) (i : Nat) (hi : i < 17) : W.cell? ⟨t, i, none⟩ = some (cs[i]'(by omega)) := by
  simp [World.cell?, h]
def OneOut (b g t : Nat) (cs : Array Value) (w : World) (L : List ByteArray) (e : Ending) (w' : World) : Prop := ∃ m r n l nm k ok a' cap' L', e = .returned (.bool ok) ∧ operT L = (if ok then some (((m, r, n, l), nm, k), L') else none) ∧ Rd w' b g a' cap' L' ∧ w'.heap[t]? = some (.cells (setW (setO cs 2 m r n l) 11 nm k) 64 (0, 0)) ∧ But2 b t w w'
set_option maxRecDepth 100000 in
set_option maxHeartbeats 1600000 in
theorem oneOpd_any (w0 : World) (b g cap t : Nat) (a : Option Addr) (L : List ByteArray) (w : World) (cs : Array Value) (hR : Rd w b g a cap L) (hP : Pow w0) (hF : Far w0 w b) (hT : w.heap[t]? = some (.cells cs 64 (0, 0))) (hc : cs.size = 17) (htb : t ≠ b) (hgt : g ≠ t) : Calls Tryz.prog 100 #[.pointer (some ⟨b, 0, none⟩), .pointer (some ⟨t, 0, none⟩)] w (OneOut b g t cs w L) := by
  have HR : Hid (Rd w b g a cap L) := hR
  have HT : Hid (w.heap[t]? = _) := hT
  have HP : Hid (Pow w0) := hP
  have HF : Hid (Far w0 w b) := hF
  clear hR hT hP hF
  go_enter Tryz.func100, Tryz.ntmps100
  go_wp2_with fail
  refine (operand_any w0 b g cap a L _ HR.out HP.out HF.out).mono ?_
  rintro e x1 ⟨m, r, n, l, nm, k, ok, a1, cap1, L1, rfl, hN, hR1, hB1⟩
  have HR1 : Hid (Rd x1 b g a1 cap1 L1) := hR1
  have HB1 : Hid (But b w x1) := hB1
  have HN : Hid (_ = _) := hN
  have HT1 : Hid (x1.heap[t]? = _) := But.keep HT.out HB1.out htb
  clear hR1 hB1 hN HR HT
  have hst := heap_lt HT1.out
  have c2 := cell17 HT1.out hc 2 (by omega)
  have c3 := cell17 HT1.out hc 3 (by omega)
  have c4 := cell17 HT1.out hc 4 (by omega)
  have c5 := cell17 HT1.out hc 5 (by omega)
  have c11 := cell17 HT1.out hc 11 (by omega)
  have c12 := cell17 HT1.out hc 12 (by omega)
  have z2 : x1.frozen? ⟨t, 2, none⟩ = false := frozen_of_row _ _ 2 _ _ HT1.out
  have z3 : x1.frozen? ⟨t, 3, none⟩ = false := frozen_of_row _ _ 3 _ _ HT1.out
  have z4 : x1.frozen? ⟨t, 4, none⟩ = false := frozen_of_row _ _ 4 _ _ HT1.out
  have z5 : x1.frozen? ⟨t, 5, none⟩ = false := frozen_of_row _ _ 5 _ _ HT1.out
  have z11 : x1.frozen? ⟨t, 11, none⟩ = false := frozen_of_row _ _ 11 _ _ HT1.out
  have z12 : x1.frozen? ⟨t, 12, none⟩ = false := frozen_of_row _ _ 12 _ _ HT1.out
  go_wp2
  go_region
  go_wp2
  go_ret
  exact ⟨m, r, n, l, nm, k, ok, a1, cap1, L1, rfl, HN.out, ((HR1.out.six6 htb hgt 2 3 4 5 11 12 _ _ _ _ _ _).alloc _).drew, heap_more (heap_setW (heap_setO HT1.out 2 m r n l) 11 nm k) _, (((But2.of HB1.out).six6 2 3 4 5 11 12 _ _ _ _ _ _).alloc _).drew⟩
end Go.Proofs.YtodjccipfonaiaaGreatDoor
