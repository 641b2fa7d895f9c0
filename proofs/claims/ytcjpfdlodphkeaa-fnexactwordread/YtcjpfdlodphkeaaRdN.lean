/- A reader takes a number. -/
import Derived.Test.YtcjpfdlodphkeaaRows
import Derived.WalkKit
import Derived.WalkSpells
import Derived.WalkLawsBesides
import Derived.Outline
import Derived.Test.YtcjpfdlodphkeaaBase
import Derived.Test.YtcjpfdlodphkeaaRes2
import Derived.Test.YtcjpfdlodphkeaaNumP
import Derived.Test.YtcjpfdlodphkeaaRdM
namespace Go.Proofs.Ytcjpfdlodphkeaa
open Go.RowKit
set_option linter.unusedVariables false

def numM (most : Int) (p : ByteArray) : Option Int := match numR p with | some n => if n ≤ most then some n else none | none => none
theorem numT_M (most : Int) (p : ByteArray) (L : List ByteArray) : numT most (p :: L) = (numM most p).map (fun n => (n, L)) := by
  show (match numR p with | some n => if n ≤ most then some (n, L) else none | none => none) = _
  unfold numM
  cases numR p with
  | none => rfl
  | some n =>
    dsimp only
    split <;> rfl
def Num1Q (most : Int) (p : ByteArray) (t0 : Nat) (w : World) (ok : Bool) (w' : World) : Prop :=
  (ok = false ∧ numM most p = none ∧ Below w.heap.size w w') ∨ (ok = true ∧ ∃ n, numM most p = some n ∧ 0 ≤ n ∧ n ≤ 1048576 ∧ w'.heap[t0]? = some (.cells #[.int .i64 n] 2 (0, 0)) ∧ But t0 w w')
def Num1Out (most : Int) (p : ByteArray) (t0 : Nat) (w : World) (e : Ending) (w' : World) : Prop := ∃ ok, e = .returned (.bool ok) ∧ Num1Q most p t0 w ok w'
set_option maxRecDepth 100000 in
set_option maxHeartbeats 1600000 in
theorem num1_any (p : ByteArray) (most n0 : Int) (m0 t0 : Nat) (w : World) (hm : w.heap[m0]? = some (.cells #[.int .i64 most] 2 (0, 0))) (ht : w.heap[t0]? = some (.cells #[.int .i64 n0] 2 (0, 0))) (hp : p.size ≤ 8000) : Calls Try.prog 60 #[.string p, .pointer (some ⟨m0, 0, none⟩), .pointer (some ⟨t0, 0, none⟩)] w (Num1Out most p t0 w) := by
  have HM : Hid (w.heap[m0]? = _) := hm
  have HT : Hid (w.heap[t0]? = _) := ht
  clear hm ht
  go_enter Try.func60, Try.ntmps60
  go_wp2_with fail
  refine (numberOf_any p _ hp).mono ?_
  rintro e x ⟨n, ok, rfl, hN, hn0, hn1, hb⟩
  have HN : Hid (_ = _) := hN
  have HM1 : Hid (_ = _) := heap_keep HM.out hb
  have HT1 : Hid (_ = _) := heap_keep HT.out hb
  have HB : Hid (Below w.heap.size w x) := hb
  clear hN hb HM HT
  have c1 := cell_of_one HM1.out
  have z1 := free_of_one HT1.out
  have c2 := cell_of_one HT1.out
  cases ok
  · go_wp2
    go_ret
    exact ⟨false, rfl, .inl ⟨rfl, by unfold numM; rw [HN.out]; rfl, HB.out⟩⟩
  · by_cases hle : n ≤ most
    · have HQ : Hid (numM most p = some n) := by show _ = _; unfold numM; rw [HN.out]; exact if_pos hle
      have hle' : ¬ most < n := by omega
      go_wp2
      go_ret
      exact ⟨true, rfl, .inr ⟨rfl, n, HQ.out, hn0, hn1, heap_set HT1.out 0 _, But.setB (p := ⟨t0, 0, none⟩) (But.of HB.out) rfl _⟩⟩
    · have HQ : Hid (numM most p = none) := by show _ = _; unfold numM; rw [HN.out]; exact if_neg hle
      have hle' : most < n := by omega
      go_wp2
      go_ret
      exact ⟨false, rfl, .inl ⟨rfl, HQ.out, HB.out⟩⟩
theorem num1_enters (args : Array Value) (W : World) : (callFunc 60 args).run Try.prog W = .ok (.enter 60 args) W :=
  enters_mk Try.func60 (by kernel_rfl) rfl args W
def NumberOut (most : Int) (b g : Nat) (w : World) (L : List ByteArray) (e : Ending) (w' : World) : Prop := ∃ n ok a' cap' L', e = .returned (.tuple #[.int .i64 n, .bool ok]) ∧ numT most L = (if ok then some (n, L') else none) ∧ (ok = false → n = 0 ∧ L' = L) ∧ 0 ≤ n ∧ n ≤ 1048576 ∧ Rd w' b g a' cap' L' ∧ But b w w'
set_option maxRecDepth 100000 in
set_option maxHeartbeats 1600000 in
theorem number_any (most : Int) (b g cap : Nat) (a : Option Addr) (L : List ByteArray) (w : World) (hR : Rd w b g a cap L) : Calls Try.prog 46 #[.pointer (some ⟨b, 0, none⟩), .int .i64 most] w (NumberOut most b g w L) := by
  have HR : Hid (Rd w b g a cap L) := hR
  have hbw := heap_lt hR.row
  clear hR
  have HR2 : Hid (Rd ((w.alloc (.cells #[.int .i64 most] 2)).alloc (.cells #[.int .i64 0] 2)) b g a cap L) := (HR.out.alloc _).alloc _
  have HM0 : Hid (_ = _) := heap_more (heap_alloc_new w (.cells #[.int .i64 most] 2)) (.cells #[.int .i64 0] 2)
  have HT0 : Hid (_ = _) := heap_new2 w (.cells #[.int .i64 most] 2) (.cells #[.int .i64 0] 2)
  have HB0 : Hid (Below w.heap.size w _) := below_more (below_new w (.cells #[.int .i64 most] 2)) (.cells #[.int .i64 0] 2)
  have hsz : w.heap.size + 2 = ((w.alloc (.cells #[.int .i64 most] 2)).alloc (.cells #[.int .i64 0] 2)).heap.size := by simp
  cases L with
  | nil =>
    go_enter Try.func46, Try.ntmps46
    go_wp2_with fail
    refine (take_nil b g _ cap _ a _ HR2.out).mono ?_
    rintro e x ⟨rfl, hx⟩
    have hx' := hx.symm
    subst hx'
    clear hx
    have c1 := cell_of_one HT0.out
    go_wp2
    go_ret2
    exact ⟨0, false, a, cap, [], rfl, rfl, fun _ => ⟨rfl, rfl⟩, by omega, by omega, HR2.out, But.of HB0.out⟩
  | cons p L =>
    have hps := HR.out.text p (List.mem_cons_self ..)
    go_enter Try.func46, Try.ntmps46
    go_wp2_with fail
    refine (take_cons b g _ cap _ a p L _ (Num1Q most p (w.heap.size + 1) ((w.alloc (.cells #[.int .i64 most] 2)).alloc (.cells #[.int .i64 0] 2))) num1_enters HR2.out ?_).mono ?_
    · refine (num1_any p most 0 w.heap.size (w.heap.size + 1) _ HM0.out HT0.out hps).mono ?_
      rintro e x ⟨ok, rfl, hQ⟩
      refine ⟨ok, rfl, ?_, hQ⟩
      rcases hQ with ⟨_, _, hb⟩ | ⟨_, n, _, _, _, _, hb⟩
      · exact HR2.out.call hb
      · exact HR2.out.but hb (by omega) (by have := HR.out.at'; omega)
    · rintro e x ⟨ok, y, hQ, hRy, hcase⟩
      rcases hcase with ⟨rfl, rfl, rfl⟩ | ⟨rfl, rfl, a', hRx, rfl⟩
      · rcases hQ with ⟨_, hq, hb⟩ | ⟨h, _⟩
        · have HX : Hid (Rd x b g a cap (p :: L)) := hRy
          have HB : Hid (Below w.heap.size w x) := below_call HB0.out hb
          have HQ : Hid (_ = _) := hq
          have HT1 : Hid (_ = _) := heap_keep HT0.out hb
          clear hRy hb hq
          have c1 := cell_of_one HT1.out
          go_wp2
          go_ret2
          exact ⟨0, false, a, cap, p :: L, rfl, by rw [numT_M, HQ.out]; rfl, fun _ => ⟨rfl, rfl⟩, by omega, by omega, HX.out, But.of HB.out⟩
        · cases h
      · rcases hQ with ⟨h, _⟩ | ⟨_, n, hq, hn0, hn1, ht, hb⟩
        · cases h
        · have HX : Hid (Rd _ b g a' (cap - 1) L) := hRx
          have HB : Hid (Below w.heap.size w y) := But.below HB0.out hb (by omega) (by omega)
          have HQ : Hid (_ = _) := hq
          have HT1 : Hid (_ = _) := set_far (a := ⟨b, 0, none⟩) (v := .slice a' L.length (cap - 1)) (show w.heap.size + 1 ≠ b by omega) ht
          clear hRy hRx hb hq ht
          have c1 := cell_of_one HT1.out
          go_wp2
          go_ret2
          exact ⟨n, true, a', cap - 1, L, rfl, by rw [numT_M, HQ.out]; rfl, fun h => (by cases h), hn0, hn1, HX.out, But.setB (p := ⟨b, 0, none⟩) (But.of HB.out) rfl _⟩
end Go.Proofs.Ytcjpfdlodphkeaa
