/- Where a rune stands among the sixteen digits. -/
import Derived.Test.YtcjpfdlodphkeaaRows
import Derived.WalkKit
import Derived.WalkSpells
import Derived.WalkLawsBesides
import Derived.Outline
import Derived.RegionTactic
import Derived.BigRegion
import Derived.Deep.RegionHeld3
import Derived.Laws.Externs
import Derived.Laws.Runes
import Derived.Lib.OthersKept
import Derived.Test.YtcjpfdlodphkeaaBase
import Derived.Test.YtcjpfdlodphkeaaRes2
import Derived.Test.YtcjpfdlodphkeaaIdxB
import Derived.Test.YtcjpfdlodphkeaaGoto
import Derived.Test.YtcjpfdlodphkeaaPieces
namespace Go.Proofs.Ytcjpfdlodphkeaa
open Go.RowKit
set_option linter.unusedVariables false

theorem jumps_ret {J : Nat → Act → World → Prop} {Q : Exit → Act → World → Prop} {a : Act} {w : World} (h : Q .ret a w) : jumps J Q .ret a w := h
theorem hexD_low : ∀ b ∈ hexD.data.toList, b.toNat < 128 := by decide +kernel
theorem hexV_high (r : Int) (h : 128 ≤ r) : hexV r = -1 := by unfold hexV; rw [if_neg (by omega), if_neg (by omega)]
theorem idx_none (S : ByteArray) (a e : Nat) (c : UInt8) (hS : ∀ b ∈ S.data.toList, b.toNat < 128) (h : 128 ≤ c.toNat) (W : World) : Calls Try.prog 68 #[.string (S.extract a e), .int .u8 (c.toNat : Int)] W fun e w' => e = .returned (.int .i64 (-1)) ∧ w' = W := by
  have k := idxByte_any (S.extract a e) (c.toNat : Int) W
  have e1 : ((c.toNat : Int)).toNat.toUInt8 = c := by simp
  rw [e1, firstIdx_ascii S a e c hS h] at k
  exact k
theorem cut_rest (s : ByteArray) (k : Nat) (h : k + 1 ≤ s.size) (W : World) : (Instr.slice 9 (.string s) (some (.int .i64 ((k : Int) + 1))) none none).run Try.prog W = .ok (.string (s.extract (k + 1) s.size)) W := by
  have e : ((k : Int) + 1).toNat = k + 1 := by omega
  simp [Instr.slice, run_underlying Try.underlying9, Instr.sliceBounds, run_sliceBound, e, (by omega : 0 ≤ (k : Int) + 1), (by omega : (k : Int) + 1 ≤ (s.size : Int))]
set_option maxRecDepth 100000 in
set_option maxHeartbeats 3200000 in
theorem idxRune_long (S E : ByteArray) (k : Nat) (r : Int) (w : World) (h0 : 128 ≤ r) (h1 : r ≤ 1114111) (hv : r < 55296 ∨ (¬ r < 55296 ∧ 57343 < r)) (hne : ¬ r = 65533) (hEq : Utf8.encode r = E) (hk : E.size = k + 1) (hk0 : 1 ≤ k) (hk3 : k ≤ 3) (hE : ∀ h : k < E.size, 128 ≤ (E[k]'h).toNat) (hS : S.size = 16) (hl : ∀ b ∈ S.data.toList, b.toNat < 128) : Calls Try.prog 65 #[.string S, .int .i32 r] w fun e w' => e = .returned (.int .i64 (-1)) ∧ Below w.heap.size w w' := by
  have n1 : ¬ r < 128 := by omega
  have n2 : (r == 65533) = false := by rw [beq_eq_false_iff_ne]; exact hne
  have n0 : 0 ≤ r := by omega
  have hkE : k < E.size := by omega
  have hkS : k < S.size := by omega
  have hx := hE hkE
  have hSk : S[k].toNat < 128 := hl _ (by simp [ByteArray.getElem_eq_getElem_data])
  have HL : Hid (∀ W, Calls Try.prog 68 #[.string (S.extract (k + 1) S.size), .int .u8 (E[k].toNat : Int)] W fun e w' => e = .returned (.int .i64 (-1)) ∧ w' = W) := fun W => idx_none S _ _ _ hl hx W
  have q1 : ((S[k].toNat : Int) != (E[k].toNat : Int)) = true := by rw [bne_iff_ne]; omega
  have q2 : (0 : Int) ≤ (k : Int) := by omega
  have q3 : (k : Int) < (E.size : Int) := by omega
  have q4 : (k : Int) < (S.size : Int) := by omega
  have q5 : (k : Int) + 1 ≤ (S.size : Int) := by omega
  have q6 : (E.size : Int) - 1 = (k : Int) := by omega
  have q7 : wrap64 (k : Int) = (k : Int) := IntWalk.wrap64_in _ (by omega)
  have q8 : wrap64 ((k : Int) + 1) = (k : Int) + 1 := IntWalk.wrap64_in _ (by omega)
  have q9 := fun W => cut_rest S k (by omega) W
  have q10 : (0 : Int) ≤ (k : Int) + 1 := by omega
  have q11 : IntKind.i64.wrap ((k : Int) + 1) = (k : Int) + 1 := by rw [IntWalk.i64_left]; exact q8
  clear hne hl hE hk hS hk0 hk3
  rcases hv with hv | ⟨hv, hv2⟩
  all_goals
    go_enter Try.func65, Try.ntmps65
    go_wp2
    refine wp_scope_gotos (fun _ _ _ => False) (fun _ _ _ => 0) ?_ (fun _ _ _ h => h.elim)
    go_wp2
    go_loopw [9] (fun i wr => i = .int .i64 (k : Int) ∧ wr = w) (fun _ _ => 0)
    case atStart => exact ⟨by first | rfl | rw [q7] | (simp only [q6, q7]), rfl⟩
    case round =>
      obtain ⟨rfl, rfl⟩ := hrel
      go_wp2
      refine wp_scope_gotos (fun _ _ _ => False) (fun _ _ _ => 0) ?_ (fun _ _ _ h => h.elim)
      go_wp2
      go_region
      go_wp2
      go_region_held3 (fun _ => True) (exact trivial) (first | (go_at_call 68; refine (HL.out _).mono ?_; rintro e x' ⟨rfl, hx'⟩; have hxe := hx'.symm; subst hxe; clear hx'))
      all_goals
        go_wp2
        refine jumps_ret ?_
        (try go_wp2)
        (try refine jumps_ret ?_)
        (try go_wp2)
        first | go_ret | (trace_state; fail)
        exact ⟨rfl, by repeat (first | exact Below.refl _ _ | refine Below.drew ?_)⟩
set_option maxRecDepth 100000 in
set_option maxHeartbeats 3200000 in
theorem idxRune_err (S : ByteArray) (w : World) (hS : S.size = 16) (hl : ∀ b ∈ S.data.toList, b.toNat < 128) : Calls Try.prog 65 #[.string S, .int .i32 65533] w fun e w' => e = .returned (.int .i64 (-1)) ∧ Below w.heap.size w w' := by
  have HL : Hid (∀ p, (h : p < S.size) → S[p].toNat < 128) := fun p h => hl _ (by simp [ByteArray.getElem_eq_getElem_data])
  clear hl
  go_enter Try.func65, Try.ntmps65
  go_wp2
  go_loopw [] (fun wr => ∃ p : Nat, p ≤ S.size ∧ Hid (wr.heap[w.heap.size]? = some (.stringIter S p)) ∧ Hid (Below w.heap.size w wr)) (fun wr => match wr.heap[w.heap.size]? with | some (.stringIter _ p) => S.size - p | _ => 0)
  case atStart => exact ⟨0, by omega, World.iter_heap w S 0, below_new _ _⟩
  case round =>
    obtain ⟨p, hp, HIT, HB⟩ := hrel
    by_cases hlt : p < S.size
    · have hn := fun ty => Lib.run_next_ascii_at (P := Try.prog) wr w.heap.size S p ty HIT.out hlt (HL.out p hlt)
      have hc := HL.out p hlt
      have HI2 : Hid (_ = _) := Lib.iterAt_heap wr w.heap.size S p (p + 1) HIT.out
      have HB2 : Hid (Below w.heap.size w _) := iter_below (s := S) (pos := p + 1) HB.out
      have q : ((S[p].toNat : Int) == 65533) = false := by rw [beq_eq_false_iff_ne]; omega
      go_wp2
      go_roundw
      case rel => exact ⟨p + 1, by omega, HI2.out, HB2.out⟩
      case measure => have h1 := HI2.out; have h2 := HIT.out; simp only [h1, h2]; omega
    · have hn := fun ty => Lib.run_next_end_at (P := Try.prog) wr w.heap.size S p ty HIT.out hlt
      go_wp2
      go_ret
      exact ⟨rfl, HB.out⟩
theorem idxRune_any (r : Int) (w : World) (h0 : 0 ≤ r) (h1 : r ≤ 1114111) (hv : r < 55296 ∨ (¬ r < 55296 ∧ 57343 < r)) : Calls Try.prog 65 #[.string ⟨#[48, 49, 50, 51, 52, 53, 54, 55, 56, 57, 97, 98, 99, 100, 101, 102]⟩, .int .i32 r] w fun e w' => e = .returned (.int .i64 (hexV r)) ∧ Below w.heap.size w w' := by
  by_cases hlo : r < 128
  · refine (idxRune_low r w h0 hlo).mono ?_
    rintro e w' ⟨rfl, rfl⟩
    exact ⟨rfl, Below.refl _ _⟩
  · rw [hexV_high r (by omega)]
    by_cases he : r = 65533
    · subst he
      exact idxRune_err hexD w rfl hexD_low
    · have hval : Utf8.valid r = true := by rw [validRune_eq]; unfold validRune; simp; omega
      obtain ⟨hE2, hE4, hEl⟩ := encode_facts r hval (by omega)
      exact (idxRune_long hexD (Utf8.encode r) ((Utf8.encode r).size - 1) r w (by omega) h1 hv he rfl (by omega) (by omega) (by omega) hEl rfl hexD_low)
end Go.Proofs.Ytcjpfdlodphkeaa
