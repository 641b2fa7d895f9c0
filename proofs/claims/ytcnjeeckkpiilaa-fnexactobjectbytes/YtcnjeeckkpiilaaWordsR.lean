/- Words: single ones, and rows of them that are read, by the program. -/
import Derived.Test.YtcnjeeckkpiilaaRows
import Derived.WalkKit
import Derived.WalkSpells
import Derived.WalkLawsBesides
import Derived.Outline
import Derived.Test.YtcnjeeckkpiilaaBase
import Derived.Test.YtcnjeeckkpiilaaRes2
import Derived.Test.YtcnjeeckkpiilaaIsa
namespace Go.Proofs.Ytcnjeeckkpiilaa
open Go.RowKit
set_option linter.unusedVariables false

theorem isWord_any (n : Int) (w : World) : Calls Try.prog 97 #[.int .i64 n] w fun e w' => e = .returned (.bool (isB n 0 65535)) ∧ w' = w := by
  by_cases h1 : 0 ≤ n
  · go_enter Try.func97, Try.ntmps97
    go_wp2
    go_ret
    exact ⟨ret_bool (by simp [isB, h1]), rfl⟩
  · go_enter Try.func97, Try.ntmps97
    go_wp2
    go_ret
    exact ⟨ret_bool (by simp [isB]; omega), rfl⟩
/- A list of numbers that a slice reads as. -/
def ReadI (w : World) (a : Option Addr) (L : List Int) : Prop := 0 < L.length → ∃ x : Addr, a = some x ∧ x.block < w.heap.size ∧ ∀ i (h : i < L.length), w.cell? (x.add i) = some (.int .i64 L[i])
theorem add_blockI (x : Addr) (i : Nat) : (x.add i).block = x.block := by unfold Addr.add; split <;> rfl
theorem ReadI.below {w w' : World} {a : Option Addr} {L : List Int} (h : ReadI w a L) (hb : Below w.heap.size w w') : ReadI w' a L := fun hl => by
  obtain ⟨x, rfl, hx, hc⟩ := h hl
  exact ⟨x, rfl, Nat.lt_of_lt_of_le hx hb.size, fun i hi => (hb.cell (by rw [add_blockI]; exact hx)).trans (hc i hi)⟩
theorem ReadI.alloc {w : World} {a : Option Addr} {L : List Int} (h : ReadI w a L) (o : Obj) : ReadI (w.alloc o) a L := h.below (below_new w o)
def wordsB (L : List Int) : Bool := L.all fun n => isB n 0 65535
theorem wordsB_step (L : List Int) (k : Nat) (h : k < L.length) : wordsB (L.drop k) = (isB L[k] 0 65535 && wordsB (L.drop (k + 1))) := by
  rw [List.drop_eq_getElem_cons h]; rfl
set_option maxRecDepth 100000 in
set_option maxHeartbeats 1600000 in
theorem areWords_any (a : Option Addr) (L : List Int) (cap : Nat) (w : World) (hR : ReadI w a L) (hl : L.length ≤ 1000000) :
    Calls Try.prog 72 #[.slice a L.length cap] w fun e w' => e = .returned (.bool (wordsB L)) ∧ w' = w := by
  have HR : Hid (_) := hR
  clear hR
  go_enter Try.func72, Try.ntmps72
  go_wp2
  go_loopw [7] (fun i wr => ∃ k : Nat, k ≤ L.length ∧ i = .int .i64 k ∧ Hid (wr = w) ∧ Hid (wordsB L = wordsB (L.drop k))) (fun i _ => L.length - (intOf i).toNat)
  case atStart => exact ⟨0, by omega, rfl, rfl, rfl⟩
  case round =>
    obtain ⟨k, hk, rfl, HW, HD⟩ := hrel
    have hw := HW.out
    subst hw
    by_cases hlt : k < L.length
    · obtain ⟨x, rfl, hx, hc⟩ := HR.out (by omega)
      have hck := hc k hlt
      clear hc
      have HS : Hid (_ = _) := wordsB_step L k hlt
      generalize hx' : L[k] = n at *
      clear hx'
      have hi0 : (0 : Int) ≤ (k : Int) := by omega
      have hi1 : (k : Int) < (L.length : Int) := by omega
      go_wp2_with fail
      refine (isWord_any n _).mono ?_
      rintro e w1 ⟨rfl, rfl⟩
      cases hb : isB n 0 65535
      · go_wp2
        go_ret
        exact ⟨ret_bool (by rw [HD.out, HS.out, hb]; rfl), rfl⟩
      · go_wp2
        go_roundw
        case rel => exact ⟨k + 1, by omega, by go_num, HW.out, by show _ = _; rw [HD.out, HS.out, hb]; rfl⟩
        case measure => simp [intOf]; omega
    · go_wp2
      go_ret
      exact ⟨ret_bool (by rw [HD.out, List.drop_of_length_le (by omega)]; rfl), rfl⟩
end Go.Proofs.Ytcnjeeckkpiilaa
