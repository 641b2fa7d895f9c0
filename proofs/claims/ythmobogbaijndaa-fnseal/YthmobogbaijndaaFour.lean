/- The four bytes of a CRC, in both ways. -/
import Derived.Test.YthmobogbaijndaaRows
import Derived.WalkKit
import Derived.WalkSpells
import Derived.WalkLawsBesides
import Derived.Test.YthmobogbaijndaaBase
import Derived.Test.YthmobogbaijndaaCopy
namespace Go.Proofs.Ythmobogbaijndaa
open Go.RowKit

def four (c : Nat) : ByteArray := ⟨#[UInt8.ofNat c, UInt8.ofNat (c / 256), UInt8.ofNat (c / 65536), UInt8.ofNat (c / 16777216)]⟩

theorem four_conv (c : Nat) (hc : c < 4294967296) (t : TypeId) (w : World) :
    (convert 22 9 (.slice (some ⟨w.heap.size, 0, none⟩) 4 4)).run Try.prog (w.alloc (.cells #[.int .u8 ((c : Int) % 256), .int .u8 ((c : Int) / 256 % 256), .int .u8 ((c : Int) / 65536 % 256), .int .u8 ((c : Int) / 16777216)] t)) =
      .ok (.string (four c)) (w.alloc (.cells #[.int .u8 ((c : Int) % 256), .int .u8 ((c : Int) / 256 % 256), .int .u8 ((c : Int) / 65536 % 256), .int .u8 ((c : Int) / 16777216)] t)) := by
  have h := run_convert_bytes_arg (P := Try.prog) (w.alloc (.cells #[.int .u8 ((c : Int) % 256), .int .u8 ((c : Int) / 256 % 256), .int .u8 ((c : Int) / 65536 % 256), .int .u8 ((c : Int) / 16777216)] t)) 22 5 Try.underlying22 Try.underlying5 w.heap.size 0 4 4 [(c : Int) % 256, (c : Int) / 256 % 256, (c : Int) / 65536 % 256, (c : Int) / 16777216] rfl (fun i hi => ?_) 9 Try.underlying9
  · rw [h]
    have e : strOfNums [(c : Int) % 256, (c : Int) / 256 % 256, (c : Int) / 65536 % 256, (c : Int) / 16777216] = four c := by
      have e1 : ((c : Int) % 256).toNat = c % 256 := by omega
      have e2 : ((c : Int) / 256 % 256).toNat = c / 256 % 256 := by omega
      have e3 : ((c : Int) / 65536 % 256).toNat = c / 65536 % 256 := by omega
      have e4 : ((c : Int) / 16777216).toNat = c / 16777216 := by omega
      simp only [strOfNums, four, List.map_cons, List.map_nil, e1, e2, e3, e4]
      have m : ∀ x : Nat, UInt8.ofNat (x % 256) = UInt8.ofNat x := fun x => by
        apply UInt8.toNat_inj.1; simp
      rw [m, m, m]
    rw [e]
  · match i, hi with
    | 0, _ => simp
    | 1, _ => simp
    | 2, _ => simp
    | 3, _ => simp
theorem four_size (c : Nat) : (four c).size = 4 := rfl

set_option maxHeartbeats 400000 in
theorem l01Four_any (c : Nat) (w : World) (hc : c < 4294967296) :
    Calls Try.prog 19 #[.int .i64 (c : Int)] w fun e w' => e = .returned (.string (four c)) ∧ Below w.heap.size w w' := by
  have hcv := four_conv c hc 5 w
  go_enter Try.func19, Try.ntmps19
  go_wp2
  go_ret
  exact ⟨rfl, (Below.refl _ _).alloc (Nat.le_refl _) _⟩

set_option maxHeartbeats 400000 in
theorem crcText_any (c : Nat) (w : World) (hc : c < 4294967296) :
    Calls Try.prog 18 #[.int .i64 (c : Int)] w fun e w' => e = .returned (.string (four c)) ∧ Below w.heap.size w w' := by
  have hcv := four_conv c hc 48 w
  go_enter Try.func18, Try.ntmps18
  go_wp2
  refine wp_loop_rounds 5 ?_
  rw [rounds_succ]
  go_wp2
  rw [rounds_succ]
  go_wp2
  rw [rounds_succ]
  go_wp2
  rw [rounds_succ]
  go_wp2
  rw [rounds_succ]
  go_wp2
  go_ret
  exact ⟨rfl, (Below.refl _ _).alloc (Nat.le_refl _) _⟩
end Go.Proofs.Ythmobogbaijndaa
