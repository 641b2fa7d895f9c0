/- joinTexts over a row of texts anywhere, of any number. -/
import Derived.Test.YtnhehdobpibgkaaRows
import Derived.WalkKit
import Derived.WalkSpells
import Derived.WalkLawsBesides
import Derived.Test.YtnhehdobpibgkaaBase
import Derived.Test.YtnhehdobpibgkaaCopy
import Derived.Test.YtnhehdobpibgkaaJoin
import Derived.Test.YtnhehdobpibgkaaRowX
import Derived.Test.YtnhehdobpibgkaaOwnS
namespace Go.Proofs.Ytnhehdobpibgkaa
open Go.RowKit

def strC (s : ByteArray) : List Value := [.string s]
theorem made_rowX (w : World) (n : Nat) (hn : n ≤ 400000000) : ∃ Z : List Value, Z.length = n ∧
    (Instr.makeSlice 35 (.int .i64 (n : Int)) (.int .i64 (n : Int))).run Try.prog w = .ok (.slice (some ⟨w.heap.size, 0, none⟩) n n) (w.alloc (.cells Z.toArray 5)) := by
  obtain ⟨i0, hi, hz0, hz1, hz2⟩ := info_parts info5
  have h := run_make (P := Try.prog) w 35 5 i0 (.int .u8 0) Try.underlying35 hi hz0 .i64 .i64 n n (by omega) (by omega) (by rw [hz2]; omega) (by omega)
  refine ⟨(madeCells (Value.int .u8 0).cells (n * i0.size)).toList, ?_, ?_⟩
  · rw [Array.length_toList, size_madeCells, hz1]; omega
  · rw [h]; simp
theorem RowIs.str {w : World} {a : Option Addr} {ts : List ByteArray} (h : RowIs 1 strC w a ts) (k : Nat) (hk : k < ts.length) : ∃ x : Addr, a = some x ∧ x.block < w.heap.size ∧ w.cell? (x.add k) = some (.string ts[k]) := by
  obtain ⟨x, hx, hb, hc⟩ := h (by omega)
  refine ⟨x, hx, hb, ?_⟩
  have := hc k hk 0 (.string ts[k]) rfl
  rwa [Nat.mul_one, Nat.add_zero] at this
theorem OwnS.rows {w : World} {B : Nat} {v : Value} {L : List ByteArray} (h : OwnS w B v L) : ∃ a cap, v = .slice a L.length cap ∧ RowIs 1 strC w a L := by
  rcases h.form with ⟨rfl, rfl⟩ | ⟨g, cap, cur, rfl, hB, hg, h4, h5, h6, h7⟩
  · exact ⟨none, 0, rfl, fun h => absurd h (by simp)⟩
  · refine ⟨_, cap, rfl, fun hl => ⟨_, rfl, heap_lt hg, fun i hi j v hv => ?_⟩⟩
    match j, hv with
    | 0, hv =>
      simp only [strC, List.getElem?_cons_zero, Option.some.injEq] at hv
      subst hv
      rw [add_zero_block, cell_of_row w g _ _ _ _ hg, Nat.mul_one, Nat.add_zero]
      exact h7 i hi
    | j + 1, hv => simp [strC] at hv
set_option maxRecDepth 100000 in
set_option maxHeartbeats 800000 in
theorem join_rows (ts : List ByteArray) (a : Option Addr) (cap : Nat) (w : World) (hR : RowIs 1 strC w a ts) (hlen : ts.length ≤ 2000000) (htot : (catL ts).size ≤ 400000000) :
    Calls Try.prog 12 #[.slice a ts.length cap] w fun e w' => e = .returned (.string (catL ts)) ∧ Below w.heap.size w w' := by
  have HC : Hid (RowIs 1 strC w a ts) := hR
  clear hR
  go_enter Try.func12, Try.ntmps12
  go_wp2
  go_loop [3, 12] (fun m i => ∃ k : Nat, k ≤ ts.length ∧ i = .int .i64 k ∧ m = .int .i64 ((catL (ts.take k)).size : Nat)) (fun _ i => ts.length - (intOf i).toNat)
  case atStart => exact ⟨0, by omega, rfl, by simp [catL]⟩
  case round =>
    obtain ⟨k, hk, rfl, rfl⟩ := hrel
    have hle := catL_le ts k
    by_cases hlt : k < ts.length
    · obtain ⟨x, rfl, hx, hck⟩ := HC.out.str k hlt
      have HS : Hid (_ = _) := catL_take_size ts k hlt
      have hle2 := catL_le ts (k + 1)
      rw [catL_take_size ts k hlt] at hle2
      go_wp2
      exact ⟨⟨k + 1, by omega, by go_num, by rw [HS.out]; go_num⟩, by simp [intOf]; omega⟩
    · obtain rfl : k = ts.length := by omega
      obtain ⟨Z, hZ, hmk⟩ := made_rowX w (catL ts).size htot
      go_wp2
      go_loopw [7, 25] (fun m i wr => ∃ k : Nat, k ≤ ts.length ∧ i = .int .i64 k ∧ m = .int .i64 ((catL (ts.take k)).size : Nat) ∧ ∃ R : List Value, Hid (wr.heap[w.heap.size]? = some (.cells R.toArray 5 (0, 0))) ∧ R.length = (catL ts).size ∧ Hid (R.take (catL (ts.take k)).size = bcells (catL (ts.take k))) ∧ Below w.heap.size w wr) (fun _ i _ => ts.length - (intOf i).toNat)
      case atStart => exact ⟨0, by omega, rfl, by simp [catL], Z, heap_alloc_new _ _, hZ, by simp [catL, bcells, Hid], (Below.refl _ _).alloc (Nat.le_refl _) _⟩
      case round =>
        obtain ⟨k, hk, rfl, rfl, R, HR, hRl, HT, hB⟩ := hrel
        have hle := catL_le ts k
        clear hmk
        by_cases hlt : k < ts.length
        · obtain ⟨x, rfl, hx, hck⟩ := (HC.out.below hB).str k hlt
          have HS : Hid (_ = _) := catL_take_size ts k hlt
          have hle2 := catL_le ts (k + 1)
          rw [catL_take_size ts k hlt] at hle2
          obtain ⟨dp, hdp, hsl⟩ := cut_row w.heap.size (catL ts).size (catL (ts.take k)).size hle
          have HD : Hid (_ → _) := hdp
          clear hdp
          obtain ⟨w2, hcp, HR2, hB2⟩ := copy_text (P := Try.prog) wr 35 9 3 5 Try.underlying35 size5 dp _ ((catL ts).size - (catL (ts.take k)).size) ts[k] w.heap.size (catL (ts.take k)).size R 5 HR.out (show ts[k].size ≤ (catL ts).size - (catL (ts.take k)).size by omega) (fun h => HD.out (by omega)) (by omega) w.heap.size w hB (Nat.le_refl _)
          go_wp2
          have HT2 : Hid (_ = _) := row_step ts k hlt R hRl HT.out
          go_roundw
          case rel => exact ⟨k + 1, by omega, by go_num, by rw [HS.out]; go_num, splice R (catL (ts.take k)).size (bcells ts[k]), HR2, by rw [length_splice _ _ _ (by rw [bcells_len]; omega)]; exact hRl, HT2, hB2⟩
          case measure => simp [intOf]; omega
        · obtain rfl : k = ts.length := by omega
          have hcv := row_text ts R wr HR.out hRl HT.out
          go_wp2
          go_ret
          exact ⟨rfl, hB⟩

theorem join_ownX (ts : List ByteArray) (v : Value) (B : Nat) (w : World) (h : OwnS w B v ts) (hlen : ts.length ≤ 2000000) (htot : (catL ts).size ≤ 400000000) :
    Calls Try.prog 12 #[v] w fun e w' => e = .returned (.string (catL ts)) ∧ Below w.heap.size w w' := by
  obtain ⟨a, cap, rfl, hR⟩ := h.rows
  exact join_rows ts a cap w hR hlen htot
theorem new_rows (w : World) (ts : List ByteArray) : RowIs 1 strC (w.alloc (.cells (ts.map Value.string).toArray 9)) (some ⟨w.heap.size, 0, none⟩) ts :=
  made_rowIs (fun _ => rfl) (by rw [heap_alloc_new]; congr 2; induction ts with | nil => rfl | cons t ts ih => simp_all [strC])
theorem join_new (ts : List ByteArray) (n : Nat) (w : World) (hn : ts.length = n) (hlen : n ≤ 2000000) (htot : (catL ts).size ≤ 400000000) :
    Calls Try.prog 12 #[.slice (some ⟨w.heap.size, 0, none⟩) n n] (w.alloc (.cells (ts.map Value.string).toArray 9)) fun e w' => e = .returned (.string (catL ts)) ∧ Below w.heap.size w w' := by
  subst hn
  exact (join_rows ts _ _ _ (new_rows w ts) hlen htot).mono fun e w' hw => ⟨hw.1, below_call (below_new w _) hw.2⟩
end Go.Proofs.Ytnhehdobpibgkaa
