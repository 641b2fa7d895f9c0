/- The walk of FnExactDecode. -/
import Derived.Test.YtknielpkmablkaaDoorRows
import Derived.WalkKit
import Derived.WalkSpells
import Derived.WalkLawsBesides
import Derived.Outline
import Derived.Test.YtknielpkmablkaaDoorBun0
import Derived.Test.YtknielpkmablkaaDoorBun1
import Derived.Test.YtknielpkmablkaaDoorBun3
import Derived.Test.YtknielpkmablkaaDoorBun15
import Derived.Test.YtknielpkmablkaaDoorBun25
import Derived.Test.YtknielpkmablkaaDoorIsaD16X
import Derived.Test.YtknielpkmablkaaDoorIsaX
namespace Go.Proofs.YtknielpkmablkaaDoor
open Go.RowKit
set_option linter.unusedVariables false

theorem row_read {w : World} {a : Option Addr} {len cap : Nat} {zs : List Int} (h : (a = none ∧ len = 0 ∧ cap = 0 ∧ zs = []) ∨ ∃ x, a = some x ∧ len ≤ cap ∧ cap ≤ maxLen ∧ zs.length = cap ∧ (∀ i, i < zs.length → w.cell? (x.add i) = some (.int .i64 (zs.getD i 0))) ∧ ∀ n ∈ zs, (Lit.int .i64 n).wf = true) : ∃ L : List Int, L.length = len ∧ ReadI w a L ∧ L.length ≤ maxLen := by
  rcases h with ⟨rfl, rfl, rfl, rfl⟩ | ⟨x, rfl, h1, h2, h3, h4, _⟩
  · exact ⟨[], rfl, fun h => by simp at h, by simp⟩
  · have hl : (zs.take len).length = len := by simp; omega
    refine ⟨zs.take len, hl, fun h0 => ⟨x, rfl, ?_, fun i hi => ?_⟩, by omega⟩
    · have h := World.block_lt_of_cell? w _ (h4 0 (by omega))
      rwa [add_blockI] at h
    · rw [h4 i (by omega)]
      simp [List.getD, show i < zs.length by omega]
end Go.Proofs.YtknielpkmablkaaDoor
namespace Go.Proofs.YtknielpkmablkaaDoor
open Go.RowKit
set_option linter.unusedVariables false

def hexd (n : Nat) : UInt8 := UInt8.ofNat (if n < 10 then 48 + n else 55 + n)
def hex2 (b : Int) : List UInt8 := [hexd (b / 16).toNat, hexd (b % 16).toNat]
def hexs (bs : List Int) : List UInt8 := bs.flatMap hex2
def sumB : List Int → Int
  | [] => 0
  | b :: r => b + sumB r
theorem sumB_append (a b : List Int) : sumB (a ++ b) = sumB a + sumB b := by
  induction a with
  | nil => simp [sumB]
  | cons x r ih => simp [sumB, ih]; omega
theorem sumB_take (L : List Int) (k : Nat) (h : k < L.length) : sumB (L.take (k + 1)) = sumB (L.take k) + L[k] := by
  rw [List.take_succ_eq_append_getElem h, sumB_append]; simp [sumB]
def bytesB (L : List Int) : Prop := ∀ b ∈ L, 0 ≤ b ∧ b ≤ 255
theorem sumB_bd : ∀ (L : List Int), bytesB L → 0 ≤ sumB L ∧ sumB L ≤ 255 * (L.length : Int)
  | [], _ => by simp [sumB]
  | b :: r, h => by
    have h1 := h b (by simp)
    have h2 := sumB_bd r (fun x hx => h x (by simp [hx]))
    simp [sumB]
    omega
theorem bytesB.take {L : List Int} (h : bytesB L) (k : Nat) : bytesB (L.take k) := fun b hb => h b (List.mem_of_mem_take hb)
theorem bytesB.at {L : List Int} (h : bytesB L) (k : Nat) (hk : k < L.length) : 0 ≤ L[k] ∧ L[k] ≤ 255 := h _ (List.getElem_mem hk)
def ckB (bs : List Int) : Int := (256 - sumB bs % 256) % 256
def recL (bs : List Int) : List UInt8 := 58 :: (hexs bs ++ (hex2 (ckB bs) ++ [10]))
def pairB (w : Int) : List Int := [w % 256, w / 256]
def pairsB (ws : List Int) : List Int := ws.flatMap pairB
def rowB (a : Int) (ws : List Int) : List Int := [2 * (ws.length : Int), a / 256, a % 256, 0] ++ pairsB ws
def rowL (base : Int) (L : List Int) (k : Nat) : List UInt8 := recL (rowB (base + 16 * (k : Int)) ((L.drop (8 * k)).take 8))
def rowsL (base : Int) (L : List Int) (k : Nat) : List UInt8 := (List.range k).flatMap (rowL base L)
theorem rowsL_succ (base : Int) (L : List Int) (k : Nat) : rowsL base L (k + 1) = rowsL base L k ++ rowL base L k := by
  unfold rowsL; rw [List.range_succ, List.flatMap_append]; simp
def endL : List UInt8 := [58, 48, 48, 48, 48, 48, 48, 48, 49, 70, 70, 10]
def hexN (L : List Int) : Nat := (L.length + 7) / 8
def baseB (b : Int) : Bool := isB b 0 65534 && (b % 2 == 0)
def hexB (base : Int) (L : List Int) : Bool := decide (L.length ≤ 400) && (baseB base && (decide (base + 2 * (L.length : Int) ≤ 65536) && wordsB L))
def hexL (base : Int) (L : List Int) : List UInt8 := rowsL base L (hexN L) ++ endL
def hexT (base : Int) (L : List Int) : ByteArray := if hexB base L then ⟨(hexL base L).toArray⟩ else ⟨#[]⟩
theorem hexs_len (bs : List Int) : (hexs bs).length = 2 * bs.length := by
  induction bs with
  | nil => rfl
  | cons b r ih => simp only [hexs, List.flatMap_cons, List.length_append, List.length_cons] at *; rw [ih]; simp [hex2]; omega
theorem hexs_append (a b : List Int) : hexs (a ++ b) = hexs a ++ hexs b := by simp [hexs]
theorem hexs_take (L : List Int) (k : Nat) (h : k < L.length) : hexs (L.take (k + 1)) = hexs (L.take k) ++ hex2 L[k] := by
  rw [List.take_succ_eq_append_getElem h, hexs_append]; simp [hexs]
theorem pairs_len (ws : List Int) : (pairsB ws).length = 2 * ws.length := by
  induction ws with
  | nil => rfl
  | cons b r ih => simp only [pairsB, List.flatMap_cons, List.length_append, List.length_cons] at *; rw [ih]; simp [pairB]; omega
theorem pairs_append (a b : List Int) : pairsB (a ++ b) = pairsB a ++ pairsB b := by simp [pairsB]
theorem pairs_take (L : List Int) (k : Nat) (h : k < L.length) : pairsB (L.take (k + 1)) = pairsB (L.take k) ++ pairB L[k] := by
  rw [List.take_succ_eq_append_getElem h, pairs_append]; simp [pairsB]
theorem rowB_len (a : Int) (ws : List Int) : (rowB a ws).length = 4 + 2 * ws.length := by simp [rowB, pairs_len]; omega
theorem recL_len (bs : List Int) : (recL bs).length = 2 * bs.length + 4 := by simp [recL, hexs_len, hex2]
theorem rowL_len (base : Int) (L : List Int) (k : Nat) : (rowL base L k).length ≤ 44 := by
  unfold rowL; rw [recL_len, rowB_len]; simp; omega
theorem rowsL_len (base : Int) (L : List Int) (k : Nat) : (rowsL base L k).length ≤ 44 * k := by
  induction k with
  | zero => simp [rowsL]
  | succ k ih => rw [rowsL_succ, List.length_append]; have := rowL_len base L k; omega
theorem words_bd {L : List Int} (h : wordsB L = true) : ∀ n ∈ L, 0 ≤ n ∧ n ≤ 65535 := by
  intro n hn
  have := List.all_eq_true.1 h n hn
  simp [isB] at this
  omega
theorem words_of {L : List Int} (h : ∀ n ∈ L, 0 ≤ n ∧ n ≤ 65535) : wordsB L = true := by
  refine List.all_eq_true.2 fun n hn => ?_
  have := h n hn
  simp [isB]
  omega
theorem rowB_bytes {a : Int} {ws : List Int} (h0 : 0 ≤ a) (h1 : a ≤ 65535) (hl : ws.length ≤ 8) (hw : ∀ n ∈ ws, 0 ≤ n ∧ n ≤ 65535) : bytesB (rowB a ws) := by
  intro b hb
  simp only [rowB, List.cons_append, List.nil_append, List.mem_cons, pairsB, List.mem_flatMap, pairB, List.not_mem_nil, or_false] at hb
  rcases hb with rfl | rfl | rfl | rfl | ⟨n, hn, rfl | rfl⟩
  · omega
  · omega
  · omega
  · omega
  · have := hw n hn; omega
  · have := hw n hn; omega
theorem base_ok {b : Int} (h : baseB b = true) : 0 ≤ b ∧ b ≤ 65534 ∧ b % 2 = 0 := by
  unfold baseB isB at h; simp at h; omega
theorem hexB_ok {b : Int} {L : List Int} (h : hexB b L = true) : L.length ≤ 400 ∧ (0 ≤ b ∧ b ≤ 65534 ∧ b % 2 = 0) ∧ b + 2 * (L.length : Int) ≤ 65536 ∧ ∀ n ∈ L, 0 ≤ n ∧ n ≤ 65535 := by
  unfold hexB at h
  rw [Bool.and_eq_true, Bool.and_eq_true, Bool.and_eq_true] at h
  obtain ⟨h1, h2, h3, h4⟩ := h
  exact ⟨of_decide_eq_true h1, base_ok h2, of_decide_eq_true h3, words_bd h4⟩
theorem hexL_len {b : Int} {L : List Int} (h : L.length ≤ 400) : (hexL b L).length ≤ 2212 := by
  unfold hexL
  rw [List.length_append]
  have := rowsL_len b L (hexN L)
  unfold hexN at *
  simp [endL]
  omega
/- A digit, out of the row of digits. -/
def digitsT : ByteArray := ⟨#[48, 49, 50, 51, 52, 53, 54, 55, 56, 57, 65, 66, 67, 68, 69, 70]⟩
theorem digit_at (n : Nat) (h : n < 16) (h2 : n < digitsT.size) : digitsT[n] = hexd n := by
  have : ∀ k : Fin 16, (digitsT[k.1]'(by have := k.2; show _ < 16; exact this)) = hexd k.1 := by decide +kernel
  exact this ⟨n, h⟩
end Go.Proofs.YtknielpkmablkaaDoor
