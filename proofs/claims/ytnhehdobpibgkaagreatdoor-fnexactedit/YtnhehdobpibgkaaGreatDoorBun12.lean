/- Hex texts: the plain mathematics. -/
import Derived.Test.YtnhehdobpibgkaaGreatDoorRows
import Derived.WalkKit
import Derived.Test.YtnhehdobpibgkaaGreatDoorBun0
import Derived.Test.YtnhehdobpibgkaaGreatDoorBun1
import Derived.Test.YtnhehdobpibgkaaGreatDoorBun11
import Derived.WalkSpells
import Derived.WalkLawsBesides
import Derived.Outline
import Derived.RegionTactic
import Derived.BigRegion
import Derived.Deep.RegionHeld3
import Derived.Test.YtnhehdobpibgkaaGreatDoorBun2
namespace Go.Proofs.YtnhehdobpibgkaaGreatDoor
open Go.RowKit
set_option linter.unusedVariables false

def hexd (n : Nat) : UInt8 := UInt8.ofNat (if n < 10 then 48 + n else 55 + n)
def hex2 (b : Int) : List UInt8 := [hexd (b / 16).toNat, hexd (b % 16).toNat]
def hexs (bs : List Int) : List UInt8 := bs.flatMap hex2
def sumB : List Int → Int
  | [] => 0
  | b :: r => b + sumB r
theorem sumB_append (a b : List Int) : sumB (a ++ b) = sumB a + sumB b := by
  induction a with
  | nil => simp [sumB]
  | cons x r ih => simp [sumB, ih]; omega
theorem sumB_take (L : List Int) (k : Nat) (h : k < L.length) : sumB (L.take (k + 1)) = sumB (L.take k) + L[k] := by
  rw [List.take_succ_eq_append_getElem h, sumB_append]; simp [sumB]
def bytesB (L : List Int) : Prop := ∀ b ∈ L, 0 ≤ b ∧ b ≤ 255
theorem sumB_bd : ∀ (L : List Int), bytesB L → 0 ≤ sumB L ∧ sumB L ≤ 255 * (L.length : Int)
  | [], _ => by simp [sumB]
  | b :: r, h => by
    have h1 := h b (by simp)
    have h2 := sumB_bd r (fun x hx => h x (by simp [hx]))
    simp [sumB]
    omega
theorem bytesB.take {L : List Int} (h : bytesB L) (k : Nat) : bytesB (L.take k) := fun b hb => h b (List.mem_of_mem_take hb)
theorem bytesB.at {L : List Int} (h : bytesB L) (k : Nat) (hk : k < L.length) : 0 ≤ L[k] ∧ L[k] ≤ 255 := h _ (List.getElem_mem hk)
def ckB (bs : List Int) : Int := (256 - sumB bs % 256) % 256
def recL (bs : List Int) : List UInt8 := 58 :: (hexs bs ++ (hex2 (ckB bs) ++ [10]))
def pairB (w : Int) : List Int := [w % 256, w / 256]
def pairsB (ws : List Int) : List Int := ws.flatMap pairB
def rowB (a : Int) (ws : List Int) : List Int := [2 * (ws.length : Int), a / 256, a % 256, 0] ++ pairsB ws
def rowL (base : Int) (L : List Int) (k : Nat) : List UInt8 := recL (rowB (base + 16 * (k : Int)) ((L.drop (8 * k)).take 8))
def rowsL (base : Int) (L : List Int) (k : Nat) : List UInt8 := (List.range k).flatMap (rowL base L)
theorem rowsL_succ (base : Int) (L : List Int) (k : Nat) : rowsL base L (k + 1) = rowsL base L k ++ rowL base L k := by
  unfold rowsL; rw [List.range_succ, List.flatMap_append]; simp
def endL : List UInt8 := [58, 48, 48, 48, 48, 48, 48, 48, 49, 70, 70, 10]
def hexN (L : List Int) : Nat := (L.length + 7) / 8
def baseB (b : Int) : Bool := isB b 0 65534 && (b % 2 == 0)
def hexB (base : Int) (L : List Int) : Bool := decide (L.length ≤ 400) && (baseB base && (decide (base + 2 * (L.length : Int) ≤ 65536) && wordsB L))
def hexL (base : Int) (L : List Int) : List UInt8 := rowsL base L (hexN L) ++ endL
def hexT (base : Int) (L : List Int) : ByteArray := if hexB base L then ⟨(hexL base L).toArray⟩ else ⟨#[]⟩
theorem hexs_len (bs : List Int) : (hexs bs).length = 2 * bs.length := by
  induction bs with
  | nil => rfl
  | cons b r ih => simp only [hexs, List.flatMap_cons, List.length_append, List.length_cons] at *; rw [ih]; simp [hex2]; omega
theorem hexs_append (a b : List Int) : hexs (a ++ b) = hexs a ++ hexs b := by simp [hexs]
theorem hexs_take (L : List Int) (k : Nat) (h : k < L.length) : hexs (L.take (k + 1)) = hexs (L.take k) ++ hex2 L[k] := by
  rw [List.take_succ_eq_append_getElem h, hexs_append]; simp [hexs]
theorem pairs_len (ws : List Int) : (pairsB ws).length = 2 * ws.length := by
  induction ws with
  | nil => rfl
  | cons b r ih => simp only [pairsB, List.flatMap_cons, List.length_append, List.length_cons] at *; rw [ih]; simp [pairB]; omega
theorem pairs_append (a b : List Int) : pairsB (a ++ b) = pairsB a ++ pairsB b := by simp [pairsB]
theorem pairs_take (L : List Int) (k : Nat) (h : k < L.length) : pairsB (L.take (k + 1)) = pairsB (L.take k) ++ pairB L[k] := by
  rw [List.take_succ_eq_append_getElem h, pairs_append]; simp [pairsB]
theorem rowB_len (a : Int) (ws : List Int) : (rowB a ws).length = 4 + 2 * ws.length := by simp [rowB, pairs_len]; omega
theorem recL_len (bs : List Int) : (recL bs).length = 2 * bs.length + 4 := by simp [recL, hexs_len, hex2]
theorem rowL_len (base : Int) (L : List Int) (k : Nat) : (rowL base L k).length ≤ 44 := by
  unfold rowL; rw [recL_len, rowB_len]; simp; omega
theorem rowsL_len (base : Int) (L : List Int) (k : Nat) : (rowsL base L k).length ≤ 44 * k := by
  induction k with
  | zero => simp [rowsL]
  | succ k ih => rw [rowsL_succ, List.length_append]; have := rowL_len base L k; omega
theorem words_bd {L : List Int} (h : wordsB L = true) : ∀ n ∈ L, 0 ≤ n ∧ n ≤ 65535 := by
  intro n hn
  have := List.all_eq_true.1 h n hn
  simp [isB] at this
  omega
theorem words_of {L : List Int} (h : ∀ n ∈ L, 0 ≤ n ∧ n ≤ 65535) : wordsB L = true := by
  refine List.all_eq_true.2 fun n hn => ?_
  have := h n hn
  simp [isB]
  omega
theorem rowB_bytes {a : Int} {ws : List Int} (h0 : 0 ≤ a) (h1 : a ≤ 65535) (hl : ws.length ≤ 8) (hw : ∀ n ∈ ws, 0 ≤ n ∧ n ≤ 65535) : bytesB (rowB a ws) := by
  intro b hb
  simp only [rowB, List.cons_append, List.nil_append, List.mem_cons, pairsB, List.mem_flatMap, pairB, List.not_mem_nil, or_false] at hb
  rcases hb with rfl | rfl | rfl | rfl | ⟨n, hn, rfl | rfl⟩
  · omega
  · omega
  · omega
  · omega
  · have := hw n hn; omega
  · have := hw n hn; omega
theorem base_ok {b : Int} (h : baseB b = true) : 0 ≤ b ∧ b ≤ 65534 ∧ b % 2 = 0 := by
  unfold baseB isB at h; simp at h; omega
theorem hexB_ok {b : Int} {L : List Int} (h : hexB b L = true) : L.length ≤ 400 ∧ (0 ≤ b ∧ b ≤ 65534 ∧ b % 2 = 0) ∧ b + 2 * (L.length : Int) ≤ 65536 ∧ ∀ n ∈ L, 0 ≤ n ∧ n ≤ 65535 := by
  unfold hexB at h
  rw [Bool.and_eq_true, Bool.and_eq_true, Bool.and_eq_true] at h
  obtain ⟨h1, h2, h3, h4⟩ := h
  exact ⟨of_decide_eq_true h1, base_ok h2, of_decide_eq_true h3, words_bd h4⟩
theorem hexL_len {b : Int} {L : List Int} (h : L.length ≤ 400) : (hexL b L).length ≤ 2212 := by
  unfold hexL
  rw [List.length_append]
  have := rowsL_len b L (hexN L)
  unfold hexN at *
  simp [endL]
  omega
/- A digit, out of the row of digits. -/
def digitsT : ByteArray := ⟨#[48, 49, 50, 51, 52, 53, 54, 55, 56, 57, 65, 66, 67, 68, 69, 70]⟩
theorem digit_at (n : Nat) (h : n < 16) (h2 : n < digitsT.size) : digitsT[n] = hexd n := by
  have : ∀ k : Fin 16, (digitsT[k.1]'(by have := k.2; show _ < 16; exact this)) = hexd k.1 := by decide +kernel
  exact this ⟨n, h⟩
end Go.Proofs.YtnhehdobpibgkaaGreatDoor
namespace Go.Proofs.YtnhehdobpibgkaaGreatDoor
open Go.RowKit
set_option linter.unusedVariables false

theorem base_spec (n : Int) (w : World) : Calls Tryz.prog 87 #[.int .i64 n] w fun e w' => e = .returned (.bool (baseB n)) ∧ w' = w := by
  cases hb : isB n 0 65534
  · have HE : Hid (baseB n = false) := by show _ = _; unfold baseB; rw [hb]; rfl
    have HB : Hid (isB n 0 65534 = false) := hb
    clear hb
    go_enter Tryz.func87, Tryz.ntmps87
    go_wp2_with fail
    refine (l02Is_any n 0 65534 _).mono ?_
    rintro e w1 ⟨rfl, rfl⟩
    rw [HB.out]
    go_wp2
    go_ret
    exact ⟨ret_bool (by rw [HE.out]), rfl⟩
  · have HE : Hid (baseB n = (n % 2 == 0)) := by show _ = _; unfold baseB; rw [hb]; rfl
    have HB : Hid (isB n 0 65534 = true) := hb
    have h0 : 0 ≤ n := by unfold isB at hb; simp at hb; omega
    clear hb
    go_enter Tryz.func87, Tryz.ntmps87
    go_wp2_with fail
    refine (l02Is_any n 0 65534 _).mono ?_
    rintro e w1 ⟨rfl, rfl⟩
    rw [HB.out]
    go_wp2
    go_ret
    exact ⟨ret_bool (by rw [HE.out]), rfl⟩
theorem digit_run (n : Int) (h0 : 0 ≤ n) (h1 : n < 16) (W : World) : (Instr.index 9 (.string ⟨#[48, 49, 50, 51, 52, 53, 54, 55, 56, 57, 65, 66, 67, 68, 69, 70]⟩) (.int .i64 n)).run Tryz.prog W = .ok (.int .u8 ((hexd n.toNat).toNat : Int)) W := by
  have h : n = 0 ∨ n = 1 ∨ n = 2 ∨ n = 3 ∨ n = 4 ∨ n = 5 ∨ n = 6 ∨ n = 7 ∨ n = 8 ∨ n = 9 ∨ n = 10 ∨ n = 11 ∨ n = 12 ∨ n = 13 ∨ n = 14 ∨ n = 15 := by omega
  rcases h with rfl | rfl | rfl | rfl | rfl | rfl | rfl | rfl | rfl | rfl | rfl | rfl | rfl | rfl | rfl | rfl <;> (show _ = _; kernel_rfl)
set_option maxRecDepth 100000 in
set_option maxHeartbeats 1600000 in
theorem byte_spec (n : Int) (w : World) (h0 : 0 ≤ n) (h1 : n ≤ 255) : Calls Tryz.prog 101 #[.int .i64 n] w fun e w' => e = .returned (.string ⟨(hex2 n).toArray⟩) ∧ Below w.heap.size w w' := by
  have hi := fun h => digit_at (n / 16).toNat (by omega) h
  have hj := fun h => digit_at (n % 16).toNat (by omega) h
  unfold digitsT at hi hj
  have HX : Hid (hex2 n = [hexd (n / 16).toNat, hexd (n % 16).toNat]) := rfl
  have a0 : 0 ≤ n / 16 := by omega
  have a1 : n / 16 < 16 := by omega
  have b0 : 0 ≤ n % 16 := by omega
  have b1 : n % 16 < 16 := by omega
  generalize hexd (n / 16).toNat = p at *
  generalize hexd (n % 16).toNat = q at *
  generalize hq : n / 16 = a at *
  generalize hr : n % 16 = b at *
  have hcv := conv_row (w.alloc (.cells #[.int .u8 (p.toNat : Int), .int .u8 (q.toNat : Int)] 5)).drew w.heap.size 2 2 5 [.int .u8 (p.toNat : Int), .int .u8 (q.toNat : Int)] [p, q] (heap_alloc_new _ _) rfl rfl
  go_enter Tryz.func101, Tryz.ntmps101
  go_wp2_with fail
  go_region
  go_wp2
  go_ret
  exact ⟨ret_str (by rw [HX.out]), (below_new _ _).drew⟩
theorem text_catL (a b : List UInt8) : (⟨a.toArray⟩ : ByteArray) ++ ⟨b.toArray⟩ = ⟨(a ++ b).toArray⟩ := by
  apply ByteArray.ext
  simp
theorem text_size (a : List UInt8) : (⟨a.toArray⟩ : ByteArray).size = a.length := rfl
set_option maxRecDepth 100000 in
set_option maxHeartbeats 1600000 in
theorem record_spec (v : Value) (B : Nat) (L : List Int) (w : World) (hO : OwnI w B v L) (hb : bytesB L) (hl : L.length ≤ 20) (h0 : 0 < L.length) : Calls Tryz.prog 90 #[v] w fun e w' => e = .returned (.string ⟨(recL L).toArray⟩) ∧ Below w.heap.size w w' := by
  obtain ⟨g, cap, rfl, _, h4, h5, hc⟩ := hO.some h0
  unfold maxLen at h5
  have HC : Hid (∀ i (hi : i < L.length), w.cell? ⟨g, i, none⟩ = some (.int .i64 L[i])) := hc
  have HY : Hid (bytesB L) := hb
  clear hO hc hb
  go_enter Tryz.func90, Tryz.ntmps90
  go_wp2
  go_loopw [3, 4, 5] (fun t m i wr => ∃ (k : Nat) (s : Int) (out : List UInt8), k ≤ L.length ∧ i = .int .i64 k ∧ m = .int .i64 s ∧ t = .string ⟨out.toArray⟩ ∧ 0 ≤ s ∧ s ≤ 255 * (k : Int) ∧ out.length = 2 * k + 1 ∧ Hid (out = 58 :: hexs (L.take k)) ∧ Hid (s = sumB (L.take k)) ∧ Hid (Below w.heap.size w wr)) (fun _ _ i _ => L.length - (intOf i).toNat)
  case atStart => exact ⟨0, 0, [58], by omega, rfl, rfl, rfl, by omega, by omega, rfl, rfl, rfl, Below.refl _ _⟩
  case round =>
    obtain ⟨k, s, out, hk, rfl, rfl, rfl, hs0, hs1, ho, HT, HS, HB⟩ := hrel
    by_cases hlt : k < L.length
    · have hck : wr.cell? ⟨g, k, none⟩ = some (.int .i64 L[k]) := (HB.out.cell (p := ⟨g, k, none⟩) (World.block_lt_of_cell? w _ (HC.out k hlt))).trans (HC.out k hlt)
      have HQ : Hid (∀ y, Below w.heap.size w y → y.cell? ⟨g, k, none⟩ = some (.int .i64 L[k])) := fun y h => (h.cell (p := ⟨g, k, none⟩) (World.block_lt_of_cell? w _ (HC.out k hlt))).trans (HC.out k hlt)
      obtain ⟨b0, b1⟩ := HY.out.at k hlt
      have HT2 : Hid (58 :: hexs (L.take (k + 1)) = (58 :: hexs (L.take k)) ++ hex2 L[k]) := by show _ = _; rw [hexs_take L k hlt]; rfl
      have HS2 : Hid (_ = _) := sumB_take L k hlt
      generalize L[k] = b at *
      have hi0 : (0 : Int) ≤ (k : Int) := by omega
      have hi1 : (k : Int) < (L.length : Int) := by omega
      have e1 : out.length ≤ 60 := by omega
      have e2 : (hex2 b).length ≤ 2 := by simp [hex2]
      go_wp2_with fail
      refine (byte_spec b _ b0 b1).mono ?_
      rintro e y ⟨rfl, hb⟩
      have HB2 : Hid (Below w.heap.size w y) := below_call HB.out hb
      have hck := HQ.out y HB2.out
      clear hb
      go_wp2
      go_roundw
      case rel => exact ⟨k + 1, s + b, out ++ hex2 b, by omega, by go_num, by go_num, by simp [text_catL], by omega, by omega, by simp [hex2]; omega, by show _ = _; rw [HT2.out, HT.out], by show _ = _; rw [HS2.out, HS.out], HB2.out⟩
      case measure => simp [intOf]; omega
    · obtain rfl : k = L.length := by omega
      have c0 : 0 ≤ (256 - s % 256) % 256 := by omega
      have c1 : (256 - s % 256) % 256 ≤ 255 := by omega
      have HE : Hid (recL L = out ++ (hex2 ((256 - s % 256) % 256) ++ [10])) := by
        show _ = _
        have h1 := HT.out
        have h2 := HS.out
        rw [List.take_length] at h1 h2
        rw [h1, h2]; rfl
      have e1 : out.length ≤ 60 := by omega
      have e2 : (hex2 ((256 - s % 256) % 256)).length ≤ 2 := by simp [hex2]
      generalize hq : (256 - s % 256) % 256 = c at *
      go_wp2_with fail
      refine (byte_spec c _ c0 c1).mono ?_
      rintro e y ⟨rfl, hb⟩
      have HB2 : Hid (Below w.heap.size w y) := below_call HB.out hb
      clear hb
      go_wp2
      go_ret
      exact ⟨ret_str (by rw [HE.out]; simp [text_catL]), HB2.out⟩
end Go.Proofs.YtnhehdobpibgkaaGreatDoor
