/- A number and a text are got back from their bytes; of bytes that end too early nothing is got: in the words of the contracts. -/
import Derived.Test.YthmobogbaijndaaDoorRoundMath
import Derived.Test.YthmobogbaijndaaDoorPutText
import Derived.Test.YthmobogbaijndaaDoorGetText
namespace Go.Proofs.YthmobogbaijndaaDoor
open Go.RowKit

theorem bytes_ext {s t : ByteArray} (h : s.data.toList = t.data.toList) : s = t := by
  cases s; cases t; congr 1; exact Array.toList_inj.1 h
theorem size_list (s : ByteArray) : s.size = s.data.toList.length := by simp
theorem ext_list (s : ByteArray) (a b : Nat) : (s.extract a b).data.toList = (s.data.toList.take b).drop a := by
  simp [List.drop_take]
theorem cut_list (s : ByteArray) : (s.extract 0 (s.size - 1)).data.toList = s.data.toList.dropLast := by
  rw [ext_list, List.drop_zero, List.dropLast_eq_take]
  rfl
theorem cut_size (s : ByteArray) : (s.extract 0 (s.size - 1)).size = s.size - 1 := by simp
theorem putS_one (u : Nat) : 1 ≤ (putS u).size := (vbF_len 9 u).1

theorem num_back (n : Int) (h0 : -9223372036854775808 ≤ n) (h1 : n ≤ 9223372036854775807) :
    numV ((⟨#[120, 121]⟩ ++ putS (foldN n)) ++ ⟨#[122]⟩) 2 = (n, ((putS (foldN n)).size : Int) + 2, 0) := by
  have hl := putS_le (foldN n)
  have hs : ¬ 8000 < ((⟨#[120, 121]⟩ ++ putS (foldN n)) ++ ⟨#[122]⟩ : ByteArray).size := by
    rw [ByteArray.size_append, ByteArray.size_append]
    show ¬ 8000 < 2 + (putS (foldN n)).size + 1
    omega
  unfold numV
  rw [if_neg hs]
  have := getN_put ((⟨#[120, 121]⟩ ++ putS (foldN n)) ++ ⟨#[122]⟩) [120, 121] [122] (foldN n) (foldN_lt n h0 h1) (by simp [putS])
  rw [unf_fold] at this
  rw [putS_size]
  refine Eq.trans this ?_
  simp; omega
theorem num_cut (n : Int) (h0 : -9223372036854775808 ≤ n) (h1 : n ≤ 9223372036854775807) :
    numV ((putS (foldN n)).extract 0 ((putS (foldN n)).size - 1)) 0 = (0, 0, 4) := by
  have hl := putS_le (foldN n)
  unfold numV
  rw [if_neg (by rw [cut_size]; omega)]
  exact getN_cut _ _ (foldN_lt n h0 h1) (cut_list _)
theorem putT_eq (u : ByteArray) (h : u.size ≤ 8000) : putT u = putS (foldN (u.size : Int)) ++ u := if_neg (by omega)
theorem putT_size (u : ByteArray) (h : u.size ≤ 8000) : (putT u).size = (putS (foldN (u.size : Int))).size + u.size := by rw [putT_eq u h, ByteArray.size_append]
theorem putT_list (u : ByteArray) (h : u.size ≤ 8000) : (putT u).data.toList = putL (foldN (u.size : Int)) ++ u.data.toList := by rw [putT_eq u h]; simp [putS]
theorem text_back (u : ByteArray) (hu : u.size ≤ 8000) (h : (putT u).size + 1 ≤ 8000) :
    getT (⟨#[120]⟩ ++ putT u) (numV (⟨#[120]⟩ ++ putT u) 1) = (u, ((putT u).size : Int) + 1, 0) := by
  have hsz : (⟨#[120]⟩ ++ putT u : ByteArray).size = 1 + (putT u).size := by rw [ByteArray.size_append]; rfl
  have hp := putT_size u hu
  have hL : (⟨#[120]⟩ ++ putT u : ByteArray).data.toList = [120] ++ (putL (foldN (u.size : Int)) ++ u.data.toList) := by
    rw [← putT_list u hu]; simp
  have hn : numV (⟨#[120]⟩ ++ putT u) 1 = ((u.size : Int), 1 + ((putS (foldN (u.size : Int))).size : Int), 0) := by
    unfold numV
    rw [if_neg (by omega)]
    have := getN_put _ [120] u.data.toList _ (foldN_lt (u.size : Int) (by omega) (by omega)) hL
    rw [unf_fold] at this
    exact this
  rw [hn]
  unfold getT
  rw [if_neg (by simp), if_neg (by simp; omega), if_neg (by simp [hsz]; omega)]
  have e1 : (1 + ((putS (foldN (u.size : Int))).size : Int)).toNat = 1 + (putL (foldN (u.size : Int))).length := by rw [putS_size]; omega
  have e2 : (1 + ((putS (foldN (u.size : Int))).size : Int) + (u.size : Int)).toNat = 1 + (putL (foldN (u.size : Int))).length + u.size := by rw [putS_size]; omega
  have e3 : (⟨#[120]⟩ ++ putT u : ByteArray).extract (1 + ((putS (foldN (u.size : Int))).size : Int)).toNat (1 + ((putS (foldN (u.size : Int))).size : Int) + (u.size : Int)).toNat = u := by
    rw [e1, e2]
    apply bytes_ext
    rw [ext_list, hL, ← List.append_assoc, List.take_of_length_le (by simp; omega), List.drop_left' (by simp; omega)]
  simp only [e3]
  have e4 : 1 + ((putS (foldN (u.size : Int))).size : Int) + (u.size : Int) = ((putT u).size : Int) + 1 := by omega
  rw [e4]
theorem text_cut (u : ByteArray) (hu : u.size ≤ 8000) (h : (putT u).size + 1 ≤ 8000) :
    (getT ((putT u).extract 0 ((putT u).size - 1)) (numV ((putT u).extract 0 ((putT u).size - 1)) 0)).2.2 = 4 := by
  have hp := putT_size u hu
  have h1 := putS_one (foldN (u.size : Int))
  have hc := cut_size (putT u)
  have hl := cut_list (putT u)
  rw [putT_list u hu] at hl
  generalize (putT u).extract 0 ((putT u).size - 1) = s at hc hl ⊢
  by_cases h0 : u.data.toList = []
  · rw [h0, List.append_nil] at hl
    have hn : numV s 0 = (0, 0, 4) := by
      unfold numV
      rw [if_neg (by omega)]
      exact getN_cut _ _ (foldN_lt (u.size : Int) (by omega) (by omega)) hl
    rw [hn]; rfl
  · rw [List.dropLast_append_of_ne_nil h0] at hl
    have hn : numV s 0 = ((u.size : Int), ((putS (foldN (u.size : Int))).size : Int), 0) := by
      unfold numV
      rw [if_neg (by omega)]
      have := getN_put s [] u.data.toList.dropLast _ (foldN_lt (u.size : Int) (by omega) (by omega)) (by simpa using hl)
      rw [unf_fold] at this
      refine Eq.trans this ?_
      rw [putS_size]; simp
    rw [hn]
    unfold getT
    rw [if_neg (by simp), if_neg (by simp; omega), if_pos (by simp; omega)]
theorem field_num (a b c : Value) (W : World) : (Instr.field 26 (.agg #[a, b, c]) 2).run Tryd.prog W = .ok c W := by kernel_rfl
theorem field_text (a b c : Value) (W : World) : (Instr.field 31 (.agg #[a, b, c]) 2).run Tryd.prog W = .ok c W := by kernel_rfl
end Go.Proofs.YthmobogbaijndaaDoor
