/- CrcMore of any number, in one contract. -/
import Derived.Test.YthmobogbaijndaaCrc
import Derived.Test.YthmobogbaijndaaUnseal
import Derived.Test.YthmobogbaijndaaSealMath
namespace Go.Proofs.Ythmobogbaijndaa
open Go.RowKit
def crcM (c : Int) (u : ByteArray) : Int := if 8000 < u.size ∨ c < 0 ∨ 4294967295 < c then 0 else (crcOf c.toNat u : Nat)
theorem implCrcMore_all (c : Int) (u : ByteArray) (w : World) (hu : u.size ≤ maxLen) :
    Calls Try.prog 10 #[.int .i64 c, .string u] w fun e w' => e = .returned (.int .i64 (crcM c u)) ∧ w' = w := by
  by_cases h : 8000 < u.size ∨ c < 0 ∨ 4294967295 < c
  · have e : crcM c u = 0 := if_pos h
    rw [e]; exact implCrcMore_no c u w hu h
  · have e : crcM c u = (crcOf c.toNat u : Nat) := if_neg h
    rw [e]
    obtain ⟨n, rfl⟩ := Int.eq_ofNat_of_zero_le (show 0 ≤ c by omega)
    rw [Int.toNat_natCast]
    exact implCrcMore_any n u w (by omega) (by omega)
theorem specCrcMore_all (c : Int) (u : ByteArray) (w : World) (hu : u.size ≤ maxLen) :
    Calls Try.prog 11 #[.int .i64 c, .string u] w fun e w' => e = .returned (.int .i64 (crcM c u)) ∧ w' = w := by
  by_cases h : 8000 < u.size ∨ c < 0 ∨ 4294967295 < c
  · have e : crcM c u = 0 := if_pos h
    rw [e]; exact specCrcMore_no c u w hu h
  · have e : crcM c u = (crcOf c.toNat u : Nat) := if_neg h
    rw [e]
    obtain ⟨n, rfl⟩ := Int.eq_ofNat_of_zero_le (show 0 ≤ c by omega)
    rw [Int.toNat_natCast]
    exact specCrcMore_any n u w (by omega) (by omega)
theorem crcM_on (t u : ByteArray) (h : t.size + u.size ≤ 8000) : crcM (crcI t) u = crcI (t ++ u) := by
  have h1 : crcI t = (crcOf 0 t : Nat) := if_neg (by omega)
  have h2 : crcI (t ++ u) = (crcOf 0 (t ++ u) : Nat) := if_neg (by rw [ByteArray.size_append]; omega)
  have hc := crcOf_lt 0 t (by omega)
  rw [h1, h2]
  unfold crcM
  rw [if_neg (by omega), Int.toNat_natCast, crc_on]
theorem field_code (a b c : Value) (W : World) : (Instr.field 27 (.agg #[a, b, c]) 2).run Try.prog W = .ok c W := by kernel_rfl
theorem unseal_ok (t : ByteArray) (h : t.size ≤ 7996) : unsealT (sealB t) = t ∧ unsealC (sealB t) = 0 := by
  have e0 : sealB t = t ++ four (crcOf 0 t) := if_neg (by omega)
  have hsz : (sealB t).size = t.size + 4 := by rw [e0, ByteArray.size_append]; rfl
  have hb : (sealB t).extract 0 ((sealB t).size - 4) = t := by
    rw [hsz, e0]
    cases hx : (t ++ four (crcOf 0 t)).extract 0 (t.size + 4 - 4)
    cases ht : t
    have : ((t ++ four (crcOf 0 t)).extract 0 (t.size + 4 - 4)).data.toList = t.data.toList := by simp [take_all]
    rw [hx, ht] at this
    congr 1; exact Array.toList_inj.1 this
  have a1 : ¬ 8000 < (sealB t).size := by omega
  have a2 : ¬ (sealB t).size < 4 := by omega
  unfold unsealT unsealC
  rw [if_neg a1, if_neg a1, if_neg a2, if_neg a2, hb]
  simp
theorem unseal_bad (t : ByteArray) (h : t.size ≤ 7996) (j : Nat) (hj : j < (sealB t).size) (x : UInt8) (hx : x ≠ (sealB t)[j]) : unsealC (turned (sealB t) j x) = 5 := by
  have e0 : sealB t = t ++ four (crcOf 0 t) := if_neg (by omega)
  have hsz : (sealB t).size = t.size + 4 := by rw [e0, ByteArray.size_append]; rfl
  have hts := turned_size (sealB t) j x
  unfold unsealC
  rw [if_neg (by omega), if_neg (by omega), turned_bad t h j hj x hx]
  rfl
end Go.Proofs.Ythmobogbaijndaa
