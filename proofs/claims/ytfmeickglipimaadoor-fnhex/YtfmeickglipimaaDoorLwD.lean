/- lwDigit of the laws; what is read of a hex text. -/
import Derived.Test.YtfmeickglipimaaDoorRows
import Derived.WalkKit
import Derived.WalkSpells
import Derived.WalkLawsBesides
import Derived.Test.YtfmeickglipimaaDoorBase
import Derived.Test.YtfmeickglipimaaDoorHexDS
import Derived.Test.YtfmeickglipimaaDoorHexQ2
namespace Go.Proofs.YtfmeickglipimaaDoor
open Go.RowKit
set_option linter.unusedVariables false

theorem sdig_low {c : UInt8} (h : sdig c ≤ 15) : (48 ≤ c.toNat ∧ c.toNat ≤ 57 ∧ sdig c = (c.toNat : Int) - 48) ∨ (65 ≤ c.toNat ∧ c.toNat ≤ 70 ∧ sdig c = (c.toNat : Int) - 65 + 10) := by
  unfold sdig at *
  split at h
  · rename_i h1
    rw [if_pos h1]; exact .inl ⟨h1.1, h1.2, rfl⟩
  · rename_i h1
    split at h
    · rename_i h2
      rw [if_neg h1, if_pos h2]; exact .inr ⟨h2.1, h2.2, rfl⟩
    · omega
set_option maxHeartbeats 1600000 in
theorem lwDigit_any (c : UInt8) (w : World) (h : sdig c ≤ 15) : Calls Tryd.prog 11 #[.int .u8 (c.toNat : Int)] w fun e w' => e = .returned (.int .i64 (sdig c)) ∧ w' = w := by
  rcases sdig_low h with ⟨h0, h1, e⟩ | ⟨h0, h1, e⟩
  · have HE : Hid (_ = _) := e
    clear e h
    go_enter Tryd.func11, Tryd.ntmps11
    go_wp2
    go_ret
    exact ⟨ret_int (by rw [HE.out]), rfl⟩
  · have HE : Hid (_ = _) := e
    have h2 : ¬ c.toNat ≤ 57 := by omega
    clear e h
    go_enter Tryd.func11, Tryd.ntmps11
    go_wp2
    go_ret
    exact ⟨ret_int (by rw [HE.out]), rfl⟩
theorem rd_text {b : Int} {L : List Int} (h : hexB b L = true) : rdC (hexT b L) = 0 ∧ rdL (hexT b L) = L ∧ rdB (hexT b L) = if L = [] then 0 else b := by
  have hsz : ¬ 8000 < (hexT b L).size := by
    rw [hexT_yes h]
    have := hexL_len (b := b) (hexB_ok h).1
    show ¬ 8000 < (hexL b L).toArray.size
    simp
    omega
  have h1 := rdW_text h
  have h3 := base_text h
  have hok : rdOk (hexT b L) = true := by
    unfold rdOk
    rw [h1, h3]
    apply decide_eq_true
    by_cases hL : L = []
    · subst hL
      rw [if_pos rfl, hexT_nil h, hexT_nil hex_zero]
    · rw [if_neg hL]
  unfold rdC rdL rdB
  rw [if_neg hsz, if_neg hsz, if_neg hsz, hok, if_pos rfl, if_pos rfl, if_pos rfl, h1, h3]
  exact ⟨rfl, rfl, rfl⟩
theorem rd_back (u : ByteArray) (h : rdC u = 0) : hexT (rdB u) (rdL u) = u := by
  unfold rdC at h
  split at h
  · cases h
  · rename_i h8
    split at h
    · rename_i hok
      unfold rdB rdL
      rw [if_neg h8, if_neg h8, if_pos hok, if_pos hok]
      exact of_decide_eq_true hok
    · cases h
theorem rdC_no (u : ByteArray) (hs : u.size ≤ 8000) (h : rdOk u = false) : rdC u = 3 := by
  unfold rdC
  rw [if_neg (by omega), h]; rfl
end Go.Proofs.YtfmeickglipimaaDoor
