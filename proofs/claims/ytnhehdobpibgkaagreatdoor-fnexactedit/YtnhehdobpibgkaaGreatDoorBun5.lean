/- The walks of the CRC: both registers, of a byte and of a text, and both functions over them. -/
import Derived.Test.YtnhehdobpibgkaaGreatDoorRows
import Derived.WalkKit
import Derived.WalkSpells
import Derived.WalkLawsBesides
import Derived.Test.YtnhehdobpibgkaaGreatDoorBun0
import Derived.Test.YtnhehdobpibgkaaGreatDoorBun4
import Derived.Laws.CopyOwn
import Derived.Laws.BytesArg
namespace Go.Proofs.YtnhehdobpibgkaaGreatDoor
open Go.RowKit


set_option maxHeartbeats 400000 in
theorem crcByte_any (r b : Nat) (w : World) (hr : r < 4294967296) (hb : b < 256) :
    Calls Tryz.prog 100 #[.int .u32 (r : Int), .int .u8 (b : Int)] w fun e w' => e = .returned (.int .u32 (crcB r b : Nat)) ∧ w' = w := by
  go_enter Tryz.func100, Tryz.ntmps100
  go_wp2
  go_loop [0, 8] (fun x i => ∃ k : Nat, k ≤ 8 ∧ i = .int .i64 k ∧ x = .int .u32 (implK r b k : Nat)) (fun _ i => 8 - (intOf i).toNat)
  case atStart => exact ⟨0, by omega, rfl, rfl⟩
  case round =>
    obtain ⟨k, hk, rfl, rfl⟩ := hrel
    by_cases hlt : k < 8
    · have hx := implK_lt (b := b) hr k
      have HT : Hid (_ = _) := bit_test (implK r b k) b k hx hb
      have HP : Hid (_ = _) := xor_poly (implK r b k) hx
      have HK : Hid (implK r b (k + 1) = if (b / 2 ^ k ^^^ implK r b k) % 2 = 1 then (implK r b k / 2) ^^^ 3988292384 else implK r b k / 2) := rfl
      go_wp2
      · rename_i ht
        rw [HT.out, beq_iff_eq] at ht
        have hy := HK.out
        rw [if_pos (by omega)] at hy
        exact ⟨⟨k + 1, by omega, by go_num, val_u32 (by rw [HP.out, hy])⟩, by simp [intOf]; omega⟩
      · rename_i ht
        rw [HT.out, beq_eq_false_iff_ne] at ht
        have hy := HK.out
        rw [if_neg (by omega)] at hy
        exact ⟨⟨k + 1, by omega, by go_num, val_u32 (by rw [hy]; omega)⟩, by simp [intOf]; omega⟩
    · obtain rfl : k = 8 := by omega
      have H8 : Hid (_ = _) := implK_8 r b hb
      go_wp2
      go_ret
      exact ⟨ret_int (by rw [H8.out]), rfl⟩

theorem odd_test (x : Nat) (h : x < 4294967296) : bits BinOp.and IntKind.u32 (x : Int) 1 = ((x % 2 : Nat) : Int) := by
  have := u32_and_nat x 1 h (by omega)
  rw [nat_mask1] at this; exact this
set_option maxHeartbeats 400000 in
theorem l01Crc_any (c : Nat) (s : ByteArray) (w : World) (hc : c < 4294967296) (hs : s.size ≤ 8000) :
    Calls Tryz.prog 61 #[.int .i64 (c : Int), .string s] w fun e w' => e = .returned (.int .i64 (crcOf c s : Nat)) ∧ w' = w := by
  have hR : c ^^^ 4294967295 < 4294967296 := xor_lt32 hc (by omega)
  have HR : Hid (_ = _) := u32_xor_nat c 4294967295 hc (by omega)
  go_enter Tryz.func61, Tryz.ntmps61
  go_wp2
  go_loop [5, 6] (fun r i => ∃ k : Nat, k ≤ s.size ∧ i = .int .i64 k ∧ r = .int .u32 (crcL (c ^^^ 4294967295) (s.data.toList.take k) : Nat)) (fun _ i => s.size - (intOf i).toNat)
  case atStart => exact ⟨0, by omega, rfl, val_u32 HR.out⟩
  case round =>
    obtain ⟨k, hk, rfl, rfl⟩ := hrel
    have hx := crcL_lt (s.data.toList.take k) hR
    by_cases hlt : k < s.size
    · have HT : Hid (_ = _) := crcL_take (c ^^^ 4294967295) s k hlt
      have hb : s[k].toNat < 256 := s[k].toNat_lt
      have HX : Hid (_ = _) := u32_xor_nat (crcL (c ^^^ 4294967295) (s.data.toList.take k)) s[k].toNat hx (by omega)
      go_wp2
      go_loop [5, 7] (fun r i => ∃ j : Nat, j ≤ 8 ∧ i = .int .i64 j ∧ r = .int .u32 (specK (crcL (c ^^^ 4294967295) (s.data.toList.take k) ^^^ s[k].toNat) j : Nat)) (fun _ i => 8 - (intOf i).toNat)
      case atStart => exact ⟨0, by omega, rfl, val_u32 HX.out⟩
      case round =>
        obtain ⟨j, hj, rfl, rfl⟩ := hrel
        have hy := specK_lt (xor_lt32 hx (b := s[k].toNat) (by omega)) j
        by_cases hlj : j < 8
        · have HO : Hid (_ = _) := odd_test _ hy
          have HP : Hid (_ = _) := xor_poly _ hy
          have HK : Hid (_ = _) := specK_succ (crcL (c ^^^ 4294967295) (s.data.toList.take k) ^^^ s[k].toNat) j
          go_wp2
          · rename_i ht
            rw [HO.out, beq_iff_eq] at ht
            have hz := HK.out
            rw [if_pos (by omega)] at hz
            exact ⟨⟨j + 1, by omega, by go_num, val_u32 (by rw [HP.out, hz])⟩, by simp [intOf]; omega⟩
          · rename_i ht
            rw [HO.out, beq_eq_false_iff_ne] at ht
            have hz := HK.out
            rw [if_neg (by omega)] at hz
            exact ⟨⟨j + 1, by omega, by go_num, val_u32 (by rw [hz]; omega)⟩, by simp [intOf]; omega⟩
        · obtain rfl : j = 8 := by omega
          go_wp2
          exact ⟨⟨k + 1, by omega, by go_num, val_u32 (by rw [HT.out]; rfl)⟩, by simp [intOf]; omega⟩
    · obtain rfl : k = s.size := by omega
      go_wp2
      go_ret
      exact ⟨ret_int (crc_end1 c s hc), rfl⟩

set_option maxHeartbeats 400000 in
theorem implCrcMore_any (c : Nat) (s : ByteArray) (w : World) (hc : c < 4294967296) (hs : s.size ≤ 8000) :
    Calls Tryz.prog 85 #[.int .i64 (c : Int), .string s] w fun e w' => e = .returned (.int .i64 (crcOf c s : Nat)) ∧ w' = w := by
  have hR : c ^^^ 4294967295 < 4294967296 := xor_lt32 hc (by omega)
  go_enter Tryz.func85, Tryz.ntmps85
  go_wp2
  go_loop [5, 23] (fun r i => ∃ k : Nat, k ≤ s.size ∧ i = .int .i64 k ∧ r = .int .u32 (crcL (c ^^^ 4294967295) (s.data.toList.take k) : Nat)) (fun _ i => s.size - (intOf i).toNat)
  case atStart => exact ⟨0, by omega, rfl, val_u32 (not32 c hc)⟩
  case round =>
    obtain ⟨k, hk, rfl, rfl⟩ := hrel
    have hx := crcL_lt (s.data.toList.take k) hR
    by_cases hlt : k < s.size
    · have HT : Hid (_ = _) := crcL_take (c ^^^ 4294967295) s k hlt
      have hb : s[k].toNat < 256 := s[k].toNat_lt
      go_wp2_with fail
      refine (crcByte_any _ s[k].toNat _ hx hb).mono ?_
      rintro e w' ⟨rfl, rfl⟩
      go_wp2
      exact ⟨⟨k + 1, by omega, by go_num, val_u32 (by rw [HT.out])⟩, by simp [intOf]; omega⟩
    · obtain rfl : k = s.size := by omega
      go_wp2
      go_ret
      exact ⟨ret_int (crc_end2 c s hc), rfl⟩

set_option maxHeartbeats 400000 in
theorem implCrcMore_no (c : Int) (s : ByteArray) (w : World) (hs0 : s.size ≤ maxLen) (h : 8000 < s.size ∨ c < 0 ∨ 4294967295 < c) :
    Calls Tryz.prog 85 #[.int .i64 c, .string s] w fun e w' => e = .returned (.int .i64 0) ∧ w' = w := by
  unfold maxLen at hs0
  by_cases h1 : 8000 < s.size
  · go_enter Tryz.func85, Tryz.ntmps85
    go_wp2
    go_ret
    exact ⟨rfl, rfl⟩
  by_cases h2 : c < 0
  · go_enter Tryz.func85, Tryz.ntmps85
    go_wp2
    go_ret
    exact ⟨rfl, rfl⟩
  have h3 : 4294967295 < c := by omega
  go_enter Tryz.func85, Tryz.ntmps85
  go_wp2
  go_ret
  exact ⟨rfl, rfl⟩
def crcI (s : ByteArray) : Int := if 8000 < s.size then 0 else (crcOf 0 s : Nat)
set_option maxHeartbeats 400000 in
theorem implCrc_any (s : ByteArray) (w : World) (hs0 : s.size ≤ maxLen) :
    Calls Tryz.prog 74 #[.string s] w fun e w' => e = .returned (.int .i64 (crcI s)) ∧ w' = w := by
  by_cases h1 : 8000 < s.size
  · have HI : Hid (crcI s = 0) := if_pos h1
    go_enter Tryz.func74, Tryz.ntmps74
    go_wp2_with fail
    refine (implCrcMore_no 0 s _ hs0 (Or.inl h1)).mono ?_
    rintro e w' ⟨rfl, rfl⟩
    go_wp2
    go_ret
    exact ⟨ret_int HI.out.symm, rfl⟩
  · have HI : Hid (crcI s = _) := if_neg h1
    have hs : s.size ≤ 8000 := by omega
    go_enter Tryz.func74, Tryz.ntmps74
    go_wp2_with fail
    refine (implCrcMore_any 0 s _ (by omega) hs).mono ?_
    rintro e w' ⟨rfl, rfl⟩
    go_wp2
    go_ret
    exact ⟨ret_int HI.out.symm, rfl⟩

end Go.Proofs.YtnhehdobpibgkaaGreatDoor
namespace Go.Proofs.YtnhehdobpibgkaaGreatDoor
open Go Go.RowKit

def bcells (s : ByteArray) : List Value := s.data.toList.map fun b => Value.int .u8 (b.toNat : Int)
theorem bcells_len (s : ByteArray) : (bcells s).length = s.size := by simp [bcells]
theorem bcells_one (s : ByteArray) : ∀ v ∈ bcells s, v.oneCell' = true := by
  intro v hv
  simp only [bcells, List.mem_map] at hv
  obtain ⟨b, _, rfl⟩ := hv
  rfl
theorem bcells_append (a b : ByteArray) : bcells (a ++ b) = bcells a ++ bcells b := by simp [bcells]

theorem run_copy_text {P : Program} (w : World) (dT sT ty elem : TypeId) (g o dLen dCap : Nat) (s : ByteArray) (cur : Array Value) (t : TypeId)
    (hu : P.underlying dT = some (.slice elem)) (hs : (P.info? elem).map (·.size) = some 1) (hg : w.heap[g]? = some (.cells cur t (0, 0))) (hle : s.size ≤ dLen) (hfit : o + s.size ≤ cur.size) :
    (Builtin.copy_ #[dT, sT] ty #[.slice (some ⟨g, o, none⟩) dLen dCap, .string s]).run P w =
      .ok (goInt s.size) (w.setRow g (cur.toList.take o ++ bcells s ++ cur.toList.drop (o + s.size)).toArray) := by
  have hst := run_storeCells_at P g o t (bcells s) 0 cur w hg (by rw [bcells_len]; simpa using hfit) (bcells_one _)
  have hmin : Nat.min s.size dLen = s.size := Nat.min_eq_left hle
  have htk : List.take s.size (List.map (fun b : UInt8 => Value.int IntKind.u8 (b.toNat : Int)) s.data.toList) = bcells s := by
    rw [List.take_of_length_le (by simp)]
    rfl
  rw [bcells_len] at hst
  simp only [Nat.add_zero] at hst
  cases hq : P.info? elem with
  | none => simp [hq] at hs
  | some i =>
    simp [Builtin.copy_, run_underlying hu, Builtin.lenOf, Builtin.firstCells, sizeOf, typeInfo, hq, hmin]
    rw [htk, hst]
    simp [Result.andThen]

theorem run_copy_text0 {P : Program} (w : World) (dT sT ty elem : TypeId) (d : Option Addr) (dLen dCap : Nat) (s : ByteArray)
    (hu : P.underlying dT = some (.slice elem)) (hs : (P.info? elem).map (·.size) = some 1) (h0 : s.size = 0) :
    (Builtin.copy_ #[dT, sT] ty #[.slice d dLen dCap, .string s]).run P w = .ok (goInt 0) w := by
  cases hq : P.info? elem with
  | none => simp [hq] at hs
  | some i =>
    cases d <;> simp [Builtin.copy_, run_underlying hu, Builtin.lenOf, Builtin.firstCells, sizeOf, typeInfo, hq, h0, storeCells]

theorem copy_text {P : Program} (w : World) (dT sT ty elem : TypeId) (hu : P.underlying dT = some (.slice elem)) (hsz : (P.info? elem).map (·.size) = some 1)
    (dp : Option Addr) (dLen dCap : Nat) (x : ByteArray) (g off : Nat) (cur : List Value) (t : TypeId) (hg : w.heap[g]? = some (.cells cur.toArray t (0, 0))) (hle : x.size ≤ dLen)
    (hpos : 0 < x.size → dp = some ⟨g, off, none⟩) (hfit : off + x.size ≤ cur.length) (B : Nat) (w0 : World) (hb : Below B w0 w) (hBg : B ≤ g) :
    ∃ w', (Builtin.copy_ #[dT, sT] ty #[.slice dp dLen dCap, .string x]).run P w = .ok (.int .i64 (x.size : Int)) w' ∧ Hid (w'.heap[g]? = some (.cells (splice cur off (bcells x)).toArray t (0, 0))) ∧ Below B w0 w' := by
  by_cases h0 : x.size = 0
  · have hrun := run_copy_text0 (P := P) w dT sT ty elem dp dLen dCap x hu hsz h0
    have hx : bcells x = [] := List.eq_nil_of_length_eq_zero (by rw [bcells_len]; exact h0)
    refine ⟨w, ?_, (show _ = _ by simpa [splice, hx] using hg), hb⟩
    rw [hrun, h0]; rfl
  · obtain rfl := hpos (by omega)
    have hrun := run_copy_text (P := P) w dT sT ty elem g off dLen dCap x cur.toArray t hu hsz hg hle (by simpa using hfit)
    exact ⟨_, hrun, (show _ = _ by simpa [splice, bcells_len] using setRow_heap w g _ _ t _ hg), below_setRow hb hBg _⟩

end Go.Proofs.YtnhehdobpibgkaaGreatDoor
