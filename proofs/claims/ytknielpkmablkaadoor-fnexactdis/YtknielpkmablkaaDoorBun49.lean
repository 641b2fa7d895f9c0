/- A line of a hex text, by the program. -/
import Derived.Test.YtknielpkmablkaaDoorRows
import Derived.WalkKit
import Derived.WalkSpells
import Derived.WalkLawsBesides
import Derived.Outline
import Derived.RegionTactic
import Derived.BigRegion
import Derived.Deep.RegionHeld3
import Derived.Deep.AppendLies
import Derived.Test.YtknielpkmablkaaDoorBun0
import Derived.Test.YtknielpkmablkaaDoorBun27
import Derived.Test.YtknielpkmablkaaDoorBun1
import Derived.Test.YtknielpkmablkaaDoorBun45
import Derived.Test.YtknielpkmablkaaDoorBun3
import Derived.Test.YtknielpkmablkaaDoorBun42
import Derived.Test.YtknielpkmablkaaDoorCopy
import Derived.Test.YtknielpkmablkaaDoorBun31
import Derived.Test.YtknielpkmablkaaDoorBun11
import Derived.Test.YtknielpkmablkaaDoorBun25
import Derived.Test.YtknielpkmablkaaDoorIsaD16X
import Derived.Test.YtknielpkmablkaaDoorTextOX
import Derived.Test.YtknielpkmablkaaDoorLawInsnTX
import Derived.Test.YtknielpkmablkaaDoorBun44
import Derived.Test.YtknielpkmablkaaDoorDisSX
namespace Go.Proofs.YtknielpkmablkaaDoor
open Go.RowKit
set_option linter.unusedVariables false

theorem isBase_any (n : Int) (w : World) : Calls Tryd.prog 29 #[.int .i64 n] w fun e w' => e = .returned (.bool (baseB n)) ∧ w' = w := by
  by_cases h0 : 0 ≤ n
  · by_cases h1 : n ≤ 65534
    · have HE : Hid (baseB n = (n % 2 == 0)) := by show _ = _; simp [baseB, isB, h0, h1]
      go_enter Tryd.func29, Tryd.ntmps29
      go_wp2
      go_ret
      exact ⟨ret_bool (by rw [HE.out]), rfl⟩
    · have HE : Hid (baseB n = false) := by show _ = _; simp [baseB, isB, h1]
      go_enter Tryd.func29, Tryd.ntmps29
      go_wp2
      go_ret
      exact ⟨ret_bool (by rw [HE.out]), rfl⟩
  · have HE : Hid (baseB n = false) := by show _ = _; simp [baseB, isB, h0]
    go_enter Tryd.func29, Tryd.ntmps29
    go_wp2
    go_ret
    exact ⟨ret_bool (by rw [HE.out]), rfl⟩
theorem i64_and255 (n : Int) : bits .and .i64 n 255 = n % 256 := by
  have h127 : (BitVec.ofInt 64 255).toNat = 2 ^ 8 - 1 := by decide
  have key : (BitVec.ofInt 64 n &&& BitVec.ofInt 64 255).toNat = (n % ((2 ^ 64 : Nat) : Int)).toNat % 2 ^ 8 := by
    rw [BitVec.toNat_and, h127, Nat.and_two_pow_sub_one_eq_mod, BitVec.toNat_ofInt]
  show IntKind.i64.wrap ((BitVec.ofInt 64 n &&& BitVec.ofInt 64 255).toNat : Nat) = n % 256
  rw [key, IntKind.wrap_i64]
  omega
theorem cellsU_more (L M : List UInt8) : cellsU (L ++ M) = cellsU L ++ cellsU M := by simp [cellsU]
theorem conv_end {W : World} {B : Nat} {v : Value} {L : List UInt8} (h : W.ownsRow B 5 1 v (L.length + 1) (cellsU L ++ [.int .u8 10])) : (convert 40 9 v).run Tryd.prog W = .ok (.string ⟨(L ++ [10]).toArray⟩) W := by
  have e : cellsU (L ++ [10]) = cellsU L ++ [.int .u8 10] := by simp [cellsU]
  rw [← e] at h
  exact own_conv W B v (L.length + 1) (L ++ [10]) h (by omega)
end Go.Proofs.YtknielpkmablkaaDoor
namespace Go.Proofs.YtknielpkmablkaaDoor
open Go.RowKit
set_option linter.unusedVariables false

theorem cutFore (x : Addr) (n cap k : Nat) (hk : k ≤ n) (hn : n ≤ cap) (W : World) : (Instr.slice 22 (.slice (some x) n cap) none (some (.int .i64 (k : Int))) (some (.int .i64 (k : Int)))).run Tryd.prog W = .ok (.slice (some x) k k) W := by
  obtain ⟨i0, hi, hz0, hz1, hz2⟩ := info_parts infoI
  have hkc : k ≤ cap := by omega
  simp [Instr.slice, run_underlying Tryd.underlying22, Instr.sliceBounds, Instr.sliceBound, asIntOf, sizeOf, typeInfo, hi, hkc, add0]
theorem cutRest (x : Addr) (n cap k : Nat) (hk : k ≤ n) (hn : n ≤ cap) (W : World) : (Instr.slice 22 (.slice (some x) n cap) (some (.int .i64 (k : Int))) none none).run Tryd.prog W = .ok (.slice (some (if cap = k then x else x.add k)) (n - k) (cap - k)) W := by
  obtain ⟨i0, hi, hz0, hz1, hz2⟩ := info_parts infoI
  by_cases h2 : cap = k
  · simp [Instr.slice, run_underlying Tryd.underlying22, Instr.sliceBounds, Instr.sliceBound, asIntOf, sizeOf, typeInfo, hi, hz1, h2]
    omega
  · simp [Instr.slice, run_underlying Tryd.underlying22, Instr.sliceBounds, Instr.sliceBound, asIntOf, sizeOf, typeInfo, hi, hz1, h2]
    omega
set_option maxRecDepth 100000 in
set_option maxHeartbeats 1600000 in
theorem cut_any (x : Addr) (n cap k : Nat) (w : World) (hk : k ≤ n) (hn : n ≤ cap) :
    Calls Tryd.prog 31 #[.slice (some x) n cap, .int .i64 (k : Int)] w fun e w' => e = .returned (.tuple #[.slice (some x) k k, .slice (some (if cap = k then x else x.add k)) (n - k) (cap - k)]) ∧ Below w.heap.size w w' := by
  have h1 := cutFore x n cap k hk hn
  have h2 := cutRest x n cap k hk hn
  obtain ⟨y, hy⟩ : ∃ y, (if cap = k then x else x.add k) = y := ⟨_, rfl⟩
  rw [hy] at h2 ⊢
  clear hy
  go_enter Tryd.func31, Tryd.ntmps31
  go_wp2_with fail
  go_region
  go_wp2
  go_ret2
  exact ⟨rfl, Below.drew (Below.refl _ _)⟩
set_option maxRecDepth 100000 in
set_option maxHeartbeats 1600000 in
theorem rowText_insn (op : ByteArray) (b : Bool) (m r n : Int) (l : Bool) (m2 r2 n2 : Int) (l2 : Bool) (j k : Int) (own : Value) (w : World) (hT : Tabs w) (hP : Pow w) (h : insnB op b m r n l m2 r2 n2 l2 j = true) :
    Calls Tryd.prog 32 #[own, .agg #[.string op, .bool b, .int .i64 m, .int .i64 r, .int .i64 n, .bool l, .int .i64 m2, .int .i64 r2, .int .i64 n2, .bool l2, .int .i64 j, .int .i64 k, .int .i64 0]] w fun e w' => e = .returned (.string (insT op b m r n l m2 r2 n2 l2 j)) ∧ Below w.heap.size w w' := by
  have HN : Hid (insnB op b m r n l m2 r2 n2 l2 j = true) := h
  have HT : Hid (∀ o, Tabs (w.alloc o)) := fun o => hT.alloc o
  have HP : Hid (∀ o, Pow (w.alloc o)) := fun o => hP.alloc o
  clear h hT hP
  go_enter Tryd.func32, Tryd.ntmps32
  go_wp2_with fail
  refine (implInsnText_any op b m r n l m2 r2 n2 l2 j _ (HT.out _) (HP.out _)).mono ?_
  rintro e x1 ⟨rfl, hb⟩
  have HE : Hid (insAll op b m r n l m2 r2 n2 l2 j = insT op b m r n l m2 r2 n2 l2 j) := by show _ = _; unfold insAll; rw [if_pos HN.out]
  rw [HE.out]
  go_wp2
  go_ret
  exact ⟨rfl, below_call (below_new _ _) hb⟩
set_option maxRecDepth 100000 in
set_option maxHeartbeats 1600000 in
theorem rowText_word (op : ByteArray) (b : Bool) (m r n : Int) (l : Bool) (m2 r2 n2 : Int) (l2 : Bool) (j k c : Int) (x : Addr) (ln cap : Nat) (wd : Int) (w : World) (hP : Pow w) (hc : c ≠ 0) (h1 : 1 ≤ ln) (hx : x.block < w.heap.size) (hw : w.cell? x = some (.int .i64 wd)) (g0 : 0 ≤ wd) (g1 : wd ≤ 65535) :
    Calls Tryd.prog 32 #[.slice (some x) ln cap, .agg #[.string op, .bool b, .int .i64 m, .int .i64 r, .int .i64 n, .bool l, .int .i64 m2, .int .i64 r2, .int .i64 n2, .bool l2, .int .i64 j, .int .i64 k, .int .i64 c]] w fun e w' => e = .returned (.string (wordP ++ dg wd)) ∧ Below w.heap.size w w' := by
  have HP : Hid (∀ o, Pow (w.alloc o)) := fun o => hP.alloc o
  have hsz := dg_size wd (by omega) (by omega)
  have HC : Hid (∀ o, (w.alloc o).cell? x = some (.int .i64 wd)) := fun o => ((below_new w o).cell hx).trans hw
  have hl : (0 : Int) < (ln : Int) := by omega
  clear hP hw
  go_enter Tryd.func32, Tryd.ntmps32
  have cw := HC.out (.cells #[.string op, .bool b, .int .i64 m, .int .i64 r, .int .i64 n, .bool l, .int .i64 m2, .int .i64 r2, .int .i64 n2, .bool l2, .int .i64 j, .int .i64 k, .int .i64 c] 47)
  go_wp2_with fail
  refine (dgI_any wd _ (by omega) (by omega) (HP.out _)).mono ?_
  rintro e x1 ⟨rfl, hb⟩
  have HB1 : Hid (Below w.heap.size w x1) := below_call (below_new _ _) hb
  clear hb cw
  go_wp2_with fail
  refine (join_two wordP (dg wd) x1 (by show 6 + (dg wd).size ≤ _; omega)).mono ?_
  rintro e x2 ⟨rfl, hb⟩
  go_wp2
  go_ret
  exact ⟨rfl, below_call HB1.out hb⟩
end Go.Proofs.YtknielpkmablkaaDoor
