/- Is a Shop right? By the specification. -/
import Derived.Test.YtnhehdobpibgkaaGreatDoorRows
import Derived.WalkKit
import Derived.WalkSpells
import Derived.WalkLawsBesides
import Derived.Outline
import Derived.RegionTactic
import Derived.BigRegion
import Derived.Test.YtnhehdobpibgkaaGreatDoorBun0
import Derived.Test.YtnhehdobpibgkaaGreatDoorBun36
import Derived.Test.YtnhehdobpibgkaaGreatDoorLawStateZq
import Derived.Test.YtnhehdobpibgkaaGreatDoorBun1
import Derived.Test.YtnhehdobpibgkaaGreatDoorRightPZq
namespace Go.Proofs.YtnhehdobpibgkaaGreatDoor
open Go.RowKit
set_option linter.unusedVariables false

theorem field_at (v : Value) (im : ByteArray) (n p : Int) (a : Option Addr) (l k : Nat) (W : World) : (Instr.field 24 (.agg #[.slice a l k, .string im, .int .i64 n, .int .i64 p]) 3).run Tryz.prog W = .ok (.int .i64 p) W := by kernel_rfl
theorem l02Is_b {n lo hi : Int} {b : Bool} (w : World) (h : isB n lo hi = b) : Calls Tryz.prog 31 #[.int .i64 n, .int .i64 lo, .int .i64 hi] w fun e w' => e = .returned (.bool b) ∧ w' = w := h ▸ l02Is_any n lo hi w
theorem ok_big {g : ByteArray} {sy : Int} (h : 8000 < g.size) : okShop g sy = false := by
  unfold okShop
  refine decide_eq_false (fun k => ?_)
  have h1 : stOf g = (([], ⟨#[]⟩, 0), 0) := if_pos h
  rw [h1] at k
  have := k.1
  dsimp only at this
  omega
theorem ok_out {g : ByteArray} {sy : Int} (h : ¬ (0 ≤ sy ∧ sy ≤ g.size)) : okShop g sy = false := decide_eq_false (fun k => h k.2)
theorem ok_in {g : ByteArray} {sy : Int} {T : Told} {p : Nat} (hs : ¬ 8000 < g.size) (hst : stateL g = (T, p)) (h : 0 ≤ sy ∧ sy ≤ g.size) : okShop g sy = decide ((p : Int) = (g.size : Int)) := by
  have h1 : stOf g = (T, p) := (if_neg hs).trans hst
  unfold okShop
  rw [h1]
  simp only [Int.natCast_inj, h.1, h.2, and_true]
def ShC (b1 : Nat) (g : ByteArray) (sy : Int) (W : World) : Prop := W.heap[b1]? = some (.cells #[.string g, .int .i64 sy] 33 (0, 0))
set_option maxRecDepth 100000 in
set_option maxHeartbeats 3200000 in
theorem specShopRight_any (g : ByteArray) (sy : Int) (w : World) (hs : g.size ≤ maxLen) :
    Calls Tryz.prog 14 #[.agg #[.string g, .int .i64 sy]] w fun e w' => e = .returned (.bool (okShop g sy)) ∧ Below w.heap.size w w' := by
  unfold maxLen at hs
  have HW1 : Hid (ShC w.heap.size g sy ((w.alloc (.cells #[.string g, .int .i64 sy] 33)).drew)) := heap_drewn (heap_alloc_new w _)
  have HB : Hid (Below w.heap.size w ((w.alloc (.cells #[.string g, .int .i64 sy] 33)).drew)) := (below_new w _).drew
  by_cases hbig : 8000 < g.size
  · have hq1 : decide ((g.size : Int) ≤ 8000) = false := decide_eq_false (by omega)
    have HQ : Hid (okShop g sy = false) := ok_big hbig
    clear hbig
    go_enter Tryz.func14, Tryz.ntmps14
    go_wp2_with fail
    refine wp_region_held_drew (S := ShC w.heap.size g sy) (by kernel_rfl) HW1.out (fun hS => WH.out ?_)
    refine held_op 0 22 (.pointer (some ⟨w.heap.size, 0, none⟩)) rfl rfl (by kernel_rfl) (by kernel_rfl) (by kernel_rfl) (fun _ _ _ h => h) (by kernel_rfl) hS (fun Y hC => ?_) (fun K hK => ?_)
    · obtain ⟨c0, c1, _⟩ := two_cells hC
      go_simp
    go_simp
    refine hK _ ?_
    clear hK K
    refine held_op 1 21 (.string g) rfl rfl (by kernel_rfl) (by kernel_rfl) (by kernel_rfl) (fun _ _ _ h => h) (by kernel_rfl) hS (fun Y hC => ?_) (fun K hK => ?_)
    · obtain ⟨c0, c1, _⟩ := two_cells hC
      go_simp
    go_simp
    refine hK _ ?_
    clear hK K
    refine held_op 2 20 (.int .i64 (g.size : Int)) rfl rfl (by kernel_rfl) (by kernel_rfl) (by kernel_rfl) (fun _ _ _ h => h) (by kernel_rfl) hS (fun Y hC => ?_) (fun K hK => ?_)
    · obtain ⟨c0, c1, _⟩ := two_cells hC
      go_simp
    go_simp
    refine hK _ ?_
    clear hK K
    refine held_op 3 19 (.bool false) rfl rfl (by kernel_rfl) (by kernel_rfl) (by kernel_rfl) (fun _ _ _ h => h) (by kernel_rfl) hS (fun Y hC => ?_) (fun K hK => ?_)
    · obtain ⟨c0, c1, _⟩ := two_cells hC
      go_simp
    go_simp
    refine hK _ ?_
    clear hK K
    refine held_op 4 18 (.bool false) rfl rfl (by kernel_rfl) (by kernel_rfl) (by kernel_rfl) (fun _ _ _ h => h) (by kernel_rfl) hS (fun Y hC => ?_) (fun K hK => ?_)
    · obtain ⟨c0, c1, _⟩ := two_cells hC
      go_simp
    go_simp
    refine hK _ ?_
    clear hK K
    refine held_skip 5 17 rfl rfl (by kernel_rfl) (by kernel_rfl) (by kernel_rfl) (fun _ _ _ h => h) (by kernel_rfl) hS (fun K hK => ?_)
    go_simp
    refine hK _ ?_
    clear hK K
    refine held_skip 6 16 rfl rfl (by kernel_rfl) (by kernel_rfl) (by kernel_rfl) (fun _ _ _ h => h) (by kernel_rfl) hS (fun K hK => ?_)
    go_simp
    refine hK _ ?_
    clear hK K
    refine held_skip 7 15 rfl rfl (by kernel_rfl) (by kernel_rfl) (by kernel_rfl) (fun _ _ _ h => h) (by kernel_rfl) hS (fun K hK => ?_)
    go_simp
    refine hK _ ?_
    clear hK K
    refine held_skip 8 14 rfl rfl (by kernel_rfl) (by kernel_rfl) (by kernel_rfl) (fun _ _ _ h => h) (by kernel_rfl) hS (fun K hK => ?_)
    go_simp
    refine hK _ ?_
    clear hK K
    refine held_skip 9 13 rfl rfl (by kernel_rfl) (by kernel_rfl) (by kernel_rfl) (fun _ _ _ h => h) (by kernel_rfl) hS (fun K hK => ?_)
    go_simp
    refine hK _ ?_
    clear hK K
    refine held_skip 10 12 rfl rfl (by kernel_rfl) (by kernel_rfl) (by kernel_rfl) (fun _ _ _ h => h) (by kernel_rfl) hS (fun K hK => ?_)
    go_simp
    refine hK _ ?_
    clear hK K
    refine held_op 11 11 (.bool false) rfl rfl (by kernel_rfl) (by kernel_rfl) (by kernel_rfl) (fun _ _ _ h => h) (by kernel_rfl) hS (fun Y hC => ?_) (fun K hK => ?_)
    · obtain ⟨c0, c1, _⟩ := two_cells hC
      go_simp
    go_simp
    refine hK _ ?_
    clear hK K
    refine held_op 12 10 (.bool false) rfl rfl (by kernel_rfl) (by kernel_rfl) (by kernel_rfl) (fun _ _ _ h => h) (by kernel_rfl) hS (fun Y hC => ?_) (fun K hK => ?_)
    · obtain ⟨c0, c1, _⟩ := two_cells hC
      go_simp
    go_simp
    refine hK _ ?_
    clear hK K
    refine held_skip 13 9 rfl rfl (by kernel_rfl) (by kernel_rfl) (by kernel_rfl) (fun _ _ _ h => h) (by kernel_rfl) hS (fun K hK => ?_)
    go_simp
    refine hK _ ?_
    clear hK K
    refine held_skip 14 8 rfl rfl (by kernel_rfl) (by kernel_rfl) (by kernel_rfl) (fun _ _ _ h => h) (by kernel_rfl) hS (fun K hK => ?_)
    go_simp
    refine hK _ ?_
    clear hK K
    refine held_skip 15 7 rfl rfl (by kernel_rfl) (by kernel_rfl) (by kernel_rfl) (fun _ _ _ h => h) (by kernel_rfl) hS (fun K hK => ?_)
    go_simp
    refine hK _ ?_
    clear hK K
    refine held_skip 16 6 rfl rfl (by kernel_rfl) (by kernel_rfl) (by kernel_rfl) (fun _ _ _ h => h) (by kernel_rfl) hS (fun K hK => ?_)
    go_simp
    refine hK _ ?_
    clear hK K
    refine held_skip 17 5 rfl rfl (by kernel_rfl) (by kernel_rfl) (by kernel_rfl) (fun _ _ _ h => h) (by kernel_rfl) hS (fun K hK => ?_)
    go_simp
    refine hK _ ?_
    clear hK K
    refine held_skip 18 4 rfl rfl (by kernel_rfl) (by kernel_rfl) (by kernel_rfl) (fun _ _ _ h => h) (by kernel_rfl) hS (fun K hK => ?_)
    go_simp
    refine hK _ ?_
    clear hK K
    refine held_skip 19 3 rfl rfl (by kernel_rfl) (by kernel_rfl) (by kernel_rfl) (fun _ _ _ h => h) (by kernel_rfl) hS (fun K hK => ?_)
    go_simp
    refine hK _ ?_
    clear hK K
    refine held_skip 20 2 rfl rfl (by kernel_rfl) (by kernel_rfl) (by kernel_rfl) (fun _ _ _ h => h) (by kernel_rfl) hS (fun K hK => ?_)
    go_simp
    refine hK _ ?_
    clear hK K
    refine held_op 21 1 (.bool false) rfl rfl (by kernel_rfl) (by kernel_rfl) (by kernel_rfl) (fun _ _ _ h => h) (by kernel_rfl) hS (fun Y hC => ?_) (fun K hK => ?_)
    · obtain ⟨c0, c1, _⟩ := two_cells hC
      go_simp
    go_simp
    refine hK _ ?_
    clear hK K
    refine held_op 22 0 (.bool false) rfl rfl (by kernel_rfl) (by kernel_rfl) (by kernel_rfl) (fun _ _ _ h => h) (by kernel_rfl) hS (fun Y hC => ?_) (fun K hK => ?_)
    · obtain ⟨c0, c1, _⟩ := two_cells hC
      go_simp
    go_simp
    refine hK _ ?_
    clear hK K
    refine held_done (by kernel_rfl) ?_
    go_wp2
    go_ret
    exact ⟨ret_bool HQ.out.symm, HB.out⟩
  · have hq1 : decide ((g.size : Int) ≤ 8000) = true := decide_eq_true (by omega)
    have hg8 : g.size ≤ 8000 := by omega
    by_cases hin : 0 ≤ sy ∧ sy ≤ (g.size : Int)
    · have HI : Hid (isB sy 0 g.size = true) := by show _ = _; unfold isB; simp [hin.1, hin.2]
      obtain ⟨⟨⟨S, im, n⟩, p⟩, hst⟩ : ∃ st, stateL g = st := ⟨_, rfl⟩
      have HST : Hid (stateL g = ((S, im, n), p)) := hst
      have HOK : Hid (okShop g sy = decide ((p : Int) = (g.size : Int))) := ok_in hbig hst hin
      clear hst hbig hin
      by_cases e1 : (p : Int) = (g.size : Int)
      · have hq4 : ((p : Int) == (g.size : Int)) = true := by rw [beq_iff_eq]; exact e1
        have HQ : Hid (okShop g sy = true) := by show _ = _; rw [HOK.out]; exact decide_eq_true e1
        clear e1
        go_enter Tryz.func14, Tryz.ntmps14
        go_wp2_with fail
        refine wp_region_held_drew (S := ShC w.heap.size g sy) (by kernel_rfl) HW1.out (fun hS => WH.out ?_)
        refine held_op 0 22 (.pointer (some ⟨w.heap.size, 0, none⟩)) rfl rfl (by kernel_rfl) (by kernel_rfl) (by kernel_rfl) (fun _ _ _ h => h) (by kernel_rfl) hS (fun Y hC => ?_) (fun K hK => ?_)
        · obtain ⟨c0, c1, _⟩ := two_cells hC
          go_simp
        go_simp
        refine hK _ ?_
        clear hK K
        refine held_op 1 21 (.string g) rfl rfl (by kernel_rfl) (by kernel_rfl) (by kernel_rfl) (fun _ _ _ h => h) (by kernel_rfl) hS (fun Y hC => ?_) (fun K hK => ?_)
        · obtain ⟨c0, c1, _⟩ := two_cells hC
          go_simp
        go_simp
        refine hK _ ?_
        clear hK K
        refine held_op 2 20 (.int .i64 (g.size : Int)) rfl rfl (by kernel_rfl) (by kernel_rfl) (by kernel_rfl) (fun _ _ _ h => h) (by kernel_rfl) hS (fun Y hC => ?_) (fun K hK => ?_)
        · obtain ⟨c0, c1, _⟩ := two_cells hC
          go_simp
        go_simp
        refine hK _ ?_
        clear hK K
        refine held_op 3 19 (.bool true) rfl rfl (by kernel_rfl) (by kernel_rfl) (by kernel_rfl) (fun _ _ _ h => h) (by kernel_rfl) hS (fun Y hC => ?_) (fun K hK => ?_)
        · obtain ⟨c0, c1, _⟩ := two_cells hC
          go_simp
        go_simp
        refine hK _ ?_
        clear hK K
        refine held_op 4 18 (.bool true) rfl rfl (by kernel_rfl) (by kernel_rfl) (by kernel_rfl) (fun _ _ _ h => h) (by kernel_rfl) hS (fun Y hC => ?_) (fun K hK => ?_)
        · obtain ⟨c0, c1, _⟩ := two_cells hC
          go_simp
        go_simp
        refine hK _ ?_
        clear hK K
        refine held_op 5 17 (.pointer (some ⟨w.heap.size, 1, none⟩)) rfl rfl (by kernel_rfl) (by kernel_rfl) (by kernel_rfl) (fun _ _ _ h => h) (by kernel_rfl) hS (fun Y hC => ?_) (fun K hK => ?_)
        · obtain ⟨c0, c1, _⟩ := two_cells hC
          go_simp
        go_simp
        refine hK _ ?_
        clear hK K
        refine held_op 6 16 (.int .i64 sy) rfl rfl (by kernel_rfl) (by kernel_rfl) (by kernel_rfl) (fun _ _ _ h => h) (by kernel_rfl) hS (fun Y hC => ?_) (fun K hK => ?_)
        · obtain ⟨c0, c1, _⟩ := two_cells hC
          go_simp
        go_simp
        refine hK _ ?_
        clear hK K
        refine held_op 7 15 (.pointer (some ⟨w.heap.size, 0, none⟩)) rfl rfl (by kernel_rfl) (by kernel_rfl) (by kernel_rfl) (fun _ _ _ h => h) (by kernel_rfl) hS (fun Y hC => ?_) (fun K hK => ?_)
        · obtain ⟨c0, c1, _⟩ := two_cells hC
          go_simp
        go_simp
        refine hK _ ?_
        clear hK K
        refine held_op 8 14 (.string g) rfl rfl (by kernel_rfl) (by kernel_rfl) (by kernel_rfl) (fun _ _ _ h => h) (by kernel_rfl) hS (fun Y hC => ?_) (fun K hK => ?_)
        · obtain ⟨c0, c1, _⟩ := two_cells hC
          go_simp
        go_simp
        refine hK _ ?_
        clear hK K
        refine held_op 9 13 (.int .i64 (g.size : Int)) rfl rfl (by kernel_rfl) (by kernel_rfl) (by kernel_rfl) (fun _ _ _ h => h) (by kernel_rfl) hS (fun Y hC => ?_) (fun K hK => ?_)
        · obtain ⟨c0, c1, _⟩ := two_cells hC
          go_simp
        go_simp
        refine hK _ ?_
        clear hK K
        refine held_one 10 12 rfl (by kernel_rfl) rfl (by kernel_rfl) (fun K hK => ?_)
        go_simp
        refine (l02Is_b _ HI.out).mono ?_
        rintro e z ⟨rfl, hz⟩
        have hz2 := hz.symm
        clear hz
        subst hz2
        go_wp2_with fail
        refine hK.out _ _ hS ?_
        clear hK K
        refine held_op 11 11 (.bool true) rfl rfl (by kernel_rfl) (by kernel_rfl) (by kernel_rfl) (fun _ _ _ h => h) (by kernel_rfl) hS (fun Y hC => ?_) (fun K hK => ?_)
        · obtain ⟨c0, c1, _⟩ := two_cells hC
          go_simp
        go_simp
        refine hK _ ?_
        clear hK K
        refine held_op 12 10 (.bool true) rfl rfl (by kernel_rfl) (by kernel_rfl) (by kernel_rfl) (fun _ _ _ h => h) (by kernel_rfl) hS (fun Y hC => ?_) (fun K hK => ?_)
        · obtain ⟨c0, c1, _⟩ := two_cells hC
          go_simp
        go_simp
        refine hK _ ?_
        clear hK K
        refine held_op 13 9 (.pointer (some ⟨w.heap.size, 0, none⟩)) rfl rfl (by kernel_rfl) (by kernel_rfl) (by kernel_rfl) (fun _ _ _ h => h) (by kernel_rfl) hS (fun Y hC => ?_) (fun K hK => ?_)
        · obtain ⟨c0, c1, _⟩ := two_cells hC
          go_simp
        go_simp
        refine hK _ ?_
        clear hK K
        refine held_op 14 8 (.string g) rfl rfl (by kernel_rfl) (by kernel_rfl) (by kernel_rfl) (fun _ _ _ h => h) (by kernel_rfl) hS (fun Y hC => ?_) (fun K hK => ?_)
        · obtain ⟨c0, c1, _⟩ := two_cells hC
          go_simp
        go_simp
        refine hK _ ?_
        clear hK K
        refine held_op 17 7 (.pointer (some ⟨w.heap.size, 0, none⟩)) rfl rfl (by kernel_rfl) (by kernel_rfl) (by kernel_rfl) (fun _ _ _ h => h) (by kernel_rfl) hS (fun Y hC => ?_) (fun K hK => ?_)
        · obtain ⟨c0, c1, _⟩ := two_cells hC
          go_simp
        go_simp
        refine hK _ ?_
        clear hK K
        refine held_op 18 6 (.string g) rfl rfl (by kernel_rfl) (by kernel_rfl) (by kernel_rfl) (fun _ _ _ h => h) (by kernel_rfl) hS (fun Y hC => ?_) (fun K hK => ?_)
        · obtain ⟨c0, c1, _⟩ := two_cells hC
          go_simp
        go_simp
        refine hK _ ?_
        clear hK K
        refine held_op 19 5 (.int .i64 (g.size : Int)) rfl rfl (by kernel_rfl) (by kernel_rfl) (by kernel_rfl) (fun _ _ _ h => h) (by kernel_rfl) hS (fun Y hC => ?_) (fun K hK => ?_)
        · obtain ⟨c0, c1, _⟩ := two_cells hC
          go_simp
        go_simp
        refine hK _ ?_
        clear hK K
        refine held_one 15 4 rfl (by kernel_rfl) rfl (by kernel_rfl) (fun K hK => ?_)
        go_simp
        refine (l08State_any g _ hg8).mono ?_
        rintro e z ⟨⟨v, rfl, ho⟩, hb⟩
        rw [HST.out] at ho ⊢
        obtain ⟨a, l, rfl, _⟩ := ho.rows srcC_len
        have hS : ShC w.heap.size g sy z := heap_keep HW1.out hb
        have HBz : Hid (Below w.heap.size w z) := below_call HB.out hb
        have hfd := field_at .nilIface im n p a S.length l
        unfold StR
        dsimp only
        clear hb ho
        go_wp2_with fail
        refine hK.out _ _ hS ?_
        clear hK K
        refine held_op 16 3 (.int .i64 (p : Int)) rfl rfl (by kernel_rfl) (by kernel_rfl) (by kernel_rfl) (fun _ _ _ h => h) (by kernel_rfl) hS (fun Y hC => ?_) (fun K hK => ?_)
        · obtain ⟨c0, c1, _⟩ := two_cells hC
          go_simp
        go_simp
        refine hK _ ?_
        clear hK K
        refine held_op 20 2 (.bool true) rfl rfl (by kernel_rfl) (by kernel_rfl) (by kernel_rfl) (fun _ _ _ h => h) (by kernel_rfl) hS (fun Y hC => ?_) (fun K hK => ?_)
        · obtain ⟨c0, c1, _⟩ := two_cells hC
          go_simp
        go_simp
        refine hK _ ?_
        clear hK K
        refine held_op 21 1 (.bool true) rfl rfl (by kernel_rfl) (by kernel_rfl) (by kernel_rfl) (fun _ _ _ h => h) (by kernel_rfl) hS (fun Y hC => ?_) (fun K hK => ?_)
        · obtain ⟨c0, c1, _⟩ := two_cells hC
          go_simp
        go_simp
        refine hK _ ?_
        clear hK K
        refine held_op 22 0 (.bool true) rfl rfl (by kernel_rfl) (by kernel_rfl) (by kernel_rfl) (fun _ _ _ h => h) (by kernel_rfl) hS (fun Y hC => ?_) (fun K hK => ?_)
        · obtain ⟨c0, c1, _⟩ := two_cells hC
          go_simp
        go_simp
        refine hK _ ?_
        clear hK K
        refine held_done (by kernel_rfl) ?_
        go_wp2
        go_ret
        exact ⟨ret_bool HQ.out.symm, HBz.out⟩
      · have hq4 : ((p : Int) == (g.size : Int)) = false := by rw [beq_eq_false_iff_ne]; exact e1
        have HQ : Hid (okShop g sy = false) := by show _ = _; rw [HOK.out]; exact decide_eq_false e1
        go_enter Tryz.func14, Tryz.ntmps14
        go_wp2_with fail
        refine wp_region_held_drew (S := ShC w.heap.size g sy) (by kernel_rfl) HW1.out (fun hS => WH.out ?_)
        refine held_op 0 22 (.pointer (some ⟨w.heap.size, 0, none⟩)) rfl rfl (by kernel_rfl) (by kernel_rfl) (by kernel_rfl) (fun _ _ _ h => h) (by kernel_rfl) hS (fun Y hC => ?_) (fun K hK => ?_)
        · obtain ⟨c0, c1, _⟩ := two_cells hC
          go_simp
        go_simp
        refine hK _ ?_
        clear hK K
        refine held_op 1 21 (.string g) rfl rfl (by kernel_rfl) (by kernel_rfl) (by kernel_rfl) (fun _ _ _ h => h) (by kernel_rfl) hS (fun Y hC => ?_) (fun K hK => ?_)
        · obtain ⟨c0, c1, _⟩ := two_cells hC
          go_simp
        go_simp
        refine hK _ ?_
        clear hK K
        refine held_op 2 20 (.int .i64 (g.size : Int)) rfl rfl (by kernel_rfl) (by kernel_rfl) (by kernel_rfl) (fun _ _ _ h => h) (by kernel_rfl) hS (fun Y hC => ?_) (fun K hK => ?_)
        · obtain ⟨c0, c1, _⟩ := two_cells hC
          go_simp
        go_simp
        refine hK _ ?_
        clear hK K
        refine held_op 3 19 (.bool true) rfl rfl (by kernel_rfl) (by kernel_rfl) (by kernel_rfl) (fun _ _ _ h => h) (by kernel_rfl) hS (fun Y hC => ?_) (fun K hK => ?_)
        · obtain ⟨c0, c1, _⟩ := two_cells hC
          go_simp
        go_simp
        refine hK _ ?_
        clear hK K
        refine held_op 4 18 (.bool true) rfl rfl (by kernel_rfl) (by kernel_rfl) (by kernel_rfl) (fun _ _ _ h => h) (by kernel_rfl) hS (fun Y hC => ?_) (fun K hK => ?_)
        · obtain ⟨c0, c1, _⟩ := two_cells hC
          go_simp
        go_simp
        refine hK _ ?_
        clear hK K
        refine held_op 5 17 (.pointer (some ⟨w.heap.size, 1, none⟩)) rfl rfl (by kernel_rfl) (by kernel_rfl) (by kernel_rfl) (fun _ _ _ h => h) (by kernel_rfl) hS (fun Y hC => ?_) (fun K hK => ?_)
        · obtain ⟨c0, c1, _⟩ := two_cells hC
          go_simp
        go_simp
        refine hK _ ?_
        clear hK K
        refine held_op 6 16 (.int .i64 sy) rfl rfl (by kernel_rfl) (by kernel_rfl) (by kernel_rfl) (fun _ _ _ h => h) (by kernel_rfl) hS (fun Y hC => ?_) (fun K hK => ?_)
        · obtain ⟨c0, c1, _⟩ := two_cells hC
          go_simp
        go_simp
        refine hK _ ?_
        clear hK K
        refine held_op 7 15 (.pointer (some ⟨w.heap.size, 0, none⟩)) rfl rfl (by kernel_rfl) (by kernel_rfl) (by kernel_rfl) (fun _ _ _ h => h) (by kernel_rfl) hS (fun Y hC => ?_) (fun K hK => ?_)
        · obtain ⟨c0, c1, _⟩ := two_cells hC
          go_simp
        go_simp
        refine hK _ ?_
        clear hK K
        refine held_op 8 14 (.string g) rfl rfl (by kernel_rfl) (by kernel_rfl) (by kernel_rfl) (fun _ _ _ h => h) (by kernel_rfl) hS (fun Y hC => ?_) (fun K hK => ?_)
        · obtain ⟨c0, c1, _⟩ := two_cells hC
          go_simp
        go_simp
        refine hK _ ?_
        clear hK K
        refine held_op 9 13 (.int .i64 (g.size : Int)) rfl rfl (by kernel_rfl) (by kernel_rfl) (by kernel_rfl) (fun _ _ _ h => h) (by kernel_rfl) hS (fun Y hC => ?_) (fun K hK => ?_)
        · obtain ⟨c0, c1, _⟩ := two_cells hC
          go_simp
        go_simp
        refine hK _ ?_
        clear hK K
        refine held_one 10 12 rfl (by kernel_rfl) rfl (by kernel_rfl) (fun K hK => ?_)
        go_simp
        refine (l02Is_b _ HI.out).mono ?_
        rintro e z ⟨rfl, hz⟩
        have hz2 := hz.symm
        clear hz
        subst hz2
        go_wp2_with fail
        refine hK.out _ _ hS ?_
        clear hK K
        refine held_op 11 11 (.bool true) rfl rfl (by kernel_rfl) (by kernel_rfl) (by kernel_rfl) (fun _ _ _ h => h) (by kernel_rfl) hS (fun Y hC => ?_) (fun K hK => ?_)
        · obtain ⟨c0, c1, _⟩ := two_cells hC
          go_simp
        go_simp
        refine hK _ ?_
        clear hK K
        refine held_op 12 10 (.bool true) rfl rfl (by kernel_rfl) (by kernel_rfl) (by kernel_rfl) (fun _ _ _ h => h) (by kernel_rfl) hS (fun Y hC => ?_) (fun K hK => ?_)
        · obtain ⟨c0, c1, _⟩ := two_cells hC
          go_simp
        go_simp
        refine hK _ ?_
        clear hK K
        refine held_op 13 9 (.pointer (some ⟨w.heap.size, 0, none⟩)) rfl rfl (by kernel_rfl) (by kernel_rfl) (by kernel_rfl) (fun _ _ _ h => h) (by kernel_rfl) hS (fun Y hC => ?_) (fun K hK => ?_)
        · obtain ⟨c0, c1, _⟩ := two_cells hC
          go_simp
        go_simp
        refine hK _ ?_
        clear hK K
        refine held_op 14 8 (.string g) rfl rfl (by kernel_rfl) (by kernel_rfl) (by kernel_rfl) (fun _ _ _ h => h) (by kernel_rfl) hS (fun Y hC => ?_) (fun K hK => ?_)
        · obtain ⟨c0, c1, _⟩ := two_cells hC
          go_simp
        go_simp
        refine hK _ ?_
        clear hK K
        refine held_op 17 7 (.pointer (some ⟨w.heap.size, 0, none⟩)) rfl rfl (by kernel_rfl) (by kernel_rfl) (by kernel_rfl) (fun _ _ _ h => h) (by kernel_rfl) hS (fun Y hC => ?_) (fun K hK => ?_)
        · obtain ⟨c0, c1, _⟩ := two_cells hC
          go_simp
        go_simp
        refine hK _ ?_
        clear hK K
        refine held_op 18 6 (.string g) rfl rfl (by kernel_rfl) (by kernel_rfl) (by kernel_rfl) (fun _ _ _ h => h) (by kernel_rfl) hS (fun Y hC => ?_) (fun K hK => ?_)
        · obtain ⟨c0, c1, _⟩ := two_cells hC
          go_simp
        go_simp
        refine hK _ ?_
        clear hK K
        refine held_op 19 5 (.int .i64 (g.size : Int)) rfl rfl (by kernel_rfl) (by kernel_rfl) (by kernel_rfl) (fun _ _ _ h => h) (by kernel_rfl) hS (fun Y hC => ?_) (fun K hK => ?_)
        · obtain ⟨c0, c1, _⟩ := two_cells hC
          go_simp
        go_simp
        refine hK _ ?_
        clear hK K
        refine held_one 15 4 rfl (by kernel_rfl) rfl (by kernel_rfl) (fun K hK => ?_)
        go_simp
        refine (l08State_any g _ hg8).mono ?_
        rintro e z ⟨⟨v, rfl, ho⟩, hb⟩
        rw [HST.out] at ho ⊢
        obtain ⟨a, l, rfl, _⟩ := ho.rows srcC_len
        have hS : ShC w.heap.size g sy z := heap_keep HW1.out hb
        have HBz : Hid (Below w.heap.size w z) := below_call HB.out hb
        have hfd := field_at .nilIface im n p a S.length l
        unfold StR
        dsimp only
        clear hb ho
        go_wp2_with fail
        refine hK.out _ _ hS ?_
        clear hK K
        refine held_op 16 3 (.int .i64 (p : Int)) rfl rfl (by kernel_rfl) (by kernel_rfl) (by kernel_rfl) (fun _ _ _ h => h) (by kernel_rfl) hS (fun Y hC => ?_) (fun K hK => ?_)
        · obtain ⟨c0, c1, _⟩ := two_cells hC
          go_simp
        go_simp
        refine hK _ ?_
        clear hK K
        refine held_op 20 2 (.bool false) rfl rfl (by kernel_rfl) (by kernel_rfl) (by kernel_rfl) (fun _ _ _ h => h) (by kernel_rfl) hS (fun Y hC => ?_) (fun K hK => ?_)
        · obtain ⟨c0, c1, _⟩ := two_cells hC
          go_simp
        go_simp
        refine hK _ ?_
        clear hK K
        refine held_op 21 1 (.bool false) rfl rfl (by kernel_rfl) (by kernel_rfl) (by kernel_rfl) (fun _ _ _ h => h) (by kernel_rfl) hS (fun Y hC => ?_) (fun K hK => ?_)
        · obtain ⟨c0, c1, _⟩ := two_cells hC
          go_simp
        go_simp
        refine hK _ ?_
        clear hK K
        refine held_op 22 0 (.bool false) rfl rfl (by kernel_rfl) (by kernel_rfl) (by kernel_rfl) (fun _ _ _ h => h) (by kernel_rfl) hS (fun Y hC => ?_) (fun K hK => ?_)
        · obtain ⟨c0, c1, _⟩ := two_cells hC
          go_simp
        go_simp
        refine hK _ ?_
        clear hK K
        refine held_done (by kernel_rfl) ?_
        go_wp2
        go_ret
        exact ⟨ret_bool HQ.out.symm, HBz.out⟩
    · have HI : Hid (isB sy 0 g.size = false) := by show _ = _; unfold isB; simp; intro h; omega
      have HQ : Hid (okShop g sy = false) := ok_out hin
      clear hbig hin
      go_enter Tryz.func14, Tryz.ntmps14
      go_wp2_with fail
      refine wp_region_held_drew (S := ShC w.heap.size g sy) (by kernel_rfl) HW1.out (fun hS => WH.out ?_)
      refine held_op 0 22 (.pointer (some ⟨w.heap.size, 0, none⟩)) rfl rfl (by kernel_rfl) (by kernel_rfl) (by kernel_rfl) (fun _ _ _ h => h) (by kernel_rfl) hS (fun Y hC => ?_) (fun K hK => ?_)
      · obtain ⟨c0, c1, _⟩ := two_cells hC
        go_simp
      go_simp
      refine hK _ ?_
      clear hK K
      refine held_op 1 21 (.string g) rfl rfl (by kernel_rfl) (by kernel_rfl) (by kernel_rfl) (fun _ _ _ h => h) (by kernel_rfl) hS (fun Y hC => ?_) (fun K hK => ?_)
      · obtain ⟨c0, c1, _⟩ := two_cells hC
        go_simp
      go_simp
      refine hK _ ?_
      clear hK K
      refine held_op 2 20 (.int .i64 (g.size : Int)) rfl rfl (by kernel_rfl) (by kernel_rfl) (by kernel_rfl) (fun _ _ _ h => h) (by kernel_rfl) hS (fun Y hC => ?_) (fun K hK => ?_)
      · obtain ⟨c0, c1, _⟩ := two_cells hC
        go_simp
      go_simp
      refine hK _ ?_
      clear hK K
      refine held_op 3 19 (.bool true) rfl rfl (by kernel_rfl) (by kernel_rfl) (by kernel_rfl) (fun _ _ _ h => h) (by kernel_rfl) hS (fun Y hC => ?_) (fun K hK => ?_)
      · obtain ⟨c0, c1, _⟩ := two_cells hC
        go_simp
      go_simp
      refine hK _ ?_
      clear hK K
      refine held_op 4 18 (.bool true) rfl rfl (by kernel_rfl) (by kernel_rfl) (by kernel_rfl) (fun _ _ _ h => h) (by kernel_rfl) hS (fun Y hC => ?_) (fun K hK => ?_)
      · obtain ⟨c0, c1, _⟩ := two_cells hC
        go_simp
      go_simp
      refine hK _ ?_
      clear hK K
      refine held_op 5 17 (.pointer (some ⟨w.heap.size, 1, none⟩)) rfl rfl (by kernel_rfl) (by kernel_rfl) (by kernel_rfl) (fun _ _ _ h => h) (by kernel_rfl) hS (fun Y hC => ?_) (fun K hK => ?_)
      · obtain ⟨c0, c1, _⟩ := two_cells hC
        go_simp
      go_simp
      refine hK _ ?_
      clear hK K
      refine held_op 6 16 (.int .i64 sy) rfl rfl (by kernel_rfl) (by kernel_rfl) (by kernel_rfl) (fun _ _ _ h => h) (by kernel_rfl) hS (fun Y hC => ?_) (fun K hK => ?_)
      · obtain ⟨c0, c1, _⟩ := two_cells hC
        go_simp
      go_simp
      refine hK _ ?_
      clear hK K
      refine held_op 7 15 (.pointer (some ⟨w.heap.size, 0, none⟩)) rfl rfl (by kernel_rfl) (by kernel_rfl) (by kernel_rfl) (fun _ _ _ h => h) (by kernel_rfl) hS (fun Y hC => ?_) (fun K hK => ?_)
      · obtain ⟨c0, c1, _⟩ := two_cells hC
        go_simp
      go_simp
      refine hK _ ?_
      clear hK K
      refine held_op 8 14 (.string g) rfl rfl (by kernel_rfl) (by kernel_rfl) (by kernel_rfl) (fun _ _ _ h => h) (by kernel_rfl) hS (fun Y hC => ?_) (fun K hK => ?_)
      · obtain ⟨c0, c1, _⟩ := two_cells hC
        go_simp
      go_simp
      refine hK _ ?_
      clear hK K
      refine held_op 9 13 (.int .i64 (g.size : Int)) rfl rfl (by kernel_rfl) (by kernel_rfl) (by kernel_rfl) (fun _ _ _ h => h) (by kernel_rfl) hS (fun Y hC => ?_) (fun K hK => ?_)
      · obtain ⟨c0, c1, _⟩ := two_cells hC
        go_simp
      go_simp
      refine hK _ ?_
      clear hK K
      refine held_one 10 12 rfl (by kernel_rfl) rfl (by kernel_rfl) (fun K hK => ?_)
      go_simp
      refine (l02Is_b _ HI.out).mono ?_
      rintro e z ⟨rfl, hz⟩
      have hz2 := hz.symm
      clear hz
      subst hz2
      go_wp2_with fail
      refine hK.out _ _ hS ?_
      clear hK K
      refine held_op 11 11 (.bool false) rfl rfl (by kernel_rfl) (by kernel_rfl) (by kernel_rfl) (fun _ _ _ h => h) (by kernel_rfl) hS (fun Y hC => ?_) (fun K hK => ?_)
      · obtain ⟨c0, c1, _⟩ := two_cells hC
        go_simp
      go_simp
      refine hK _ ?_
      clear hK K
      refine held_op 12 10 (.bool false) rfl rfl (by kernel_rfl) (by kernel_rfl) (by kernel_rfl) (fun _ _ _ h => h) (by kernel_rfl) hS (fun Y hC => ?_) (fun K hK => ?_)
      · obtain ⟨c0, c1, _⟩ := two_cells hC
        go_simp
      go_simp
      refine hK _ ?_
      clear hK K
      refine held_skip 13 9 rfl rfl (by kernel_rfl) (by kernel_rfl) (by kernel_rfl) (fun _ _ _ h => h) (by kernel_rfl) hS (fun K hK => ?_)
      go_simp
      refine hK _ ?_
      clear hK K
      refine held_skip 14 8 rfl rfl (by kernel_rfl) (by kernel_rfl) (by kernel_rfl) (fun _ _ _ h => h) (by kernel_rfl) hS (fun K hK => ?_)
      go_simp
      refine hK _ ?_
      clear hK K
      refine held_skip 15 7 rfl rfl (by kernel_rfl) (by kernel_rfl) (by kernel_rfl) (fun _ _ _ h => h) (by kernel_rfl) hS (fun K hK => ?_)
      go_simp
      refine hK _ ?_
      clear hK K
      refine held_skip 16 6 rfl rfl (by kernel_rfl) (by kernel_rfl) (by kernel_rfl) (fun _ _ _ h => h) (by kernel_rfl) hS (fun K hK => ?_)
      go_simp
      refine hK _ ?_
      clear hK K
      refine held_skip 17 5 rfl rfl (by kernel_rfl) (by kernel_rfl) (by kernel_rfl) (fun _ _ _ h => h) (by kernel_rfl) hS (fun K hK => ?_)
      go_simp
      refine hK _ ?_
      clear hK K
      refine held_skip 18 4 rfl rfl (by kernel_rfl) (by kernel_rfl) (by kernel_rfl) (fun _ _ _ h => h) (by kernel_rfl) hS (fun K hK => ?_)
      go_simp
      refine hK _ ?_
      clear hK K
      refine held_skip 19 3 rfl rfl (by kernel_rfl) (by kernel_rfl) (by kernel_rfl) (fun _ _ _ h => h) (by kernel_rfl) hS (fun K hK => ?_)
      go_simp
      refine hK _ ?_
      clear hK K
      refine held_skip 20 2 rfl rfl (by kernel_rfl) (by kernel_rfl) (by kernel_rfl) (fun _ _ _ h => h) (by kernel_rfl) hS (fun K hK => ?_)
      go_simp
      refine hK _ ?_
      clear hK K
      refine held_op 21 1 (.bool false) rfl rfl (by kernel_rfl) (by kernel_rfl) (by kernel_rfl) (fun _ _ _ h => h) (by kernel_rfl) hS (fun Y hC => ?_) (fun K hK => ?_)
      · obtain ⟨c0, c1, _⟩ := two_cells hC
        go_simp
      go_simp
      refine hK _ ?_
      clear hK K
      refine held_op 22 0 (.bool false) rfl rfl (by kernel_rfl) (by kernel_rfl) (by kernel_rfl) (fun _ _ _ h => h) (by kernel_rfl) hS (fun Y hC => ?_) (fun K hK => ?_)
      · obtain ⟨c0, c1, _⟩ := two_cells hC
        go_simp
      go_simp
      refine hK _ ?_
      clear hK K
      refine held_done (by kernel_rfl) ?_
      go_wp2
      go_ret
      exact ⟨ret_bool HQ.out.symm, HB.out⟩
end Go.Proofs.YtnhehdobpibgkaaGreatDoor
