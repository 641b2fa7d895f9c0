/- Is a Shop right? By the program. -/
import Derived.Test.YtnhehdobpibgkaaGreatDoorRows
import Derived.WalkKit
import Derived.WalkSpells
import Derived.WalkLawsBesides
import Derived.Outline
import Derived.RegionTactic
import Derived.BigRegion
import Derived.Test.YtnhehdobpibgkaaGreatDoorBun0
import Derived.Test.YtnhehdobpibgkaaGreatDoorBun36
import Derived.Test.YtnhehdobpibgkaaGreatDoorLawStateZq
namespace Go.Proofs.YtnhehdobpibgkaaGreatDoor
open Go.RowKit
set_option linter.unusedVariables false

def okShop (g : ByteArray) (sy : Int) : Bool := decide ((stOf g).2 = g.size ∧ 0 ≤ sy ∧ sy ≤ g.size)
def RgC (b1 b4 : Nat) (g : ByteArray) (sy : Int) (v : Value) (im : ByteArray) (n p : Int) (W : World) : Prop :=
  W.heap[b1]? = some (.cells #[.string g, .int .i64 sy] 33 (0, 0)) ∧ W.heap[b4]? = some (.cells #[v, .string im, .int .i64 n, .int .i64 p] 24 (0, 0))
theorem setW_far {x : World} {B b : Nat} {v : Value} {im : ByteArray} {n at_ : Int} {o : Obj} (hne : b ≠ B) (h : x.heap[b]? = some o) : (setW x B v im n at_).heap[b]? = some o := by
  unfold setW
  exact set_far (a := ⟨B, 3, none⟩) hne (set_far (a := ⟨B, 2, none⟩) hne (set_far (a := ⟨B, 1, none⟩) hne (set_far (a := ⟨B, 0, none⟩) hne h)))
set_option maxRecDepth 100000 in
set_option maxHeartbeats 3200000 in
theorem rightState_any (te : TypeId) (pe : Value) (g : ByteArray) (sy : Int) (w : World) (hs : g.size ≤ maxLen) (hP : PanV te pe w) (hE : ErrV w) :
    Calls Tryz.prog 32 #[.agg #[.string g, .int .i64 sy]] w fun e w' => (∃ v, e = .returned (.tuple #[StR v (stOf g).1 (stOf g).2, .bool (okShop g sy)]) ∧ OwnR w' w.heap.size v (stOf g).1.1) ∧ Below w.heap.size w w' := by
  have HS : Hid (g.size ≤ maxLen) := hs
  have HP : Hid (PanV te pe w) := hP
  have HE : Hid (ErrV w) := hE
  obtain ⟨⟨⟨S, im, n⟩, p⟩, hst⟩ : ∃ st, stOf g = st := ⟨_, rfl⟩
  have HST : Hid (stOf g = ((S, im, n), p)) := hst
  have HOK : Hid (okShop g sy = decide ((p : Int) = (g.size : Int) ∧ 0 ≤ sy ∧ sy ≤ g.size)) := by
    show _ = _
    unfold okShop
    rw [hst]
    simp only [Int.natCast_inj]
  unfold maxLen at hs
  clear hP hE hst
  go_enter Tryz.func32, Tryz.ntmps32
  go_wp2_with fail
  refine (implStateOf_any te pe g _ HS.out ((HP.out.alloc _).alloc _) ((HE.out.alloc _).alloc _)).mono ?_
  rintro e x ⟨⟨v, rfl, ho⟩, hb⟩
  rw [HST.out] at ho ⊢
  obtain ⟨a, k, rfl, _⟩ := ho.rows srcC_len
  have HO : Hid (OwnR x (w.heap.size + 2) (.slice a S.length k) S) := OwnX.low ho (by simp)
  have HB : Hid (Below w.heap.size w x) := below_call (below_more (below_new w _) _) hb
  have HW1 : Hid (x.heap[w.heap.size]? = some (.cells #[.string g, .int .i64 sy] 33 (0, 0))) := heap_keep (heap_more (heap_alloc_new w _) _) hb
  have HW2 : Hid (x.heap[w.heap.size + 1]? = some (.cells #[.slice none 0 0, .string ⟨#[]⟩, .int .i64 0, .int .i64 0] 24 (0, 0))) := heap_keep (heap_new2 w _ _) hb
  have hz := heap_lt HW2.out
  have hz0 : w.heap.size < x.heap.size := by omega
  obtain ⟨c0, c1, c2, c3⟩ := two_cells HW1.out
  have HRG : Hid (RgC w.heap.size x.heap.size g sy (.slice a S.length k) im n p ((x.alloc (.cells #[.slice a S.length k, .string im, .int .i64 (n : Int), .int .i64 (p : Int)] 24)).drew)) := ⟨heap_drewn (heap_more HW1.out _), heap_drewn (heap_alloc_new x _)⟩
  have HEND : Hid (∀ (q : Bool) (tmps : Array Value), tmps.getD 2 undef = .pointer (some ⟨w.heap.size + 1, 0, none⟩) → tmps.getD 3 undef = .bool q → okShop g sy = q → bodyPost Tryz.prog Tryz.f32 (fun e w' => (∃ v, e = .returned (.tuple #[StR v (stOf g).1 (stOf g).2, .bool (okShop g sy)]) ∧ OwnR w' w.heap.size v (stOf g).1.1) ∧ Below w.heap.size w w') Exit.ret { tmps := tmps, defers := [] } (((setW x (w.heap.size + 1) (.slice a S.length k) im n p).alloc (.cells #[.slice a S.length k, .string im, .int .i64 (n : Int), .int .i64 (p : Int)] 24)).drew)) := by
    rintro q tmps h2 h3 rfl
    rw [HST.out]
    refine bodyPost_ret (results_row1 Tryz.results32 _ _ (w.heap.size + 1) 24 _ (0, 0) _ h2 (by exact heap_more (set_four HW2.out) _) Tryz.underlying24 rfl (by kernel_rfl)) rfl ⟨⟨_, by rw [h3]; rfl, ?_⟩, ?_⟩
    · exact ((OwnX.alloc (own_set (own_set (own_set (own_set HO.out (by omega)) (by omega)) (by omega)) (by omega)) _).call (Below.refl _ _).drew).low (by omega)
    · exact (below_more ((((HB.out.setCell (by show _ ≤ w.heap.size + 1; omega) _).setCell (by show _ ≤ w.heap.size + 1; omega) _).setCell (by show _ ≤ w.heap.size + 1; omega) _).setCell (by show _ ≤ w.heap.size + 1; omega) _) _).drew
  unfold StR
  dsimp only
  clear hb ho
  by_cases e1 : (p : Int) = (g.size : Int)
  · have hq1 : ((p : Int) == (g.size : Int)) = true := by rw [beq_iff_eq]; exact e1
    by_cases e2 : 0 ≤ sy
    · have hq2 : decide (0 ≤ sy) = true := decide_eq_true e2
      by_cases e3 : sy ≤ (g.size : Int)
      · have hq3 : decide (sy ≤ (g.size : Int)) = true := decide_eq_true e3
        have HQ : Hid (okShop g sy = true) := by show _ = _; rw [HOK.out]; exact decide_eq_true ⟨e1, e2, e3⟩
        clear e1
        go_wp2_with fail
        refine wp_region_held_drew (S := RgC w.heap.size x.heap.size g sy (.slice a S.length k) im n p) (by kernel_rfl) HRG.out (fun hS => WH.out ?_)
        refine held_op 0 17 (.agg #[.slice a S.length k, .string im, .int .i64 (n : Int), .int .i64 (p : Int)]) rfl rfl (by kernel_rfl) (by kernel_rfl) (by kernel_rfl) (fun _ _ _ h => h) (by kernel_rfl) hS (fun Y hC => ?_) (fun K hK => ?_)
        · obtain ⟨⟨c0, c1, _⟩, ⟨⟨d0, d1, d2, d3⟩, _⟩⟩ := (⟨two_cells hC.1, four_cf hC.2⟩ : _ ∧ _)
          go_simp
        go_simp
        refine hK _ ?_
        clear hK K
        refine held_op 1 16 (.pointer (some ⟨x.heap.size, 3, none⟩)) rfl rfl (by kernel_rfl) (by kernel_rfl) (by kernel_rfl) (fun _ _ _ h => h) (by kernel_rfl) hS (fun Y hC => ?_) (fun K hK => ?_)
        · obtain ⟨⟨c0, c1, _⟩, ⟨⟨d0, d1, d2, d3⟩, _⟩⟩ := (⟨two_cells hC.1, four_cf hC.2⟩ : _ ∧ _)
          go_simp
        go_simp
        refine hK _ ?_
        clear hK K
        refine held_op 2 15 (.int .i64 (p : Int)) rfl rfl (by kernel_rfl) (by kernel_rfl) (by kernel_rfl) (fun _ _ _ h => h) (by kernel_rfl) hS (fun Y hC => ?_) (fun K hK => ?_)
        · obtain ⟨⟨c0, c1, _⟩, ⟨⟨d0, d1, d2, d3⟩, _⟩⟩ := (⟨two_cells hC.1, four_cf hC.2⟩ : _ ∧ _)
          go_simp
        go_simp
        refine hK _ ?_
        clear hK K
        refine held_op 3 14 (.int .i64 (g.size : Int)) rfl rfl (by kernel_rfl) (by kernel_rfl) (by kernel_rfl) (fun _ _ _ h => h) (by kernel_rfl) hS (fun Y hC => ?_) (fun K hK => ?_)
        · obtain ⟨⟨c0, c1, _⟩, ⟨⟨d0, d1, d2, d3⟩, _⟩⟩ := (⟨two_cells hC.1, four_cf hC.2⟩ : _ ∧ _)
          go_simp
        go_simp
        refine hK _ ?_
        clear hK K
        refine held_op 4 13 (.bool true) rfl rfl (by kernel_rfl) (by kernel_rfl) (by kernel_rfl) (fun _ _ _ h => h) (by kernel_rfl) hS (fun Y hC => ?_) (fun K hK => ?_)
        · obtain ⟨⟨c0, c1, _⟩, ⟨⟨d0, d1, d2, d3⟩, _⟩⟩ := (⟨two_cells hC.1, four_cf hC.2⟩ : _ ∧ _)
          go_simp
        go_simp
        refine hK _ ?_
        clear hK K
        refine held_op 5 12 (.bool true) rfl rfl (by kernel_rfl) (by kernel_rfl) (by kernel_rfl) (fun _ _ _ h => h) (by kernel_rfl) hS (fun Y hC => ?_) (fun K hK => ?_)
        · obtain ⟨⟨c0, c1, _⟩, ⟨⟨d0, d1, d2, d3⟩, _⟩⟩ := (⟨two_cells hC.1, four_cf hC.2⟩ : _ ∧ _)
          go_simp
        go_simp
        refine hK _ ?_
        clear hK K
        refine held_op 6 11 (.pointer (some ⟨w.heap.size, 1, none⟩)) rfl rfl (by kernel_rfl) (by kernel_rfl) (by kernel_rfl) (fun _ _ _ h => h) (by kernel_rfl) hS (fun Y hC => ?_) (fun K hK => ?_)
        · obtain ⟨⟨c0, c1, _⟩, ⟨⟨d0, d1, d2, d3⟩, _⟩⟩ := (⟨two_cells hC.1, four_cf hC.2⟩ : _ ∧ _)
          go_simp
        go_simp
        refine hK _ ?_
        clear hK K
        refine held_op 7 10 (.int .i64 sy) rfl rfl (by kernel_rfl) (by kernel_rfl) (by kernel_rfl) (fun _ _ _ h => h) (by kernel_rfl) hS (fun Y hC => ?_) (fun K hK => ?_)
        · obtain ⟨⟨c0, c1, _⟩, ⟨⟨d0, d1, d2, d3⟩, _⟩⟩ := (⟨two_cells hC.1, four_cf hC.2⟩ : _ ∧ _)
          go_simp
        go_simp
        refine hK _ ?_
        clear hK K
        refine held_op 8 9 (.bool true) rfl rfl (by kernel_rfl) (by kernel_rfl) (by kernel_rfl) (fun _ _ _ h => h) (by kernel_rfl) hS (fun Y hC => ?_) (fun K hK => ?_)
        · obtain ⟨⟨c0, c1, _⟩, ⟨⟨d0, d1, d2, d3⟩, _⟩⟩ := (⟨two_cells hC.1, four_cf hC.2⟩ : _ ∧ _)
          go_simp
        go_simp
        refine hK _ ?_
        clear hK K
        refine held_op 9 8 (.bool true) rfl rfl (by kernel_rfl) (by kernel_rfl) (by kernel_rfl) (fun _ _ _ h => h) (by kernel_rfl) hS (fun Y hC => ?_) (fun K hK => ?_)
        · obtain ⟨⟨c0, c1, _⟩, ⟨⟨d0, d1, d2, d3⟩, _⟩⟩ := (⟨two_cells hC.1, four_cf hC.2⟩ : _ ∧ _)
          go_simp
        go_simp
        refine hK _ ?_
        clear hK K
        refine held_op 10 7 (.bool true) rfl rfl (by kernel_rfl) (by kernel_rfl) (by kernel_rfl) (fun _ _ _ h => h) (by kernel_rfl) hS (fun Y hC => ?_) (fun K hK => ?_)
        · obtain ⟨⟨c0, c1, _⟩, ⟨⟨d0, d1, d2, d3⟩, _⟩⟩ := (⟨two_cells hC.1, four_cf hC.2⟩ : _ ∧ _)
          go_simp
        go_simp
        refine hK _ ?_
        clear hK K
        refine held_op 11 6 (.pointer (some ⟨w.heap.size, 1, none⟩)) rfl rfl (by kernel_rfl) (by kernel_rfl) (by kernel_rfl) (fun _ _ _ h => h) (by kernel_rfl) hS (fun Y hC => ?_) (fun K hK => ?_)
        · obtain ⟨⟨c0, c1, _⟩, ⟨⟨d0, d1, d2, d3⟩, _⟩⟩ := (⟨two_cells hC.1, four_cf hC.2⟩ : _ ∧ _)
          go_simp
        go_simp
        refine hK _ ?_
        clear hK K
        refine held_op 12 5 (.int .i64 sy) rfl rfl (by kernel_rfl) (by kernel_rfl) (by kernel_rfl) (fun _ _ _ h => h) (by kernel_rfl) hS (fun Y hC => ?_) (fun K hK => ?_)
        · obtain ⟨⟨c0, c1, _⟩, ⟨⟨d0, d1, d2, d3⟩, _⟩⟩ := (⟨two_cells hC.1, four_cf hC.2⟩ : _ ∧ _)
          go_simp
        go_simp
        refine hK _ ?_
        clear hK K
        refine held_op 13 4 (.int .i64 (g.size : Int)) rfl rfl (by kernel_rfl) (by kernel_rfl) (by kernel_rfl) (fun _ _ _ h => h) (by kernel_rfl) hS (fun Y hC => ?_) (fun K hK => ?_)
        · obtain ⟨⟨c0, c1, _⟩, ⟨⟨d0, d1, d2, d3⟩, _⟩⟩ := (⟨two_cells hC.1, four_cf hC.2⟩ : _ ∧ _)
          go_simp
        go_simp
        refine hK _ ?_
        clear hK K
        refine held_op 14 3 (.bool true) rfl rfl (by kernel_rfl) (by kernel_rfl) (by kernel_rfl) (fun _ _ _ h => h) (by kernel_rfl) hS (fun Y hC => ?_) (fun K hK => ?_)
        · obtain ⟨⟨c0, c1, _⟩, ⟨⟨d0, d1, d2, d3⟩, _⟩⟩ := (⟨two_cells hC.1, four_cf hC.2⟩ : _ ∧ _)
          go_simp
        go_simp
        refine hK _ ?_
        clear hK K
        refine held_op 15 2 (.bool true) rfl rfl (by kernel_rfl) (by kernel_rfl) (by kernel_rfl) (fun _ _ _ h => h) (by kernel_rfl) hS (fun Y hC => ?_) (fun K hK => ?_)
        · obtain ⟨⟨c0, c1, _⟩, ⟨⟨d0, d1, d2, d3⟩, _⟩⟩ := (⟨two_cells hC.1, four_cf hC.2⟩ : _ ∧ _)
          go_simp
        go_simp
        refine hK _ ?_
        clear hK K
        refine held_one 16 1 rfl (by kernel_rfl) rfl (by kernel_rfl) (fun K hK => ?_)
        obtain ⟨⟨c0, c1, c2, c3⟩, f0, f1, f2, f3⟩ := four_cf HW2.out
        go_simp
        have hS : RgC w.heap.size x.heap.size g sy (.slice a S.length k) im n p (((setW x (w.heap.size + 1) (.slice a S.length k) im n p).alloc (.cells #[.slice a S.length k, .string im, .int .i64 (n : Int), .int .i64 (p : Int)] 24)).drew) := ⟨heap_drewn (heap_more (setW_far (by omega) HW1.out) _), heap_drewn (alloc_at (by simp [setW]) _)⟩
        refine hK.out _ _ hS ?_
        clear hK K
        refine held_op 17 0 (.bool true) rfl rfl (by kernel_rfl) (by kernel_rfl) (by kernel_rfl) (fun _ _ _ h => h) (by kernel_rfl) hS (fun Y hC => ?_) (fun K hK => ?_)
        · skip
          go_simp
        go_simp
        refine hK _ ?_
        clear hK K
        refine held_done (by kernel_rfl) ?_
        go_wp2
        refine HEND.out true _ ?_ ?_ HQ.out <;> rfl
      · have hq3 : decide (sy ≤ (g.size : Int)) = false := decide_eq_false e3
        have HQ : Hid (okShop g sy = false) := by show _ = _; rw [HOK.out]; exact decide_eq_false (fun h => e3 h.2.2)
        clear e1
        go_wp2_with fail
        refine wp_region_held_drew (S := RgC w.heap.size x.heap.size g sy (.slice a S.length k) im n p) (by kernel_rfl) HRG.out (fun hS => WH.out ?_)
        refine held_op 0 17 (.agg #[.slice a S.length k, .string im, .int .i64 (n : Int), .int .i64 (p : Int)]) rfl rfl (by kernel_rfl) (by kernel_rfl) (by kernel_rfl) (fun _ _ _ h => h) (by kernel_rfl) hS (fun Y hC => ?_) (fun K hK => ?_)
        · obtain ⟨⟨c0, c1, _⟩, ⟨⟨d0, d1, d2, d3⟩, _⟩⟩ := (⟨two_cells hC.1, four_cf hC.2⟩ : _ ∧ _)
          go_simp
        go_simp
        refine hK _ ?_
        clear hK K
        refine held_op 1 16 (.pointer (some ⟨x.heap.size, 3, none⟩)) rfl rfl (by kernel_rfl) (by kernel_rfl) (by kernel_rfl) (fun _ _ _ h => h) (by kernel_rfl) hS (fun Y hC => ?_) (fun K hK => ?_)
        · obtain ⟨⟨c0, c1, _⟩, ⟨⟨d0, d1, d2, d3⟩, _⟩⟩ := (⟨two_cells hC.1, four_cf hC.2⟩ : _ ∧ _)
          go_simp
        go_simp
        refine hK _ ?_
        clear hK K
        refine held_op 2 15 (.int .i64 (p : Int)) rfl rfl (by kernel_rfl) (by kernel_rfl) (by kernel_rfl) (fun _ _ _ h => h) (by kernel_rfl) hS (fun Y hC => ?_) (fun K hK => ?_)
        · obtain ⟨⟨c0, c1, _⟩, ⟨⟨d0, d1, d2, d3⟩, _⟩⟩ := (⟨two_cells hC.1, four_cf hC.2⟩ : _ ∧ _)
          go_simp
        go_simp
        refine hK _ ?_
        clear hK K
        refine held_op 3 14 (.int .i64 (g.size : Int)) rfl rfl (by kernel_rfl) (by kernel_rfl) (by kernel_rfl) (fun _ _ _ h => h) (by kernel_rfl) hS (fun Y hC => ?_) (fun K hK => ?_)
        · obtain ⟨⟨c0, c1, _⟩, ⟨⟨d0, d1, d2, d3⟩, _⟩⟩ := (⟨two_cells hC.1, four_cf hC.2⟩ : _ ∧ _)
          go_simp
        go_simp
        refine hK _ ?_
        clear hK K
        refine held_op 4 13 (.bool true) rfl rfl (by kernel_rfl) (by kernel_rfl) (by kernel_rfl) (fun _ _ _ h => h) (by kernel_rfl) hS (fun Y hC => ?_) (fun K hK => ?_)
        · obtain ⟨⟨c0, c1, _⟩, ⟨⟨d0, d1, d2, d3⟩, _⟩⟩ := (⟨two_cells hC.1, four_cf hC.2⟩ : _ ∧ _)
          go_simp
        go_simp
        refine hK _ ?_
        clear hK K
        refine held_op 5 12 (.bool true) rfl rfl (by kernel_rfl) (by kernel_rfl) (by kernel_rfl) (fun _ _ _ h => h) (by kernel_rfl) hS (fun Y hC => ?_) (fun K hK => ?_)
        · obtain ⟨⟨c0, c1, _⟩, ⟨⟨d0, d1, d2, d3⟩, _⟩⟩ := (⟨two_cells hC.1, four_cf hC.2⟩ : _ ∧ _)
          go_simp
        go_simp
        refine hK _ ?_
        clear hK K
        refine held_op 6 11 (.pointer (some ⟨w.heap.size, 1, none⟩)) rfl rfl (by kernel_rfl) (by kernel_rfl) (by kernel_rfl) (fun _ _ _ h => h) (by kernel_rfl) hS (fun Y hC => ?_) (fun K hK => ?_)
        · obtain ⟨⟨c0, c1, _⟩, ⟨⟨d0, d1, d2, d3⟩, _⟩⟩ := (⟨two_cells hC.1, four_cf hC.2⟩ : _ ∧ _)
          go_simp
        go_simp
        refine hK _ ?_
        clear hK K
        refine held_op 7 10 (.int .i64 sy) rfl rfl (by kernel_rfl) (by kernel_rfl) (by kernel_rfl) (fun _ _ _ h => h) (by kernel_rfl) hS (fun Y hC => ?_) (fun K hK => ?_)
        · obtain ⟨⟨c0, c1, _⟩, ⟨⟨d0, d1, d2, d3⟩, _⟩⟩ := (⟨two_cells hC.1, four_cf hC.2⟩ : _ ∧ _)
          go_simp
        go_simp
        refine hK _ ?_
        clear hK K
        refine held_op 8 9 (.bool true) rfl rfl (by kernel_rfl) (by kernel_rfl) (by kernel_rfl) (fun _ _ _ h => h) (by kernel_rfl) hS (fun Y hC => ?_) (fun K hK => ?_)
        · obtain ⟨⟨c0, c1, _⟩, ⟨⟨d0, d1, d2, d3⟩, _⟩⟩ := (⟨two_cells hC.1, four_cf hC.2⟩ : _ ∧ _)
          go_simp
        go_simp
        refine hK _ ?_
        clear hK K
        refine held_op 9 8 (.bool true) rfl rfl (by kernel_rfl) (by kernel_rfl) (by kernel_rfl) (fun _ _ _ h => h) (by kernel_rfl) hS (fun Y hC => ?_) (fun K hK => ?_)
        · obtain ⟨⟨c0, c1, _⟩, ⟨⟨d0, d1, d2, d3⟩, _⟩⟩ := (⟨two_cells hC.1, four_cf hC.2⟩ : _ ∧ _)
          go_simp
        go_simp
        refine hK _ ?_
        clear hK K
        refine held_op 10 7 (.bool true) rfl rfl (by kernel_rfl) (by kernel_rfl) (by kernel_rfl) (fun _ _ _ h => h) (by kernel_rfl) hS (fun Y hC => ?_) (fun K hK => ?_)
        · obtain ⟨⟨c0, c1, _⟩, ⟨⟨d0, d1, d2, d3⟩, _⟩⟩ := (⟨two_cells hC.1, four_cf hC.2⟩ : _ ∧ _)
          go_simp
        go_simp
        refine hK _ ?_
        clear hK K
        refine held_op 11 6 (.pointer (some ⟨w.heap.size, 1, none⟩)) rfl rfl (by kernel_rfl) (by kernel_rfl) (by kernel_rfl) (fun _ _ _ h => h) (by kernel_rfl) hS (fun Y hC => ?_) (fun K hK => ?_)
        · obtain ⟨⟨c0, c1, _⟩, ⟨⟨d0, d1, d2, d3⟩, _⟩⟩ := (⟨two_cells hC.1, four_cf hC.2⟩ : _ ∧ _)
          go_simp
        go_simp
        refine hK _ ?_
        clear hK K
        refine held_op 12 5 (.int .i64 sy) rfl rfl (by kernel_rfl) (by kernel_rfl) (by kernel_rfl) (fun _ _ _ h => h) (by kernel_rfl) hS (fun Y hC => ?_) (fun K hK => ?_)
        · obtain ⟨⟨c0, c1, _⟩, ⟨⟨d0, d1, d2, d3⟩, _⟩⟩ := (⟨two_cells hC.1, four_cf hC.2⟩ : _ ∧ _)
          go_simp
        go_simp
        refine hK _ ?_
        clear hK K
        refine held_op 13 4 (.int .i64 (g.size : Int)) rfl rfl (by kernel_rfl) (by kernel_rfl) (by kernel_rfl) (fun _ _ _ h => h) (by kernel_rfl) hS (fun Y hC => ?_) (fun K hK => ?_)
        · obtain ⟨⟨c0, c1, _⟩, ⟨⟨d0, d1, d2, d3⟩, _⟩⟩ := (⟨two_cells hC.1, four_cf hC.2⟩ : _ ∧ _)
          go_simp
        go_simp
        refine hK _ ?_
        clear hK K
        refine held_op 14 3 (.bool false) rfl rfl (by kernel_rfl) (by kernel_rfl) (by kernel_rfl) (fun _ _ _ h => h) (by kernel_rfl) hS (fun Y hC => ?_) (fun K hK => ?_)
        · obtain ⟨⟨c0, c1, _⟩, ⟨⟨d0, d1, d2, d3⟩, _⟩⟩ := (⟨two_cells hC.1, four_cf hC.2⟩ : _ ∧ _)
          go_simp
        go_simp
        refine hK _ ?_
        clear hK K
        refine held_op 15 2 (.bool false) rfl rfl (by kernel_rfl) (by kernel_rfl) (by kernel_rfl) (fun _ _ _ h => h) (by kernel_rfl) hS (fun Y hC => ?_) (fun K hK => ?_)
        · obtain ⟨⟨c0, c1, _⟩, ⟨⟨d0, d1, d2, d3⟩, _⟩⟩ := (⟨two_cells hC.1, four_cf hC.2⟩ : _ ∧ _)
          go_simp
        go_simp
        refine hK _ ?_
        clear hK K
        refine held_one 16 1 rfl (by kernel_rfl) rfl (by kernel_rfl) (fun K hK => ?_)
        obtain ⟨⟨c0, c1, c2, c3⟩, f0, f1, f2, f3⟩ := four_cf HW2.out
        go_simp
        have hS : RgC w.heap.size x.heap.size g sy (.slice a S.length k) im n p (((setW x (w.heap.size + 1) (.slice a S.length k) im n p).alloc (.cells #[.slice a S.length k, .string im, .int .i64 (n : Int), .int .i64 (p : Int)] 24)).drew) := ⟨heap_drewn (heap_more (setW_far (by omega) HW1.out) _), heap_drewn (alloc_at (by simp [setW]) _)⟩
        refine hK.out _ _ hS ?_
        clear hK K
        refine held_op 17 0 (.bool false) rfl rfl (by kernel_rfl) (by kernel_rfl) (by kernel_rfl) (fun _ _ _ h => h) (by kernel_rfl) hS (fun Y hC => ?_) (fun K hK => ?_)
        · skip
          go_simp
        go_simp
        refine hK _ ?_
        clear hK K
        refine held_done (by kernel_rfl) ?_
        go_wp2
        refine HEND.out false _ ?_ ?_ HQ.out <;> rfl
    · have hq2 : decide (0 ≤ sy) = false := decide_eq_false e2
      have HQ : Hid (okShop g sy = false) := by show _ = _; rw [HOK.out]; exact decide_eq_false (fun h => e2 h.2.1)
      clear e1
      go_wp2_with fail
      refine wp_region_held_drew (S := RgC w.heap.size x.heap.size g sy (.slice a S.length k) im n p) (by kernel_rfl) HRG.out (fun hS => WH.out ?_)
      refine held_op 0 17 (.agg #[.slice a S.length k, .string im, .int .i64 (n : Int), .int .i64 (p : Int)]) rfl rfl (by kernel_rfl) (by kernel_rfl) (by kernel_rfl) (fun _ _ _ h => h) (by kernel_rfl) hS (fun Y hC => ?_) (fun K hK => ?_)
      · obtain ⟨⟨c0, c1, _⟩, ⟨⟨d0, d1, d2, d3⟩, _⟩⟩ := (⟨two_cells hC.1, four_cf hC.2⟩ : _ ∧ _)
        go_simp
      go_simp
      refine hK _ ?_
      clear hK K
      refine held_op 1 16 (.pointer (some ⟨x.heap.size, 3, none⟩)) rfl rfl (by kernel_rfl) (by kernel_rfl) (by kernel_rfl) (fun _ _ _ h => h) (by kernel_rfl) hS (fun Y hC => ?_) (fun K hK => ?_)
      · obtain ⟨⟨c0, c1, _⟩, ⟨⟨d0, d1, d2, d3⟩, _⟩⟩ := (⟨two_cells hC.1, four_cf hC.2⟩ : _ ∧ _)
        go_simp
      go_simp
      refine hK _ ?_
      clear hK K
      refine held_op 2 15 (.int .i64 (p : Int)) rfl rfl (by kernel_rfl) (by kernel_rfl) (by kernel_rfl) (fun _ _ _ h => h) (by kernel_rfl) hS (fun Y hC => ?_) (fun K hK => ?_)
      · obtain ⟨⟨c0, c1, _⟩, ⟨⟨d0, d1, d2, d3⟩, _⟩⟩ := (⟨two_cells hC.1, four_cf hC.2⟩ : _ ∧ _)
        go_simp
      go_simp
      refine hK _ ?_
      clear hK K
      refine held_op 3 14 (.int .i64 (g.size : Int)) rfl rfl (by kernel_rfl) (by kernel_rfl) (by kernel_rfl) (fun _ _ _ h => h) (by kernel_rfl) hS (fun Y hC => ?_) (fun K hK => ?_)
      · obtain ⟨⟨c0, c1, _⟩, ⟨⟨d0, d1, d2, d3⟩, _⟩⟩ := (⟨two_cells hC.1, four_cf hC.2⟩ : _ ∧ _)
        go_simp
      go_simp
      refine hK _ ?_
      clear hK K
      refine held_op 4 13 (.bool true) rfl rfl (by kernel_rfl) (by kernel_rfl) (by kernel_rfl) (fun _ _ _ h => h) (by kernel_rfl) hS (fun Y hC => ?_) (fun K hK => ?_)
      · obtain ⟨⟨c0, c1, _⟩, ⟨⟨d0, d1, d2, d3⟩, _⟩⟩ := (⟨two_cells hC.1, four_cf hC.2⟩ : _ ∧ _)
        go_simp
      go_simp
      refine hK _ ?_
      clear hK K
      refine held_op 5 12 (.bool true) rfl rfl (by kernel_rfl) (by kernel_rfl) (by kernel_rfl) (fun _ _ _ h => h) (by kernel_rfl) hS (fun Y hC => ?_) (fun K hK => ?_)
      · obtain ⟨⟨c0, c1, _⟩, ⟨⟨d0, d1, d2, d3⟩, _⟩⟩ := (⟨two_cells hC.1, four_cf hC.2⟩ : _ ∧ _)
        go_simp
      go_simp
      refine hK _ ?_
      clear hK K
      refine held_op 6 11 (.pointer (some ⟨w.heap.size, 1, none⟩)) rfl rfl (by kernel_rfl) (by kernel_rfl) (by kernel_rfl) (fun _ _ _ h => h) (by kernel_rfl) hS (fun Y hC => ?_) (fun K hK => ?_)
      · obtain ⟨⟨c0, c1, _⟩, ⟨⟨d0, d1, d2, d3⟩, _⟩⟩ := (⟨two_cells hC.1, four_cf hC.2⟩ : _ ∧ _)
        go_simp
      go_simp
      refine hK _ ?_
      clear hK K
      refine held_op 7 10 (.int .i64 sy) rfl rfl (by kernel_rfl) (by kernel_rfl) (by kernel_rfl) (fun _ _ _ h => h) (by kernel_rfl) hS (fun Y hC => ?_) (fun K hK => ?_)
      · obtain ⟨⟨c0, c1, _⟩, ⟨⟨d0, d1, d2, d3⟩, _⟩⟩ := (⟨two_cells hC.1, four_cf hC.2⟩ : _ ∧ _)
        go_simp
      go_simp
      refine hK _ ?_
      clear hK K
      refine held_op 8 9 (.bool false) rfl rfl (by kernel_rfl) (by kernel_rfl) (by kernel_rfl) (fun _ _ _ h => h) (by kernel_rfl) hS (fun Y hC => ?_) (fun K hK => ?_)
      · obtain ⟨⟨c0, c1, _⟩, ⟨⟨d0, d1, d2, d3⟩, _⟩⟩ := (⟨two_cells hC.1, four_cf hC.2⟩ : _ ∧ _)
        go_simp
      go_simp
      refine hK _ ?_
      clear hK K
      refine held_op 9 8 (.bool false) rfl rfl (by kernel_rfl) (by kernel_rfl) (by kernel_rfl) (fun _ _ _ h => h) (by kernel_rfl) hS (fun Y hC => ?_) (fun K hK => ?_)
      · obtain ⟨⟨c0, c1, _⟩, ⟨⟨d0, d1, d2, d3⟩, _⟩⟩ := (⟨two_cells hC.1, four_cf hC.2⟩ : _ ∧ _)
        go_simp
      go_simp
      refine hK _ ?_
      clear hK K
      refine held_op 10 7 (.bool false) rfl rfl (by kernel_rfl) (by kernel_rfl) (by kernel_rfl) (fun _ _ _ h => h) (by kernel_rfl) hS (fun Y hC => ?_) (fun K hK => ?_)
      · obtain ⟨⟨c0, c1, _⟩, ⟨⟨d0, d1, d2, d3⟩, _⟩⟩ := (⟨two_cells hC.1, four_cf hC.2⟩ : _ ∧ _)
        go_simp
      go_simp
      refine hK _ ?_
      clear hK K
      refine held_skip 11 6 rfl rfl (by kernel_rfl) (by kernel_rfl) (by kernel_rfl) (fun _ _ _ h => h) (by kernel_rfl) hS (fun K hK => ?_)
      go_simp
      refine hK _ ?_
      clear hK K
      refine held_skip 12 5 rfl rfl (by kernel_rfl) (by kernel_rfl) (by kernel_rfl) (fun _ _ _ h => h) (by kernel_rfl) hS (fun K hK => ?_)
      go_simp
      refine hK _ ?_
      clear hK K
      refine held_skip 13 4 rfl rfl (by kernel_rfl) (by kernel_rfl) (by kernel_rfl) (fun _ _ _ h => h) (by kernel_rfl) hS (fun K hK => ?_)
      go_simp
      refine hK _ ?_
      clear hK K
      refine held_skip 14 3 rfl rfl (by kernel_rfl) (by kernel_rfl) (by kernel_rfl) (fun _ _ _ h => h) (by kernel_rfl) hS (fun K hK => ?_)
      go_simp
      refine hK _ ?_
      clear hK K
      refine held_op 15 2 (.bool false) rfl rfl (by kernel_rfl) (by kernel_rfl) (by kernel_rfl) (fun _ _ _ h => h) (by kernel_rfl) hS (fun Y hC => ?_) (fun K hK => ?_)
      · obtain ⟨⟨c0, c1, _⟩, ⟨⟨d0, d1, d2, d3⟩, _⟩⟩ := (⟨two_cells hC.1, four_cf hC.2⟩ : _ ∧ _)
        go_simp
      go_simp
      refine hK _ ?_
      clear hK K
      refine held_one 16 1 rfl (by kernel_rfl) rfl (by kernel_rfl) (fun K hK => ?_)
      obtain ⟨⟨c0, c1, c2, c3⟩, f0, f1, f2, f3⟩ := four_cf HW2.out
      go_simp
      have hS : RgC w.heap.size x.heap.size g sy (.slice a S.length k) im n p (((setW x (w.heap.size + 1) (.slice a S.length k) im n p).alloc (.cells #[.slice a S.length k, .string im, .int .i64 (n : Int), .int .i64 (p : Int)] 24)).drew) := ⟨heap_drewn (heap_more (setW_far (by omega) HW1.out) _), heap_drewn (alloc_at (by simp [setW]) _)⟩
      refine hK.out _ _ hS ?_
      clear hK K
      refine held_op 17 0 (.bool false) rfl rfl (by kernel_rfl) (by kernel_rfl) (by kernel_rfl) (fun _ _ _ h => h) (by kernel_rfl) hS (fun Y hC => ?_) (fun K hK => ?_)
      · skip
        go_simp
      go_simp
      refine hK _ ?_
      clear hK K
      refine held_done (by kernel_rfl) ?_
      go_wp2
      refine HEND.out false _ ?_ ?_ HQ.out <;> rfl
  · have hq1 : ((p : Int) == (g.size : Int)) = false := by rw [beq_eq_false_iff_ne]; exact e1
    have HQ : Hid (okShop g sy = false) := by show _ = _; rw [HOK.out]; exact decide_eq_false (fun h => e1 h.1)
    go_wp2_with fail
    refine wp_region_held_drew (S := RgC w.heap.size x.heap.size g sy (.slice a S.length k) im n p) (by kernel_rfl) HRG.out (fun hS => WH.out ?_)
    refine held_op 0 17 (.agg #[.slice a S.length k, .string im, .int .i64 (n : Int), .int .i64 (p : Int)]) rfl rfl (by kernel_rfl) (by kernel_rfl) (by kernel_rfl) (fun _ _ _ h => h) (by kernel_rfl) hS (fun Y hC => ?_) (fun K hK => ?_)
    · obtain ⟨⟨c0, c1, _⟩, ⟨⟨d0, d1, d2, d3⟩, _⟩⟩ := (⟨two_cells hC.1, four_cf hC.2⟩ : _ ∧ _)
      go_simp
    go_simp
    refine hK _ ?_
    clear hK K
    refine held_op 1 16 (.pointer (some ⟨x.heap.size, 3, none⟩)) rfl rfl (by kernel_rfl) (by kernel_rfl) (by kernel_rfl) (fun _ _ _ h => h) (by kernel_rfl) hS (fun Y hC => ?_) (fun K hK => ?_)
    · obtain ⟨⟨c0, c1, _⟩, ⟨⟨d0, d1, d2, d3⟩, _⟩⟩ := (⟨two_cells hC.1, four_cf hC.2⟩ : _ ∧ _)
      go_simp
    go_simp
    refine hK _ ?_
    clear hK K
    refine held_op 2 15 (.int .i64 (p : Int)) rfl rfl (by kernel_rfl) (by kernel_rfl) (by kernel_rfl) (fun _ _ _ h => h) (by kernel_rfl) hS (fun Y hC => ?_) (fun K hK => ?_)
    · obtain ⟨⟨c0, c1, _⟩, ⟨⟨d0, d1, d2, d3⟩, _⟩⟩ := (⟨two_cells hC.1, four_cf hC.2⟩ : _ ∧ _)
      go_simp
    go_simp
    refine hK _ ?_
    clear hK K
    refine held_op 3 14 (.int .i64 (g.size : Int)) rfl rfl (by kernel_rfl) (by kernel_rfl) (by kernel_rfl) (fun _ _ _ h => h) (by kernel_rfl) hS (fun Y hC => ?_) (fun K hK => ?_)
    · obtain ⟨⟨c0, c1, _⟩, ⟨⟨d0, d1, d2, d3⟩, _⟩⟩ := (⟨two_cells hC.1, four_cf hC.2⟩ : _ ∧ _)
      go_simp
    go_simp
    refine hK _ ?_
    clear hK K
    refine held_op 4 13 (.bool false) rfl rfl (by kernel_rfl) (by kernel_rfl) (by kernel_rfl) (fun _ _ _ h => h) (by kernel_rfl) hS (fun Y hC => ?_) (fun K hK => ?_)
    · obtain ⟨⟨c0, c1, _⟩, ⟨⟨d0, d1, d2, d3⟩, _⟩⟩ := (⟨two_cells hC.1, four_cf hC.2⟩ : _ ∧ _)
      go_simp
    go_simp
    refine hK _ ?_
    clear hK K
    refine held_op 5 12 (.bool false) rfl rfl (by kernel_rfl) (by kernel_rfl) (by kernel_rfl) (fun _ _ _ h => h) (by kernel_rfl) hS (fun Y hC => ?_) (fun K hK => ?_)
    · obtain ⟨⟨c0, c1, _⟩, ⟨⟨d0, d1, d2, d3⟩, _⟩⟩ := (⟨two_cells hC.1, four_cf hC.2⟩ : _ ∧ _)
      go_simp
    go_simp
    refine hK _ ?_
    clear hK K
    refine held_skip 6 11 rfl rfl (by kernel_rfl) (by kernel_rfl) (by kernel_rfl) (fun _ _ _ h => h) (by kernel_rfl) hS (fun K hK => ?_)
    go_simp
    refine hK _ ?_
    clear hK K
    refine held_skip 7 10 rfl rfl (by kernel_rfl) (by kernel_rfl) (by kernel_rfl) (fun _ _ _ h => h) (by kernel_rfl) hS (fun K hK => ?_)
    go_simp
    refine hK _ ?_
    clear hK K
    refine held_skip 8 9 rfl rfl (by kernel_rfl) (by kernel_rfl) (by kernel_rfl) (fun _ _ _ h => h) (by kernel_rfl) hS (fun K hK => ?_)
    go_simp
    refine hK _ ?_
    clear hK K
    refine held_op 9 8 (.bool false) rfl rfl (by kernel_rfl) (by kernel_rfl) (by kernel_rfl) (fun _ _ _ h => h) (by kernel_rfl) hS (fun Y hC => ?_) (fun K hK => ?_)
    · obtain ⟨⟨c0, c1, _⟩, ⟨⟨d0, d1, d2, d3⟩, _⟩⟩ := (⟨two_cells hC.1, four_cf hC.2⟩ : _ ∧ _)
      go_simp
    go_simp
    refine hK _ ?_
    clear hK K
    refine held_op 10 7 (.bool false) rfl rfl (by kernel_rfl) (by kernel_rfl) (by kernel_rfl) (fun _ _ _ h => h) (by kernel_rfl) hS (fun Y hC => ?_) (fun K hK => ?_)
    · obtain ⟨⟨c0, c1, _⟩, ⟨⟨d0, d1, d2, d3⟩, _⟩⟩ := (⟨two_cells hC.1, four_cf hC.2⟩ : _ ∧ _)
      go_simp
    go_simp
    refine hK _ ?_
    clear hK K
    refine held_skip 11 6 rfl rfl (by kernel_rfl) (by kernel_rfl) (by kernel_rfl) (fun _ _ _ h => h) (by kernel_rfl) hS (fun K hK => ?_)
    go_simp
    refine hK _ ?_
    clear hK K
    refine held_skip 12 5 rfl rfl (by kernel_rfl) (by kernel_rfl) (by kernel_rfl) (fun _ _ _ h => h) (by kernel_rfl) hS (fun K hK => ?_)
    go_simp
    refine hK _ ?_
    clear hK K
    refine held_skip 13 4 rfl rfl (by kernel_rfl) (by kernel_rfl) (by kernel_rfl) (fun _ _ _ h => h) (by kernel_rfl) hS (fun K hK => ?_)
    go_simp
    refine hK _ ?_
    clear hK K
    refine held_skip 14 3 rfl rfl (by kernel_rfl) (by kernel_rfl) (by kernel_rfl) (fun _ _ _ h => h) (by kernel_rfl) hS (fun K hK => ?_)
    go_simp
    refine hK _ ?_
    clear hK K
    refine held_op 15 2 (.bool false) rfl rfl (by kernel_rfl) (by kernel_rfl) (by kernel_rfl) (fun _ _ _ h => h) (by kernel_rfl) hS (fun Y hC => ?_) (fun K hK => ?_)
    · obtain ⟨⟨c0, c1, _⟩, ⟨⟨d0, d1, d2, d3⟩, _⟩⟩ := (⟨two_cells hC.1, four_cf hC.2⟩ : _ ∧ _)
      go_simp
    go_simp
    refine hK _ ?_
    clear hK K
    refine held_one 16 1 rfl (by kernel_rfl) rfl (by kernel_rfl) (fun K hK => ?_)
    obtain ⟨⟨c0, c1, c2, c3⟩, f0, f1, f2, f3⟩ := four_cf HW2.out
    go_simp
    have hS : RgC w.heap.size x.heap.size g sy (.slice a S.length k) im n p (((setW x (w.heap.size + 1) (.slice a S.length k) im n p).alloc (.cells #[.slice a S.length k, .string im, .int .i64 (n : Int), .int .i64 (p : Int)] 24)).drew) := ⟨heap_drewn (heap_more (setW_far (by omega) HW1.out) _), heap_drewn (alloc_at (by simp [setW]) _)⟩
    refine hK.out _ _ hS ?_
    clear hK K
    refine held_op 17 0 (.bool false) rfl rfl (by kernel_rfl) (by kernel_rfl) (by kernel_rfl) (fun _ _ _ h => h) (by kernel_rfl) hS (fun Y hC => ?_) (fun K hK => ?_)
    · skip
      go_simp
    go_simp
    refine hK _ ?_
    clear hK K
    refine held_done (by kernel_rfl) ?_
    go_wp2
    refine HEND.out false _ ?_ ?_ HQ.out <;> rfl
set_option maxRecDepth 100000 in
set_option maxHeartbeats 1600000 in
theorem implShopRight_any (te : TypeId) (pe : Value) (g : ByteArray) (sy : Int) (w : World) (hs : g.size ≤ maxLen) (hP : PanV te pe w) (hE : ErrV w) :
    Calls Tryz.prog 16 #[.agg #[.string g, .int .i64 sy]] w fun e w' => e = .returned (.bool (okShop g sy)) ∧ Below w.heap.size w w' := by
  have HS : Hid (g.size ≤ maxLen) := hs
  have HP : Hid (PanV te pe w) := hP
  have HE : Hid (ErrV w) := hE
  clear hs hP hE
  go_enter Tryz.func16, Tryz.ntmps16
  go_wp2_with fail
  refine (rightState_any te pe g sy _ HS.out (HP.out.alloc _) (HE.out.alloc _)).mono ?_
  rintro e x ⟨⟨v, rfl, ho⟩, hb⟩
  obtain ⟨a, k, rfl, _⟩ := ho.rows srcC_len
  have HB : Hid (Below w.heap.size w x) := below_call (below_new w _) hb
  unfold StR
  clear hb ho
  go_wp2
  go_ret
  exact ⟨rfl, below_more HB.out _⟩
end Go.Proofs.YtnhehdobpibgkaaGreatDoor
