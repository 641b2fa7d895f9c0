/- Objects of the laws: copied, and compared. -/
import Derived.Test.YtcnjeeckkpiilaaRows
import Derived.WalkKit
import Derived.WalkSpells
import Derived.WalkLawsBesides
import Derived.Outline
import Derived.Test.YtcnjeeckkpiilaaBun0
import Derived.Test.YtcnjeeckkpiilaaBun1
import Derived.Test.YtcnjeeckkpiilaaOwnX
import Derived.Test.YtcnjeeckkpiilaaBun9
import Derived.Test.YtcnjeeckkpiilaaObjPX
namespace Go.Proofs.Ytcnjeeckkpiilaa
open Go.RowKit
set_option linter.unusedVariables false

theorem heap_new3 (w : World) (a b c : Obj) : (((w.alloc a).alloc b).alloc c).heap[w.heap.size + 1 + 1]? = some c := by
  have h := heap_alloc_new ((w.alloc a).alloc b) c
  simpa using h
/- The three blocks of an object that was made. -/
structure MadeObj (w : World) (g1 g2 g3 : Nat) (W : List Int) (S : List symE) (R : List refE) : Prop where
  ws : w.heap[g1]? = some (.cells (W.map (Value.int .i64)).toArray 2 (0, 0))
  ss : w.heap[g2]? = some (.cells (S.flatMap symC).toArray 65 (0, 0))
  rs : w.heap[g3]? = some (.cells (R.flatMap refC).toArray 70 (0, 0))
theorem MadeObj.below {w w' : World} {g1 g2 g3 : Nat} {W : List Int} {S : List symE} {R : List refE} (h : MadeObj w g1 g2 g3 W S R) (hb : Below w.heap.size w w') : MadeObj w' g1 g2 g3 W S R := ⟨heap_keep h.ws hb, heap_keep h.ss hb, heap_keep h.rs hb⟩
theorem MadeObj.is {w : World} {g1 g2 g3 : Nat} {W : List Int} {S : List symE} {R : List refE} (h : MadeObj w g1 g2 g3 W S R) : ObjIs w (some ⟨g1, 0, none⟩) (some ⟨g2, 0, none⟩) (some ⟨g3, 0, none⟩) W S R := ⟨made_read h.ws, made_rowIs symC_len h.ss, made_rowIs refC_len h.rs⟩
def objV (g1 g2 g3 : Nat) (W : List Int) (S : List symE) (R : List refE) : Array Value := #[.slice (some ⟨g1, 0, none⟩) W.length W.length, .slice (some ⟨g2, 0, none⟩) S.length S.length, .slice (some ⟨g3, 0, none⟩) R.length R.length]
def ToObjOut (W : List Int) (S : List symE) (R : List refE) (w : World) (e : Ending) (w' : World) : Prop := ∃ g1 g2 g3, e = .returned (.agg #[.slice (some ⟨g1, 0, none⟩) W.length W.length, .slice (some ⟨g2, 0, none⟩) S.length S.length, .slice (some ⟨g3, 0, none⟩) R.length R.length]) ∧ MadeObj w' g1 g2 g3 W S R ∧ Below w.heap.size w w' ∧ w.heap.size ≤ g1 ∧ w.heap.size ≤ g2 ∧ w.heap.size ≤ g3
set_option maxRecDepth 100000 in
set_option maxHeartbeats 3200000 in
theorem toObject_any (a b c : Option Addr) (W : List Int) (S : List symE) (R : List refE) (ka kb kc : Nat) (w : World) (hO : ObjIs w a b c W S R) (hF : ObjFits W S R) : Calls Try.prog 11 #[.agg #[.slice a W.length ka, .slice b S.length kb, .slice c R.length kc]] w (ToObjOut W S R w) := by
  have HO : Hid (ObjIs w a b c W S R) := hO
  have HF : Hid (ObjFits W S R) := hF
  have hwl := hF.wl
  have hsl := hF.sl
  have hrl := hF.rl
  clear hO hF
  have HX0 : Hid (_ = _) := heap_more (heap_more (heap_alloc_new w (.cells #[.slice a W.length ka, .slice b S.length kb, .slice c R.length kc] 28)) (.cells #[.slice none 0 0, .slice none 0 0, .slice none 0 0] 34)) (.cells #[.slice none 0 0, .slice none 0 0, .slice none 0 0] 34)
  have HY0 : Hid (_ = _) := heap_more (heap_new2 w (.cells #[.slice a W.length ka, .slice b S.length kb, .slice c R.length kc] 28) (.cells #[.slice none 0 0, .slice none 0 0, .slice none 0 0] 34)) (.cells #[.slice none 0 0, .slice none 0 0, .slice none 0 0] 34)
  have HZ0 : Hid (_ = _) := heap_new3 w (.cells #[.slice a W.length ka, .slice b S.length kb, .slice c R.length kc] 28) (.cells #[.slice none 0 0, .slice none 0 0, .slice none 0 0] 34) (.cells #[.slice none 0 0, .slice none 0 0, .slice none 0 0] 34)
  have HB0 : Hid (Below w.heap.size w _) := below_more (below_more (below_new w (.cells #[.slice a W.length ka, .slice b S.length kb, .slice c R.length kc] 28)) (.cells #[.slice none 0 0, .slice none 0 0, .slice none 0 0] 34)) (.cells #[.slice none 0 0, .slice none 0 0, .slice none 0 0] 34)
  go_enter Try.func11, Try.ntmps11
  go_wp2_with fail
  refine (toInt64S_any a W ka _ (HO.out.ws.below HB0.out) (by omega)).mono ?_
  rintro e x1 ⟨rfl, hm, hb⟩
  have HX1 : Hid (x1.heap[w.heap.size]? = _) := heap_keep HX0.out hb
  have HY1 : Hid (x1.heap[w.heap.size + 1]? = _) := heap_keep HY0.out hb
  have HZ1 : Hid (x1.heap[w.heap.size + 1 + 1]? = _) := heap_keep HZ0.out hb
  have HB1 : Hid (Below w.heap.size w x1) := below_call HB0.out hb
  have HM1 : Hid (x1.heap[_]? = _) := hm
  have hs1 := hb.size
  simp only [World.size_alloc] at hs1
  generalize hg1 : (((w.alloc (.cells #[.slice a W.length ka, .slice b S.length kb, .slice c R.length kc] 28)).alloc (.cells #[.slice none 0 0, .slice none 0 0, .slice none 0 0] 34)).alloc (.cells #[.slice none 0 0, .slice none 0 0, .slice none 0 0] 34)).heap.size = g1 at *
  have hg1' : w.heap.size + 1 + 1 < g1 := by rw [← hg1]; simp
  clear hb hm hg1 HX0 HY0 HZ0 HB0
  obtain ⟨c0, c1, c2⟩ := cells3o HX1.out
  obtain ⟨d0, d1, d2⟩ := cells3o HZ1.out
  have z0 := frozen_of_row _ _ 0 _ _ HZ1.out
  have n1 : w.heap.size ≠ w.heap.size + 1 + 1 := by omega
  go_wp2_with fail
  have HX2 : Hid (_ = _) := set_far (a := ⟨w.heap.size + 1 + 1, 0, none⟩) (v := .slice (some ⟨g1, 0, none⟩) W.length W.length) n1 HX1.out
  have HY2 : Hid (_ = _) := set_far (a := ⟨w.heap.size + 1 + 1, 0, none⟩) (v := .slice (some ⟨g1, 0, none⟩) W.length W.length) (show w.heap.size + 1 ≠ w.heap.size + 1 + 1 by omega) HY1.out
  have HZ2 : Hid (_ = _) := heap_set HZ1.out 0 (.slice (some ⟨g1, 0, none⟩) W.length W.length)
  have HM2 : Hid (_ = _) := set_far (a := ⟨w.heap.size + 1 + 1, 0, none⟩) (v := .slice (some ⟨g1, 0, none⟩) W.length W.length) (show g1 ≠ w.heap.size + 1 + 1 by omega) HM1.out
  have HB2 : Hid (Below w.heap.size w _) := HB1.out.setCell (p := ⟨w.heap.size + 1 + 1, 0, none⟩) (by show w.heap.size ≤ w.heap.size + 1 + 1; omega) (.slice (some ⟨g1, 0, none⟩) W.length W.length)
  clear c0 c1 c2 d0 d1 d2 z0 HX1 HY1 HZ1 HB1 HM1
  generalize x1.setCell ⟨w.heap.size + 1 + 1, 0, none⟩ (.slice (some ⟨g1, 0, none⟩) W.length W.length) = y1 at *
  have hy1 := heap_lt HM2.out
  refine (toSymS_any b S kb y1 (HO.out.ss.below HB2.out) (by omega)).mono ?_
  rintro e x2 ⟨rfl, hm, hb⟩
  have HX3 : Hid (x2.heap[w.heap.size]? = _) := heap_keep HX2.out hb
  have HY3 : Hid (x2.heap[w.heap.size + 1]? = _) := heap_keep HY2.out hb
  have HZ3 : Hid (x2.heap[w.heap.size + 1 + 1]? = _) := heap_keep HZ2.out hb
  have HM3 : Hid (x2.heap[g1]? = _) := heap_keep HM2.out hb
  have HB3 : Hid (Below w.heap.size w x2) := below_call HB2.out hb
  have HN3 : Hid (x2.heap[_]? = _) := hm
  have hs2 := hb.size
  clear hb hm HX2 HY2 HZ2 HM2 HB2
  generalize y1.heap.size = g2 at *
  obtain ⟨c0, c1, c2⟩ := cells3o HX3.out
  obtain ⟨d0, d1, d2⟩ := cells3o HZ3.out
  have z1 := frozen_of_row _ _ 1 _ _ HZ3.out
  go_wp2_with fail
  have HX4 : Hid (_ = _) := set_far (a := ⟨w.heap.size + 1 + 1, 1, none⟩) (v := .slice (some ⟨g2, 0, none⟩) S.length S.length) n1 HX3.out
  have HY4 : Hid (_ = _) := set_far (a := ⟨w.heap.size + 1 + 1, 1, none⟩) (v := .slice (some ⟨g2, 0, none⟩) S.length S.length) (show w.heap.size + 1 ≠ w.heap.size + 1 + 1 by omega) HY3.out
  have HZ4 : Hid (_ = _) := heap_set HZ3.out 1 (.slice (some ⟨g2, 0, none⟩) S.length S.length)
  have HM4 : Hid (_ = _) := set_far (a := ⟨w.heap.size + 1 + 1, 1, none⟩) (v := .slice (some ⟨g2, 0, none⟩) S.length S.length) (show g1 ≠ w.heap.size + 1 + 1 by omega) HM3.out
  have HN4 : Hid (_ = _) := set_far (a := ⟨w.heap.size + 1 + 1, 1, none⟩) (v := .slice (some ⟨g2, 0, none⟩) S.length S.length) (show g2 ≠ w.heap.size + 1 + 1 by omega) HN3.out
  have HB4 : Hid (Below w.heap.size w _) := HB3.out.setCell (p := ⟨w.heap.size + 1 + 1, 1, none⟩) (by show w.heap.size ≤ w.heap.size + 1 + 1; omega) (.slice (some ⟨g2, 0, none⟩) S.length S.length)
  clear c0 c1 c2 d0 d1 d2 z1 HX3 HY3 HZ3 HB3 HM3 HN3
  generalize x2.setCell ⟨w.heap.size + 1 + 1, 1, none⟩ (.slice (some ⟨g2, 0, none⟩) S.length S.length) = y2 at *
  have hy2 := heap_lt HN4.out
  refine (toRefS_any c R kc y2 (HO.out.rs.below HB4.out) (by omega)).mono ?_
  rintro e x3 ⟨rfl, hm, hb⟩
  have HY5 : Hid (x3.heap[w.heap.size + 1]? = _) := heap_keep HY4.out hb
  have HZ5 : Hid (x3.heap[w.heap.size + 1 + 1]? = _) := heap_keep HZ4.out hb
  have HM5 : Hid (x3.heap[g1]? = _) := heap_keep HM4.out hb
  have HN5 : Hid (x3.heap[g2]? = _) := heap_keep HN4.out hb
  have HB5 : Hid (Below w.heap.size w x3) := below_call HB4.out hb
  have HP5 : Hid (x3.heap[_]? = _) := hm
  have hs3 := hb.size
  clear hb hm HX4 HY4 HZ4 HM4 HN4 HB4
  generalize y2.heap.size = g3 at *
  obtain ⟨d0, d1, d2⟩ := cells3o HZ5.out
  have z2 := frozen_of_row _ _ 2 _ _ HZ5.out
  obtain ⟨r0, r1, r2⟩ := cells3o HY5.out
  have y5 := frozen_of_row _ _ 0 _ _ HY5.out
  have y6 := frozen_of_row _ _ 1 _ _ HY5.out
  have y7 := frozen_of_row _ _ 2 _ _ HY5.out
  go_wp2
  have HY6 : Hid (_ = _) := set_far (a := ⟨w.heap.size + 1 + 1, 2, none⟩) (v := .slice (some ⟨g3, 0, none⟩) R.length R.length) (show w.heap.size + 1 ≠ w.heap.size + 1 + 1 by omega) HY5.out
  have far : ∀ (g : Nat) (o : Obj) (v0 v1 v2 v3 : Value), g ≠ w.heap.size + 1 → g ≠ w.heap.size + 1 + 1 → x3.heap[g]? = some o → ((((x3.setCell ⟨w.heap.size + 1 + 1, 2, none⟩ v0).setCell ⟨w.heap.size + 1, 0, none⟩ v1).setCell ⟨w.heap.size + 1, 1, none⟩ v2).setCell ⟨w.heap.size + 1, 2, none⟩ v3).heap[g]? = some o := fun g o v0 v1 v2 v3 h1 h2 h => set_far h1 (set_far h1 (set_far h1 (set_far h2 h)))
  exact bodyPost_ret (results_cell_row Try.results11 _ _ (w.heap.size + 1) 34 _ (0, 0) _ rfl (heap_set (heap_set (heap_set HY6.out 0 _) 1 _) 2 _) Try.underlying34 rfl (by kernel_rfl)) rfl ⟨g1, g2, g3, rfl, ⟨far _ _ _ _ _ _ (by omega) (by omega) HM5.out, far _ _ _ _ _ _ (by omega) (by omega) HN5.out, far _ _ _ _ _ _ (by omega) (by omega) HP5.out⟩, (((HB5.out.setCell (p := ⟨w.heap.size + 1 + 1, 2, none⟩) (by show w.heap.size ≤ w.heap.size + 1 + 1; omega) _).setCell (p := ⟨w.heap.size + 1, 0, none⟩) (by show w.heap.size ≤ w.heap.size + 1; omega) _).setCell (p := ⟨w.heap.size + 1, 1, none⟩) (by show w.heap.size ≤ w.heap.size + 1; omega) _).setCell (p := ⟨w.heap.size + 1, 2, none⟩) (by show w.heap.size ≤ w.heap.size + 1; omega) _, by omega, by omega, by omega⟩
set_option maxRecDepth 100000 in
set_option maxHeartbeats 1600000 in
theorem eqObject_any (W : List Int) (S : List symE) (R : List refE) (g1 g2 g3 k1 k2 k3 : Nat) (w : World) (h1 : MadeObj w g1 g2 g3 W S R) (h2 : MadeObj w k1 k2 k3 W S R) (hF : ObjFits W S R) : Calls Try.prog 13 #[.agg #[.slice (some ⟨g1, 0, none⟩) W.length W.length, .slice (some ⟨g2, 0, none⟩) S.length S.length, .slice (some ⟨g3, 0, none⟩) R.length R.length], .agg #[.slice (some ⟨k1, 0, none⟩) W.length W.length, .slice (some ⟨k2, 0, none⟩) S.length S.length, .slice (some ⟨k3, 0, none⟩) R.length R.length]] w fun e w' => e = .returned (.bool true) ∧ Below w.heap.size w w' := by
  have H1 : Hid (MadeObj w g1 g2 g3 W S R) := h1
  have H2 : Hid (MadeObj w k1 k2 k3 W S R) := h2
  have hwl := hF.wl
  have hsl := hF.sl
  have hrl := hF.rl
  clear h1 h2 hF
  have HX0 : Hid (_ = _) := heap_more (heap_alloc_new w (.cells #[.slice (some ⟨g1, 0, none⟩) W.length W.length, .slice (some ⟨g2, 0, none⟩) S.length S.length, .slice (some ⟨g3, 0, none⟩) R.length R.length] 34)) (.cells #[.slice (some ⟨k1, 0, none⟩) W.length W.length, .slice (some ⟨k2, 0, none⟩) S.length S.length, .slice (some ⟨k3, 0, none⟩) R.length R.length] 34)
  have HY0 : Hid (_ = _) := heap_new2 w (.cells #[.slice (some ⟨g1, 0, none⟩) W.length W.length, .slice (some ⟨g2, 0, none⟩) S.length S.length, .slice (some ⟨g3, 0, none⟩) R.length R.length] 34) (.cells #[.slice (some ⟨k1, 0, none⟩) W.length W.length, .slice (some ⟨k2, 0, none⟩) S.length S.length, .slice (some ⟨k3, 0, none⟩) R.length R.length] 34)
  have HB0 : Hid (Below w.heap.size w _) := below_more (below_new w (.cells #[.slice (some ⟨g1, 0, none⟩) W.length W.length, .slice (some ⟨g2, 0, none⟩) S.length S.length, .slice (some ⟨g3, 0, none⟩) R.length R.length] 34)) (.cells #[.slice (some ⟨k1, 0, none⟩) W.length W.length, .slice (some ⟨k2, 0, none⟩) S.length S.length, .slice (some ⟨k3, 0, none⟩) R.length R.length] 34)
  go_enter Try.func13, Try.ntmps13
  go_wp2_with fail
  refine (eqInt64S_any _ _ 0 0 W W _ (made_own (H1.out.below HB0.out).ws (Nat.zero_le _) (by omega)) (made_own (H2.out.below HB0.out).ws (Nat.zero_le _) (by omega)) (by omega) (by omega)).mono ?_
  rintro e x1 ⟨rfl, hb⟩
  rw [decide_eq_true (rfl : W = W)]
  have HX1 : Hid (x1.heap[w.heap.size]? = _) := heap_keep HX0.out hb
  have HY1 : Hid (x1.heap[w.heap.size + 1]? = _) := heap_keep HY0.out hb
  have HB1 : Hid (Below w.heap.size w x1) := below_call HB0.out hb
  clear hb HX0 HY0 HB0
  obtain ⟨c0, c1, c2⟩ := cells3o HX1.out
  obtain ⟨d0, d1, d2⟩ := cells3o HY1.out
  go_wp2_with fail
  refine (eqSymS_any _ _ S _ _ x1 (H1.out.below HB1.out).is.ss (H2.out.below HB1.out).is.ss (by omega)).mono ?_
  rintro e x2 ⟨rfl, hb⟩
  have HX2 : Hid (x2.heap[w.heap.size]? = _) := heap_keep HX1.out hb
  have HY2 : Hid (x2.heap[w.heap.size + 1]? = _) := heap_keep HY1.out hb
  have HB2 : Hid (Below w.heap.size w x2) := below_call HB1.out hb
  clear hb HX1 HY1 HB1 c0 c1 c2 d0 d1 d2
  obtain ⟨c0, c1, c2⟩ := cells3o HX2.out
  obtain ⟨d0, d1, d2⟩ := cells3o HY2.out
  go_wp2_with fail
  refine (eqRefS_any _ _ R _ _ x2 (H1.out.below HB2.out).is.rs (H2.out.below HB2.out).is.rs (by omega)).mono ?_
  rintro e x3 ⟨rfl, hb⟩
  have HB3 : Hid (Below w.heap.size w x3) := below_call HB2.out hb
  clear hb
  go_wp2
  go_ret
  exact ⟨rfl, HB3.out⟩
end Go.Proofs.Ytcnjeeckkpiilaa
