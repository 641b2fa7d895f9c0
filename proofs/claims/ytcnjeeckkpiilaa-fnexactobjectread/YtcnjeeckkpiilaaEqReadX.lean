/- Objects read: asked whether they are alike, marked, asked for their marks. -/
import Derived.Test.YtcnjeeckkpiilaaRows
import Derived.WalkKit
import Derived.WalkSpells
import Derived.WalkLawsBesides
import Derived.Outline
import Derived.Test.YtcnjeeckkpiilaaBun0
import Derived.Test.YtcnjeeckkpiilaaBun1
import Derived.Test.YtcnjeeckkpiilaaOwnX
import Derived.Test.YtcnjeeckkpiilaaObjPX
import Derived.Test.YtcnjeeckkpiilaaObjTX
import Derived.Test.YtcnjeeckkpiilaaMarkTX
import Derived.Test.YtcnjeeckkpiilaaMarkXX
import Derived.Test.YtcnjeeckkpiilaaReadOX
namespace Go.Proofs.Ytcnjeeckkpiilaa
open Go.RowKit
set_option linter.unusedVariables false

theorem OwnO.rowS {w : World} {B : Nat} {vw vr : Value} {b : Option Addr} {kb : Nat} {W : List Int} {S : List symE} {R : List refE} (h : OwnO w B vw (.slice b S.length kb) vr W S R) : RowIs 3 symC w b S := by
  obtain ⟨b', kb', e, hI⟩ := h.ss.is symC_len
  cases e; exact hI
theorem OwnO.rowR {w : World} {B : Nat} {vw vs : Value} {c : Option Addr} {kc : Nat} {W : List Int} {S : List symE} {R : List refE} (h : OwnO w B vw vs (.slice c R.length kc) W S R) : RowIs 4 refC w c R := by
  obtain ⟨c', kc', e, hI⟩ := h.rs.is refC_len
  cases e; exact hI
set_option maxRecDepth 100000 in
set_option maxHeartbeats 1600000 in
theorem eqObjectO_any (W : List Int) (S : List symE) (R : List refE) (a b c a2 b2 c2 : Option Addr) (ka kb kc ka2 kb2 kc2 B1 B2 : Nat) (w : World) (h1 : OwnO w B1 (.slice a W.length ka) (.slice b S.length kb) (.slice c R.length kc) W S R) (h2 : OwnO w B2 (.slice a2 W.length ka2) (.slice b2 S.length kb2) (.slice c2 R.length kc2) W S R) (hF : ObjFits W S R) : Calls Try.prog 13 #[.agg #[.slice a W.length ka, .slice b S.length kb, .slice c R.length kc], .agg #[.slice a2 W.length ka2, .slice b2 S.length kb2, .slice c2 R.length kc2]] w fun e w' => e = .returned (.bool true) ∧ Below w.heap.size w w' := by
  have H1 : Hid (OwnO w B1 (.slice a W.length ka) (.slice b S.length kb) (.slice c R.length kc) W S R) := h1
  have H2 : Hid (OwnO w B2 (.slice a2 W.length ka2) (.slice b2 S.length kb2) (.slice c2 R.length kc2) W S R) := h2
  have hwl := hF.wl
  have hsl := hF.sl
  have hrl := hF.rl
  clear h1 h2 hF
  have HX0 : Hid (_ = _) := heap_more (heap_alloc_new w (.cells #[.slice a W.length ka, .slice b S.length kb, .slice c R.length kc] 34)) (.cells #[.slice a2 W.length ka2, .slice b2 S.length kb2, .slice c2 R.length kc2] 34)
  have HY0 : Hid (_ = _) := heap_new2 w (.cells #[.slice a W.length ka, .slice b S.length kb, .slice c R.length kc] 34) (.cells #[.slice a2 W.length ka2, .slice b2 S.length kb2, .slice c2 R.length kc2] 34)
  have HB0 : Hid (Below w.heap.size w _) := below_more (below_new w (.cells #[.slice a W.length ka, .slice b S.length kb, .slice c R.length kc] 34)) (.cells #[.slice a2 W.length ka2, .slice b2 S.length kb2, .slice c2 R.length kc2] 34)
  go_enter Try.func13, Try.ntmps13
  go_wp2_with fail
  refine (eqInt64S_any _ _ B1 B2 W W _ (H1.out.call HB0.out).ws.ints (H2.out.call HB0.out).ws.ints (by omega) (by omega)).mono ?_
  rintro e x1 ⟨rfl, hb⟩
  rw [decide_eq_true (rfl : W = W)]
  have HX1 : Hid (x1.heap[w.heap.size]? = _) := heap_keep HX0.out hb
  have HY1 : Hid (x1.heap[w.heap.size + 1]? = _) := heap_keep HY0.out hb
  have HB1 : Hid (Below w.heap.size w x1) := below_call HB0.out hb
  clear hb HX0 HY0 HB0
  obtain ⟨c0, c1, c2⟩ := cells3o HX1.out
  obtain ⟨d0, d1, d2⟩ := cells3o HY1.out
  go_wp2_with fail
  refine (eqSymS_any _ _ S _ _ x1 (H1.out.call HB1.out).rowS (H2.out.call HB1.out).rowS (by omega)).mono ?_
  rintro e x2 ⟨rfl, hb⟩
  have HX2 : Hid (x2.heap[w.heap.size]? = _) := heap_keep HX1.out hb
  have HY2 : Hid (x2.heap[w.heap.size + 1]? = _) := heap_keep HY1.out hb
  have HB2 : Hid (Below w.heap.size w x2) := below_call HB1.out hb
  clear hb HX1 HY1 HB1 c0 c1 c2 d0 d1 d2
  obtain ⟨c0, c1, c2⟩ := cells3o HX2.out
  obtain ⟨d0, d1, d2⟩ := cells3o HY2.out
  go_wp2_with fail
  refine (eqRefS_any _ _ R _ _ x2 (H1.out.call HB2.out).rowR (H2.out.call HB2.out).rowR (by omega)).mono ?_
  rintro e x3 ⟨rfl, hb⟩
  have HB3 : Hid (Below w.heap.size w x3) := below_call HB2.out hb
  clear hb
  go_wp2
  go_ret
  exact ⟨rfl, HB3.out⟩
def aggO (a b c : Option Addr) (ka kb kc : Nat) (W : List Int) (S : List symE) (R : List refE) (n : Int) : Value := .agg #[.slice a W.length ka, .slice b S.length kb, .slice c R.length kc, .string ⟨#[]⟩, .int .i64 0, .int .i64 n]
set_option maxRecDepth 100000 in
set_option maxHeartbeats 1600000 in
theorem eqObjectOut_any (W : List Int) (S : List symE) (R : List refE) (n : Int) (a b c a2 b2 c2 : Option Addr) (ka kb kc ka2 kb2 kc2 B1 B2 : Nat) (w : World) (h1 : OwnO w B1 (.slice a W.length ka) (.slice b S.length kb) (.slice c R.length kc) W S R) (h2 : OwnO w B2 (.slice a2 W.length ka2) (.slice b2 S.length kb2) (.slice c2 R.length kc2) W S R) (hF : ObjFits W S R) :
    Calls Try.prog 16 #[.agg #[.slice a W.length ka, .slice b S.length kb, .slice c R.length kc, .string ⟨#[]⟩, .int .i64 0, .int .i64 n], .agg #[.slice a2 W.length ka2, .slice b2 S.length kb2, .slice c2 R.length kc2, .string ⟨#[]⟩, .int .i64 0, .int .i64 n]] w fun e w' => e = .returned (.bool true) ∧ Below w.heap.size w w' := by
  have H1 : Hid (OwnO w B1 (.slice a W.length ka) (.slice b S.length kb) (.slice c R.length kc) W S R) := h1
  have H2 : Hid (OwnO w B2 (.slice a2 W.length ka2) (.slice b2 S.length kb2) (.slice c2 R.length kc2) W S R) := h2
  have HF : Hid (ObjFits W S R) := hF
  clear h1 h2 hF
  have HX0 : Hid (_ = _) := heap_more (heap_alloc_new w (.cells #[.slice a W.length ka, .slice b S.length kb, .slice c R.length kc, .string ⟨#[]⟩, .int .i64 0, .int .i64 n] 39)) (.cells #[.slice a2 W.length ka2, .slice b2 S.length kb2, .slice c2 R.length kc2, .string ⟨#[]⟩, .int .i64 0, .int .i64 n] 39)
  have HY0 : Hid (_ = _) := heap_new2 w (.cells #[.slice a W.length ka, .slice b S.length kb, .slice c R.length kc, .string ⟨#[]⟩, .int .i64 0, .int .i64 n] 39) (.cells #[.slice a2 W.length ka2, .slice b2 S.length kb2, .slice c2 R.length kc2, .string ⟨#[]⟩, .int .i64 0, .int .i64 n] 39)
  have HB0 : Hid (Below w.heap.size w _) := below_more (below_new w (.cells #[.slice a W.length ka, .slice b S.length kb, .slice c R.length kc, .string ⟨#[]⟩, .int .i64 0, .int .i64 n] 39)) (.cells #[.slice a2 W.length ka2, .slice b2 S.length kb2, .slice c2 R.length kc2, .string ⟨#[]⟩, .int .i64 0, .int .i64 n] 39)
  have hnn : (n != n) = false := by simp
  go_enter Try.func16, Try.ntmps16
  go_wp2_with fail
  refine (eqObjectO_any W S R a b c a2 b2 c2 ka kb kc ka2 kb2 kc2 B1 B2 _ (H1.out.call HB0.out) (H2.out.call HB0.out) HF.out).mono ?_
  rintro e x1 ⟨rfl, hb⟩
  have HX1 : Hid (x1.heap[w.heap.size]? = _) := heap_keep HX0.out hb
  have HY1 : Hid (x1.heap[w.heap.size + 1]? = _) := heap_keep HY0.out hb
  have HB1 : Hid (Below w.heap.size w x1) := below_call HB0.out hb
  clear hb HX0 HY0 HB0
  obtain ⟨c0, c1, c2, c3, c4, c5⟩ := cells6L HX1.out
  obtain ⟨d0, d1, d2, d3, d4, d5⟩ := cells6L HY1.out
  go_wp2
  go_ret
  exact ⟨rfl, HB1.out⟩
theorem markSymS_is {n : Int} {k : Nat} (hn : n = (k : Int)) (v : Value) (B : Nat) (L : List symE) (w : World) (h1 : OwnX 65 3 symC w B v L) (hs : L.length ≤ 100000) (hk0 : 0 < k) (hk1 : k ≤ 1000000) :
    Calls Try.prog 90 #[v, .int .i64 n] w fun e w' => e = .returned (.int .i64 ((k + 3 * L.length : Nat) : Int)) ∧ OwnX 65 3 symC w' B v (symMarks k L.length) ∧ KO v w w' := by
  subst hn; exact markSymS_any v B L k w h1 hs hk0 hk1
theorem markRefS_is {n : Int} {k : Nat} (hn : n = (k : Int)) (v : Value) (B : Nat) (L : List refE) (w : World) (h1 : OwnX 70 4 refC w B v L) (hs : L.length ≤ 100000) (hk0 : 0 < k) (hk1 : k ≤ 1000000) :
    Calls Try.prog 91 #[v, .int .i64 n] w fun e w' => e = .returned (.int .i64 ((k + 4 * L.length : Nat) : Int)) ∧ OwnX 70 4 refC w' B v (refMarks k L.length) ∧ KO v w w' := by
  subst hn; exact markRefS_any v B L k w h1 hs hk0 hk1
theorem heldSymS_is {m : Int} {k : Nat} (hn : m = (k : Int)) (v : Value) (B : Nat) (n : Nat) (w : World) (h1 : OwnX 65 3 symC w B v (symMarks k n)) (hs : n ≤ 100000) (hk0 : 0 < k) (hk1 : k ≤ 1000000) :
    Calls Try.prog 93 #[v, .int .i64 m] w fun e w' => e = .returned (.int .i64 ((k + 3 * n : Nat) : Int)) ∧ Below w.heap.size w w' := by
  subst hn; exact heldSymS_any v B n k w h1 hs hk0 hk1
theorem heldRefS_is {m : Int} {k : Nat} (hn : m = (k : Int)) (v : Value) (B : Nat) (n : Nat) (w : World) (h1 : OwnX 70 4 refC w B v (refMarks k n)) (hs : n ≤ 100000) (hk0 : 0 < k) (hk1 : k ≤ 1000000) :
    Calls Try.prog 94 #[v, .int .i64 m] w fun e w' => e = .returned (.int .i64 ((k + 4 * n : Nat) : Int)) ∧ Below w.heap.size w w' := by
  subst hn; exact heldRefS_any v B n k w h1 hs hk0 hk1
/- What a marked object's rows are. -/
def objMarks (W : List Int) (S : List symE) (R : List refE) : objE := (marksI 1 W.length, symMarks (1 + W.length) S.length, refMarks (1 + W.length + 3 * S.length) R.length)
def markSum (W : List Int) (S : List symE) (R : List refE) : Nat := 1 + W.length + 3 * S.length + 4 * R.length
theorem KO.own {α : Type} {T : TypeId} {n : Nat} {c : α → List Value} {v u : Value} {w w' : World} {B : Nat} {L : List α} (h : KO v w w') (hu : OwnX T n c w B u L) (hne : ∀ q, u.ownBlock = some q → v.ownBlock ≠ some q) : OwnX T n c w' B u L := hu.stays fun q hq e => h.block q hq (hne q e)
theorem KO.row {v : Value} {w w' : World} {g : Nat} {o : Obj} (h : KO v w w') (hg : w.heap[g]? = some o) (hne : v.ownBlock ≠ some g) : w'.heap[g]? = some o := (h.block g (heap_lt hg) hne).trans hg
theorem KO.below {v : Value} {a w w' : World} {B : Nat} (h : KO v w w') (hb : Below B a w) (hs : B ≤ w.heap.size) (hv : ∀ q, v.ownBlock = some q → B ≤ q) : Below B a w' :=
  hb.trans ⟨h.os, h.tape, h.output, h.size, fun k hk => h.block k (by omega) (fun e => absurd (hv k e) (by omega))⟩
set_option maxRecDepth 100000 in
set_option maxHeartbeats 1600000 in
theorem markObject_any (W : List Int) (S : List symE) (R : List refE) (vw vs vr : Value) (a b c : Option Addr) (ka kb kc B : Nat) (w : World) (hw : vw = .slice a W.length ka) (hv : vs = .slice b S.length kb) (hr : vr = .slice c R.length kc) (h1 : OwnO w B vw vs vr W S R) (hB : B ≤ w.heap.size) (l1 : W.length ≤ 8001) (l2 : S.length ≤ 8001) (l3 : R.length ≤ 8001) :
    Calls Try.prog 53 #[.agg #[vw, vs, vr], .int .i64 1] w fun e w' => e = .returned (.int .i64 (markSum W S R : Nat)) ∧ OwnO w' B vw vs vr (objMarks W S R).1 (objMarks W S R).2.1 (objMarks W S R).2.2 ∧ Below B w w' ∧ (∀ q, q < w.heap.size → vw.ownBlock ≠ some q → vs.ownBlock ≠ some q → vr.ownBlock ≠ some q → w'.heap[q]? = w.heap[q]?) := by
  have H0 : Hid (OwnO w B vw vs vr W S R) := h1
  have hN1 : ∀ q, vw.ownBlock = some q → B ≤ q ∧ q < w.heap.size := fun q e => h1.ws.blk q e
  have hN2 : ∀ q, vs.ownBlock = some q → B ≤ q ∧ q < w.heap.size := fun q e => h1.ss.blk q e
  have hN3 : ∀ q, vr.ownBlock = some q → B ≤ q ∧ q < w.heap.size := fun q e => h1.rs.blk q e
  subst hw hv hr
  have HO1 : Hid (∀ q, (Value.slice a W.length ka).ownBlock = some q → B ≤ q ∧ q < w.heap.size) := hN1
  have HO2 : Hid (∀ q, (Value.slice b S.length kb).ownBlock = some q → B ≤ q ∧ q < w.heap.size) := hN2
  have HO3 : Hid (∀ q, (Value.slice c R.length kc).ownBlock = some q → B ≤ q ∧ q < w.heap.size) := hN3
  clear h1 hN1 hN2 hN3
  have HX0 : Hid (_ = _) := heap_alloc_new w (.cells #[.slice a W.length ka, .slice b S.length kb, .slice c R.length kc] 34)
  go_enter Try.func53, Try.ntmps53
  go_wp2_with fail
  refine (markInt64S_but (.slice a W.length ka) B W 1 _ ((H0.out.call (below_new w (.cells #[.slice a W.length ka, .slice b S.length kb, .slice c R.length kc] 34))).ws.ints) (by omega) (by omega) (by omega)).mono ?_
  rintro e x1 ⟨rfl, hm1, hbl, hk⟩
  have HK1 : Hid (KO (.slice a W.length ka) (w.alloc (.cells #[.slice a W.length ka, .slice b S.length kb, .slice c R.length kc] 34)) x1) := ⟨hbl.os, hbl.tape, hbl.output, hbl.size, hk⟩
  have HW1 : Hid (OwnI x1 B (.slice a W.length ka) (marksI 1 W.length)) := hm1
  have HS1 : Hid (OwnX 65 3 symC x1 B (.slice b S.length kb) S) := HK1.out.own (H0.out.ss.alloc _) (fun q e e2 => H0.out.d1 q e2 e)
  have HR1 : Hid (OwnX 70 4 refC x1 B (.slice c R.length kc) R) := HK1.out.own (H0.out.rs.alloc _) (fun q e e2 => H0.out.d2 q e2 e)
  have HX1 : Hid (x1.heap[w.heap.size]? = _) := HK1.out.row HX0.out (fun e => by have := (HO1.out _ e).2; omega)
  have hz1 : w.heap.size ≤ x1.heap.size := by have := HK1.out.size; simp at this; omega
  clear hm1 hbl hk
  obtain ⟨c0, c1, c2⟩ := cells3L HX1.out
  go_wp2_with fail
  refine (markSymS_is (k := 1 + W.length) (by omega) (.slice b S.length kb) B S x1 HS1.out (by omega) (by omega) (by omega)).mono ?_
  rintro e x2 ⟨rfl, hm2, hk2⟩
  have HK2 : Hid (KO (.slice b S.length kb) x1 x2) := hk2
  have HS2 : Hid (OwnX 65 3 symC x2 B (.slice b S.length kb) (symMarks (1 + W.length) S.length)) := hm2
  have HW2 : Hid (OwnX 2 1 intC x2 B (.slice a W.length ka) (marksI 1 W.length)) := HK2.out.own HW1.out.x (fun q e e2 => H0.out.d1 q e e2)
  have HR2 : Hid (OwnX 70 4 refC x2 B (.slice c R.length kc) R) := HK2.out.own HR1.out (fun q e e2 => H0.out.d3 q e2 e)
  have HX2 : Hid (x2.heap[w.heap.size]? = _) := HK2.out.row HX1.out (fun e => by have := (HO2.out _ e).2; omega)
  have hz2 := HK2.out.size
  clear hm2 hk2 c0 c1 c2
  obtain ⟨c0, c1, c2⟩ := cells3L HX2.out
  go_wp2_with fail
  refine (markRefS_is (k := 1 + W.length + 3 * S.length) (by omega) (.slice c R.length kc) B R x2 HR2.out (by omega) (by omega) (by omega)).mono ?_
  rintro e x3 ⟨rfl, hm3, hk3⟩
  have HK3 : Hid (KO (.slice c R.length kc) x2 x3) := hk3
  have HR3 : Hid (OwnX 70 4 refC x3 B (.slice c R.length kc) (refMarks (1 + W.length + 3 * S.length) R.length)) := hm3
  have HW3 : Hid (OwnX 2 1 intC x3 B (.slice a W.length ka) (marksI 1 W.length)) := HK3.out.own HW2.out (fun q e e2 => H0.out.d2 q e e2)
  have HS3 : Hid (OwnX 65 3 symC x3 B (.slice b S.length kb) (symMarks (1 + W.length) S.length)) := HK3.out.own HS2.out (fun q e e2 => H0.out.d3 q e e2)
  have hz3 := HK3.out.size
  clear hm3 hk3
  have HBB : Hid (Below B w x3) := HK3.out.below (HK2.out.below (HK1.out.below ((below_new w (.cells #[.slice a W.length ka, .slice b S.length kb, .slice c R.length kc] 34)).mono hB) (by simp; omega) (fun q e => (HO1.out q e).1)) (by omega) (fun q e => (HO2.out q e).1)) (by omega) (fun q e => (HO3.out q e).1)
  have HKK : Hid (∀ q, q < w.heap.size → (Value.slice a W.length ka).ownBlock ≠ some q → (Value.slice b S.length kb).ownBlock ≠ some q → (Value.slice c R.length kc).ownBlock ≠ some q → x3.heap[q]? = w.heap[q]?) := fun q hq n1 n2 n3 =>
    (HK3.out.block q (by omega) n3).trans ((HK2.out.block q (by omega) n2).trans ((HK1.out.block q (by simp; omega) n1).trans (Go.heap_alloc_old w _ hq)))
  go_wp2
  go_ret
  exact ⟨rfl, ⟨HW3.out, HS3.out, HR3.out, H0.out.d1, H0.out.d2, H0.out.d3⟩, HBB.out, HKK.out⟩
set_option maxRecDepth 100000 in
set_option maxHeartbeats 1600000 in
theorem heldObject_any (W : List Int) (S : List symE) (R : List refE) (a b c : Option Addr) (ka kb kc B : Nat) (w : World) (h1 : OwnO w B (.slice a W.length ka) (.slice b S.length kb) (.slice c R.length kc) (objMarks W S R).1 (objMarks W S R).2.1 (objMarks W S R).2.2) (l1 : W.length ≤ 8001) (l2 : S.length ≤ 8001) (l3 : R.length ≤ 8001) :
    Calls Try.prog 54 #[.agg #[.slice a W.length ka, .slice b S.length kb, .slice c R.length kc], .int .i64 1] w fun e w' => e = .returned (.int .i64 (markSum W S R : Nat)) ∧ Below w.heap.size w w' := by
  have H0 : Hid (OwnO w B (.slice a W.length ka) (.slice b S.length kb) (.slice c R.length kc) (marksI 1 W.length) (symMarks (1 + W.length) S.length) (refMarks (1 + W.length + 3 * S.length) R.length)) := h1
  clear h1
  have HX0 : Hid (_ = _) := heap_alloc_new w (.cells #[.slice a W.length ka, .slice b S.length kb, .slice c R.length kc] 34)
  have HB0 : Hid (Below w.heap.size w _) := below_new w (.cells #[.slice a W.length ka, .slice b S.length kb, .slice c R.length kc] 34)
  go_enter Try.func54, Try.ntmps54
  go_wp2_with fail
  refine (heldInt64S_any (.slice a W.length ka) B W.length 1 _ ((H0.out.call HB0.out).ws.ints) (by omega) (by omega) (by omega)).mono ?_
  rintro e x1 ⟨rfl, rfl⟩
  go_wp2_with fail
  refine (heldSymS_is (k := 1 + W.length) (by omega) (.slice b S.length kb) B S.length _ (H0.out.call HB0.out).ss (by omega) (by omega) (by omega)).mono ?_
  rintro e x2 ⟨rfl, hb⟩
  have HX2 : Hid (x2.heap[w.heap.size]? = _) := heap_keep HX0.out hb
  have HB2 : Hid (Below w.heap.size w x2) := below_call HB0.out hb
  clear hb
  obtain ⟨c0, c1, c2⟩ := cells3L HX2.out
  go_wp2_with fail
  refine (heldRefS_is (k := 1 + W.length + 3 * S.length) (by omega) (.slice c R.length kc) B R.length _ (H0.out.call HB2.out).rs (by omega) (by omega) (by omega)).mono ?_
  rintro e x3 ⟨rfl, hb⟩
  have HB3 : Hid (Below w.heap.size w x3) := below_call HB2.out hb
  clear hb
  go_wp2
  go_ret
  exact ⟨rfl, HB3.out⟩
end Go.Proofs.Ytcnjeeckkpiilaa
