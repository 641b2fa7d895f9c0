/- ObjectRead of the program. -/
import Derived.Test.YtcnjeeckkpiilaaRows
import Derived.WalkKit
import Derived.WalkSpells
import Derived.WalkLawsBesides
import Derived.Outline
import Derived.Test.YtcnjeeckkpiilaaBun0
import Derived.Test.YtcnjeeckkpiilaaBun1
import Derived.Test.YtcnjeeckkpiilaaBun3
import Derived.Test.YtcnjeeckkpiilaaSymAX
import Derived.Test.YtcnjeeckkpiilaaRefAX
import Derived.Test.YtcnjeeckkpiilaaObjPX
import Derived.Test.YtcnjeeckkpiilaaReadMX
import Derived.Test.YtcnjeeckkpiilaaRowRdX
import Derived.Test.YtcnjeeckkpiilaaRowTkX
import Derived.Test.YtcnjeeckkpiilaaOwnRowsX
namespace Go.Proofs.Ytcnjeeckkpiilaa
open Go.RowKit
set_option linter.unusedVariables false

def nilO : objE := ([], [], [])
def pickP (s : ByteArray) : Option (objE × Int) → Int × objE
  | none => (3, nilO)
  | some (o, q) => if q = s.size ∧ objB o.1 o.2.1 o.2.2 = true then (0, o) else (3, nilO)
def pickS (s : ByteArray) : Option (objE × Int) → Int × objE
  | none => (3, nilO)
  | some (o, q) => if objB o.1 o.2.1 o.2.2 = true ∧ objU o.1 o.2.1 o.2.2 = s then (0, o) else (3, nilO)
def outP (s : ByteArray) : Int × objE := if 8000 < s.size then (2, nilO) else pickP s (pAll s 0)
def outS (s : ByteArray) : Int × objE := if 8000 < s.size then (2, nilO) else pickS s (sAll s 0)
theorem out_PS (s : ByteArray) : outP s = outS s := by
  unfold outP outS
  by_cases h8 : 8000 < s.size
  · rw [if_pos h8, if_pos h8]
  · rw [if_neg h8, if_neg h8]
    have hs : s.size ≤ 8000 := by omega
    cases hS : sAll s 0 with
    | none =>
      cases hP : pAll s 0 with
      | none => rfl
      | some x => rw [leP.all s _ _ hP] at hS; cases hS
    | some x =>
      obtain ⟨o, q⟩ := x
      unfold pickS
      by_cases hc : objB o.1 o.2.1 o.2.2 = true ∧ objU o.1 o.2.1 o.2.2 = s
      · have hp := read_SP hs ⟨⟨q, hS⟩, hc.1, hc.2⟩
        rw [hp.1]
        dsimp only
        rw [if_pos hc]
        unfold pickP
        exact if_pos ⟨rfl, hp.2⟩
      · dsimp only
        rw [if_neg hc]
        cases hP : pAll s 0 with
        | none => rfl
        | some x =>
          obtain ⟨o2, q2⟩ := x
          unfold pickP
          by_cases hd : q2 = s.size ∧ objB o2.1 o2.2.1 o2.2.2 = true
          · exfalso
            obtain ⟨rfl, hb⟩ := hd
            have h1 := leP.all s _ _ hP
            rw [hS] at h1
            cases h1
            obtain ⟨_, k2, k3⟩ := read_PS hs ⟨hP, hb⟩
            exact hc ⟨k2, k3⟩
          · exact if_neg hd
/- Three rows of a call's own, none in another's block. -/
structure OwnO (w : World) (B : Nat) (vw vs vr : Value) (W : List Int) (S : List symE) (R : List refE) : Prop where
  ws : OwnX 2 1 intC w B vw W
  ss : OwnX 65 3 symC w B vs S
  rs : OwnX 70 4 refC w B vr R
  d1 : ∀ q, vw.ownBlock = some q → vs.ownBlock ≠ some q
  d2 : ∀ q, vw.ownBlock = some q → vr.ownBlock ≠ some q
  d3 : ∀ q, vs.ownBlock = some q → vr.ownBlock ≠ some q
theorem OwnO.call {w w' : World} {B : Nat} {vw vs vr : Value} {W : List Int} {S : List symE} {R : List refE} (h : OwnO w B vw vs vr W S R) (hb : Below w.heap.size w w') : OwnO w' B vw vs vr W S R := ⟨h.ws.call hb, h.ss.call hb, h.rs.call hb, h.d1, h.d2, h.d3⟩
theorem OwnX.set {α : Type} {T : TypeId} {n : Nat} {c : α → List Value} {w : World} {B : Nat} {v : Value} {L : List α} (h : OwnX T n c w B v L) (p : Addr) (hp : p.block < B) (u : Value) : OwnX T n c (w.setCell p u) B v L :=
  h.stays fun q _ e => Go.heap_setCell_other w p q u (by have := (h.blk q e).1; omega)
theorem OwnO.set {w : World} {B : Nat} {vw vs vr : Value} {W : List Int} {S : List symE} {R : List refE} (h : OwnO w B vw vs vr W S R) (p : Addr) (hp : p.block < B) (u : Value) : OwnO (w.setCell p u) B vw vs vr W S R := ⟨h.ws.set p hp u, h.ss.set p hp u, h.rs.set p hp u, h.d1, h.d2, h.d3⟩
theorem OwnO.nil (w : World) (B : Nat) : OwnO w B (.slice none 0 0) (.slice none 0 0) (.slice none 0 0) [] [] [] :=
  ⟨OwnX.nil _ _, OwnX.nil _ _, OwnX.nil _ _, fun q h => (by cases h), fun q h => (by cases h), fun q h => (by cases h)⟩
theorem OwnO.low {w : World} {B B' : Nat} {vw vs vr : Value} {W : List Int} {S : List symE} {R : List refE} (h : OwnO w B vw vs vr W S R) (hB : B' ≤ B) : OwnO w B' vw vs vr W S R := ⟨h.ws.low hB, h.ss.low hB, h.rs.low hB, h.d1, h.d2, h.d3⟩
theorem RowIs.ints {w : World} {a : Option Addr} {L : List Int} (h : RowIs 1 intC w a L) : ReadI w a L := fun hl => by
  obtain ⟨x, hx, hb, hc⟩ := h hl
  refine ⟨x, hx, hb, fun i hi => ?_⟩
  have := hc i hi 0 (.int .i64 L[i]) rfl
  rwa [Nat.mul_one, Nat.add_zero] at this
theorem OwnO.is {w : World} {B : Nat} {vw vs vr : Value} {W : List Int} {S : List symE} {R : List refE} (h : OwnO w B vw vs vr W S R) : ∃ a b c ka kb kc, vw = .slice a W.length ka ∧ vs = .slice b S.length kb ∧ vr = .slice c R.length kc ∧ ObjIs w a b c W S R := by
  obtain ⟨a, ka, e1, h1⟩ := h.ws.is intC_len
  obtain ⟨b, kb, e2, h2⟩ := h.ss.is symC_len
  obtain ⟨c, kc, e3, h3⟩ := h.rs.is refC_len
  exact ⟨a, b, c, ka, kb, kc, e1, e2, e3, h1.ints, h2, h3⟩
/- What was read fits in. -/
theorem read_fits {s : ByteArray} {W : List Int} {S : List symE} {R : List refE} {q : Int} (h : pAll s 0 = some ((W, S, R), q)) (h1 : W.length ≤ 8001) (h2 : S.length ≤ 8001) (h3 : R.length ≤ 8001) : ObjFits W S R := by
  obtain ⟨⟨_, ⟨g2, _⟩, g3, _⟩, _⟩ := (codecAll s).can 0 (W, S, R) q (by omega) h
  refine ⟨by omega, by omega, by omega, fun x hx => ?_, fun x hx => ?_⟩
  · have := (g2 x hx).1
    show x.1.size ≤ 1048576
    omega
  · have := (g3 x hx).2.1
    show x.2.1.size ≤ 1048576
    omega
def ReadRes (s : ByteArray) (w : World) (x : Int × objE) (e : Ending) (w' : World) : Prop :=
  ∃ vw vs vr, e = .returned (.agg #[vw, vs, vr, .string ⟨#[]⟩, .int .i64 0, .int .i64 x.1]) ∧ OwnO w' (w.heap.size + 1) vw vs vr x.2.1 x.2.2.1 x.2.2.2 ∧ ObjFits x.2.1 x.2.2.1 x.2.2.2 ∧ Below w.heap.size w w'
theorem nil_fits : ObjFits [] [] [] := ⟨by simp, by simp, by simp, fun _ h => by simp at h, fun _ h => by simp at h⟩
theorem cells6L {W : World} {B : Nat} {t : TypeId} {v0 v1 v2 v3 v4 v5 : Value} (hR : W.heap[B]? = some (.cells #[v0, v1, v2, v3, v4, v5] t (0, 0))) : W.cell? ⟨B, 0, none⟩ = some v0 ∧ W.cell? ⟨B, 1, none⟩ = some v1 ∧ W.cell? ⟨B, 2, none⟩ = some v2 ∧ W.cell? ⟨B, 3, none⟩ = some v3 ∧ W.cell? ⟨B, 4, none⟩ = some v4 ∧ W.cell? ⟨B, 5, none⟩ = some v5 :=
  ⟨cell_of_row _ _ 0 _ _ _ hR, cell_of_row _ _ 1 _ _ _ hR, cell_of_row _ _ 2 _ _ _ hR, cell_of_row _ _ 3 _ _ _ hR, cell_of_row _ _ 4 _ _ _ hR, cell_of_row _ _ 5 _ _ _ hR⟩
def set6 (w : World) (B : Nat) (v0 v1 v2 v3 v4 v5 : Value) : World := (((((w.setCell ⟨B, 0, none⟩ v0).setCell ⟨B, 1, none⟩ v1).setCell ⟨B, 2, none⟩ v2).setCell ⟨B, 3, none⟩ v3).setCell ⟨B, 4, none⟩ v4).setCell ⟨B, 5, none⟩ v5
theorem set6_row {w : World} {B : Nat} {t : TypeId} {u0 u1 u2 u3 u4 u5 : Value} (h : w.heap[B]? = some (.cells #[u0, u1, u2, u3, u4, u5] t (0, 0))) (v0 v1 v2 v3 v4 v5 : Value) : (set6 w B v0 v1 v2 v3 v4 v5).heap[B]? = some (.cells #[v0, v1, v2, v3, v4, v5] t (0, 0)) :=
  heap_set (heap_set (heap_set (heap_set (heap_set (heap_set h 0 v0) 1 v1) 2 v2) 3 v3) 4 v4) 5 v5
theorem set6_below {a w : World} {B : Nat} (h : Below a.heap.size a w) (hB : a.heap.size ≤ B) (v0 v1 v2 v3 v4 v5 : Value) : Below a.heap.size a (set6 w B v0 v1 v2 v3 v4 v5) :=
  (((((h.setCell (p := ⟨B, 0, none⟩) hB v0).setCell (p := ⟨B, 1, none⟩) hB v1).setCell (p := ⟨B, 2, none⟩) hB v2).setCell (p := ⟨B, 3, none⟩) hB v3).setCell (p := ⟨B, 4, none⟩) hB v4).setCell (p := ⟨B, 5, none⟩) hB v5
theorem set6_own {w : World} {B B0 : Nat} {vw vs vr : Value} {W : List Int} {S : List symE} {R : List refE} (h : OwnO w B vw vs vr W S R) (hB : B0 < B) (v0 v1 v2 v3 v4 v5 : Value) : OwnO (set6 w B0 v0 v1 v2 v3 v4 v5) B vw vs vr W S R :=
  (((((h.set ⟨B0, 0, none⟩ hB v0).set ⟨B0, 1, none⟩ hB v1).set ⟨B0, 2, none⟩ hB v2).set ⟨B0, 3, none⟩ hB v3).set ⟨B0, 4, none⟩ hB v4).set ⟨B0, 5, none⟩ hB v5
set_option maxRecDepth 100000 in
set_option maxHeartbeats 3200000 in
theorem implRead_any (s : ByteArray) (w : World) (hs0 : s.size ≤ maxLen) : Calls Try.prog 15 #[.string s] w (ReadRes s w (outP s)) := by
  unfold maxLen at hs0
  by_cases h8 : 8000 < s.size
  · have HF : Hid (outP s = (2, nilO)) := if_pos h8
    go_enter Try.func15, Try.ntmps15
    go_wp2
    refine bodyPost_ret (v := .agg #[.slice none 0 0, .slice none 0 0, .slice none 0 0, .string ⟨#[]⟩, .int .i64 0, .int .i64 2]) (by simp [results, Try.results15, go_sem]) rfl ?_
    rw [HF.out]
    exact ⟨_, _, _, rfl, OwnO.nil _ _, nil_fits, (Below.refl _ _).alloc (Nat.le_refl _) _⟩
  have hs : s.size ≤ 8000 := by omega
  have HF : Hid (outP s = pickP s (pAll s 0)) := if_neg h8
  have HZ : Hid ((w.alloc (.cells #[.slice none 0 0, .slice none 0 0, .slice none 0 0, .string ⟨#[]⟩, .int .i64 0, .int .i64 0] 39)).heap[w.heap.size]? = _) := heap_alloc_new w (.cells #[.slice none 0 0, .slice none 0 0, .slice none 0 0, .string ⟨#[]⟩, .int .i64 0, .int .i64 0] 39)
  have HB0 : Hid (Below w.heap.size w (w.alloc (.cells #[.slice none 0 0, .slice none 0 0, .slice none 0 0, .string ⟨#[]⟩, .int .i64 0, .int .i64 0] 39))) := below_new w _
  have hxs : (w.alloc (.cells #[.slice none 0 0, .slice none 0 0, .slice none 0 0, .string ⟨#[]⟩, .int .i64 0, .int .i64 0] 39)).heap.size = w.heap.size + 1 := by simp
  go_enter Try.func15, Try.ntmps15
  go_wp2_with fail
  generalize w.alloc (.cells #[.slice none 0 0, .slice none 0 0, .slice none 0 0, .string ⟨#[]⟩, .int .i64 0, .int .i64 0] 39) = x0 at *
  have HR0 : Hid (RR (x0.alloc (.cells #[.string s, .int .i64 0, .bool false] 79)) (w.heap.size + 1) s 0 false) := ⟨by rw [← hxs]; exact heap_alloc_new x0 _, by omega, by omega⟩
  have HZ0 : Hid ((x0.alloc (.cells #[.string s, .int .i64 0, .bool false] 79)).heap[w.heap.size]? = _) := heap_more HZ.out _
  have HBx : Hid (Below w.heap.size w (x0.alloc (.cells #[.string s, .int .i64 0, .bool false] 79))) := below_more HB0.out _
  have hys : (x0.alloc (.cells #[.string s, .int .i64 0, .bool false] 79)).heap.size = w.heap.size + 2 := by simp; omega
  generalize x0.alloc (.cells #[.string s, .int .i64 0, .bool false] 79) = y0 at *
  refine (takeN_any _ s 0 false y0 HR0.out hs).mono ?_
  rintro e y1 ⟨hb, vw, W, q1, w1, rfl, hO, hR, hl1, hx1⟩
  have HR1 : Hid (RR y1 _ s q1 w1) := hR
  have HT1 : Hid (But _ y0 y1) := hb
  have HW1 : Hid (OwnX _ _ _ y1 y0.heap.size vw W) := hO
  have HX1 : Hid ((w1 = false ∧ unlessB false (pRow s (pN s) 0) = some (W, q1)) ∨ (w1 = true ∧ unlessB false (pRow s (pN s) 0) = none)) := hx1
  clear hb hO hR hx1
  have hz1 := HT1.out.size
  go_wp2_with fail
  refine (takeS_any _ s q1 w1 y1 HR1.out hs).mono ?_
  rintro e y2 ⟨hb, vs, S, q2, w2, rfl, hO, hR, hl2, hx2⟩
  have HR2 : Hid (RR y2 _ s q2 w2) := hR
  have HT2 : Hid (But _ y1 y2) := hb
  have HS2 : Hid (OwnX _ _ _ y2 y1.heap.size vs S) := hO
  have HW2 : Hid (OwnX 2 1 intC y2 y0.heap.size vw W) := HW1.out.stays fun k hk e => hb.block k hk (by have := (HW1.out.blk k e).1; omega)
  have HX2 : Hid ((w2 = false ∧ unlessB w1 (pRow s (pSym s) q1) = some (S, q2)) ∨ (w2 = true ∧ unlessB w1 (pRow s (pSym s) q1) = none)) := hx2
  clear hb hO hR hx2
  have hz2 := HT2.out.size
  go_wp2_with fail
  refine (takeR_any _ s q2 w2 y2 HR2.out hs).mono ?_
  rintro e y3 ⟨hb, vr, R, q3, w3, rfl, hO, hR, hl3, hx3⟩
  have HR3 : Hid (RR y3 _ s q3 w3) := hR
  have HT3 : Hid (But _ y2 y3) := hb
  have HV3 : Hid (OwnX 70 4 refC y3 y2.heap.size vr R) := hO
  have HS3 : Hid (OwnX 65 3 symC y3 y1.heap.size vs S) := HS2.out.stays fun k hk e => hb.block k hk (by have := (HS2.out.blk k e).1; omega)
  have HW3 : Hid (OwnX 2 1 intC y3 y0.heap.size vw W) := HW2.out.stays fun k hk e => hb.block k hk (by have := (HW2.out.blk k e).1; omega)
  have HX3 : Hid ((w3 = false ∧ unlessB w2 (pRow s (pRef s) q2) = some (R, q3)) ∨ (w3 = true ∧ unlessB w2 (pRow s (pRef s) q2) = none)) := hx3
  clear hb hO hR hx3
  have hz3 := HT3.out.size
  have HXA : Hid ((w3 = false ∧ pAll s 0 = some ((W, S, R), q3)) ∨ (w3 = true ∧ pAll s 0 = none)) := by
    have h2 := seq_step (f := pRow s (pSym s)) (g := pRow s (pRef s)) HX2.out HX3.out
    rw [← unless_bind] at h2
    have h1 := seq_step (f := pRow s (pN s)) (g := seqP (pRow s (pSym s)) (pRow s (pRef s))) HX1.out h2
    rw [← unless_bind] at h1
    exact h1
  have HOO : Hid (OwnO y3 (w.heap.size + 1) vw vs vr W S R) :=
    ⟨HW3.out.low (by omega), HS3.out.low (by omega), HV3.out.low (by omega), fun q e1 e2 => by have := (HW1.out.blk q e1).2; have := (HS3.out.blk q e2).1; omega, fun q e1 e2 => by have := (HW2.out.blk q e1).2; have := (HV3.out.blk q e2).1; omega, fun q e1 e2 => by have := (HS2.out.blk q e1).2; have := (HV3.out.blk q e2).1; omega⟩
  have HTA : Hid (But (w.heap.size + 1) y0 y3) := (HT1.out.trans HT2.out).trans HT3.out
  have HBA : Hid (Below w.heap.size w y3) := But.below HBx.out HTA.out (by omega) (by omega)
  have HZA : Hid (y3.heap[w.heap.size]? = some (.cells #[.slice none 0 0, .slice none 0 0, .slice none 0 0, .string ⟨#[]⟩, .int .i64 0, .int .i64 0] 39 (0, 0))) := But.keep HZ0.out HTA.out (by omega)
  clear HX1 HX2 HX3 HT1 HT2 HT3 HW1 HW2 HW3 HS2 HS3 HV3 HZ0 HBx HR1 HR2 HR0
  obtain ⟨a, b, c, ka, kb, kc, rfl, rfl, rfl, hI⟩ := HOO.out.is
  have HI : Hid (ObjIs y3 a b c W S R) := hI
  clear hI
  have HOb : Hid ((y3.alloc (.cells #[.slice a W.length ka, .slice b S.length kb, .slice c R.length kc] 34)).heap[y3.heap.size]? = some (.cells #[.slice a W.length ka, .slice b S.length kb, .slice c R.length kc] 34 (0, 0))) := heap_alloc_new y3 _
  have HRb : Hid (RR (y3.alloc (.cells #[.slice a W.length ka, .slice b S.length kb, .slice c R.length kc] 34)) (w.heap.size + 1) s q3 w3) := HR3.out.call (below_new _ _)
  have HOf : Hid (OwnO (y3.alloc (.cells #[.slice a W.length ka, .slice b S.length kb, .slice c R.length kc] 34)) (w.heap.size + 1) (.slice a W.length ka) (.slice b S.length kb) (.slice c R.length kc) W S R) := HOO.out.call (below_new _ _)
  have HBf : Hid (Below w.heap.size w (y3.alloc (.cells #[.slice a W.length ka, .slice b S.length kb, .slice c R.length kc] 34))) := below_more HBA.out _
  have HZf : Hid ((y3.alloc (.cells #[.slice a W.length ka, .slice b S.length kb, .slice c R.length kc] 34)).heap[w.heap.size]? = some (.cells #[.slice none 0 0, .slice none 0 0, .slice none 0 0, .string ⟨#[]⟩, .int .i64 0, .int .i64 0] 39 (0, 0))) := heap_more HZA.out _
  obtain ⟨d0, d1, d2⟩ := HRb.out.cells
  obtain ⟨c0, c1, c2, c3, c4, c5⟩ := cells6L HZf.out
  have f0 : (y3.alloc (.cells #[.slice a W.length ka, .slice b S.length kb, .slice c R.length kc] 34)).frozen? ⟨w.heap.size, 0, none⟩ = false := frozen_of_row _ _ _ _ _ HZf.out
  have f1 : (y3.alloc (.cells #[.slice a W.length ka, .slice b S.length kb, .slice c R.length kc] 34)).frozen? ⟨w.heap.size, 1, none⟩ = false := frozen_of_row _ _ _ _ _ HZf.out
  have f2 : (y3.alloc (.cells #[.slice a W.length ka, .slice b S.length kb, .slice c R.length kc] 34)).frozen? ⟨w.heap.size, 2, none⟩ = false := frozen_of_row _ _ _ _ _ HZf.out
  have f3 : (y3.alloc (.cells #[.slice a W.length ka, .slice b S.length kb, .slice c R.length kc] 34)).frozen? ⟨w.heap.size, 3, none⟩ = false := frozen_of_row _ _ _ _ _ HZf.out
  have f4 : (y3.alloc (.cells #[.slice a W.length ka, .slice b S.length kb, .slice c R.length kc] 34)).frozen? ⟨w.heap.size, 4, none⟩ = false := frozen_of_row _ _ _ _ _ HZf.out
  have f5 : (y3.alloc (.cells #[.slice a W.length ka, .slice b S.length kb, .slice c R.length kc] 34)).frozen? ⟨w.heap.size, 5, none⟩ = false := frozen_of_row _ _ _ _ _ HZf.out
  have HBAD : Hid (outP s = (3, nilO) → ReadRes s w (outP s) (.returned (.agg #[.slice none 0 0, .slice none 0 0, .slice none 0 0, .string ⟨#[]⟩, .int .i64 0, .int .i64 3])) (set6 (y3.alloc (.cells #[.slice a W.length ka, .slice b S.length kb, .slice c R.length kc] 34)) w.heap.size (.slice none 0 0) (.slice none 0 0) (.slice none 0 0) (.string ⟨#[]⟩) (.int .i64 0) (.int .i64 3))) := fun h => by
    rw [h]
    exact ⟨_, _, _, rfl, OwnO.nil _ _, nil_fits, set6_below HBf.out (Nat.le_refl _) _ _ _ _ _ _⟩
  have HBADr : Hid (_ = _) := set6_row HZf.out (.slice none 0 0) (.slice none 0 0) (.slice none 0 0) (.string ⟨#[]⟩) (.int .i64 0) (.int .i64 3)
  have hWl := hl1
  rcases HXA.out with ⟨rfl, hp⟩ | ⟨rfl, hp⟩
  · have HP : Hid (outP s = pickP s (some ((W, S, R), q3))) := by show _ = _; rw [HF.out, hp]
    have HFI : Hid (ObjFits W S R) := read_fits hp hl1 hl2 hl3
    clear hp
    by_cases hq : q3 = s.size
    · subst hq
      have hq2 : ((s.size : Int) != (s.size : Int)) = false := by simp
      go_wp2_with fail
      refine (implObject_any a b c W S R ka kb kc _ (HI.out.below (below_new _ _)) HFI.out).mono ?_
      rintro e y5 ⟨rfl, hb⟩
      have HO5 : Hid (y5.heap[y3.heap.size]? = some (.cells #[.slice a W.length ka, .slice b S.length kb, .slice c R.length kc] 34 (0, 0))) := heap_keep HOb.out hb
      have HOf5 : Hid (OwnO y5 (w.heap.size + 1) (.slice a W.length ka) (.slice b S.length kb) (.slice c R.length kc) W S R) := HOf.out.call hb
      have HB5 : Hid (Below w.heap.size w y5) := below_call HBf.out hb
      have HZ5 : Hid (y5.heap[w.heap.size]? = some (.cells #[.slice none 0 0, .slice none 0 0, .slice none 0 0, .string ⟨#[]⟩, .int .i64 0, .int .i64 0] 39 (0, 0))) := heap_keep HZf.out hb
      clear hb c0 c1 c2 c3 c4 c5 f0 f1 f2 f3 f4 f5 d0 d1 d2 HBAD HBADr
      obtain ⟨o0, o1, o2⟩ := cells3L HO5.out
      obtain ⟨c0, c1, c2, c3, c4, c5⟩ := cells6L HZ5.out
      have f0 : y5.frozen? ⟨w.heap.size, 0, none⟩ = false := frozen_of_row _ _ _ _ _ HZ5.out
      have f1 : y5.frozen? ⟨w.heap.size, 1, none⟩ = false := frozen_of_row _ _ _ _ _ HZ5.out
      have f2 : y5.frozen? ⟨w.heap.size, 2, none⟩ = false := frozen_of_row _ _ _ _ _ HZ5.out
      have f3 : y5.frozen? ⟨w.heap.size, 3, none⟩ = false := frozen_of_row _ _ _ _ _ HZ5.out
      have f4 : y5.frozen? ⟨w.heap.size, 4, none⟩ = false := frozen_of_row _ _ _ _ _ HZ5.out
      have f5 : y5.frozen? ⟨w.heap.size, 5, none⟩ = false := frozen_of_row _ _ _ _ _ HZ5.out
      cases hok : objB W S R
      · have HP2 : Hid (outP s = (3, nilO)) := by show _ = _; rw [HP.out]; exact if_neg (fun h => by rw [hok] at h; cases h.2)
        have HR5 : Hid (_ = _) := set6_row HZ5.out (.slice none 0 0) (.slice none 0 0) (.slice none 0 0) (.string ⟨#[]⟩) (.int .i64 0) (.int .i64 3)
        clear hok
        go_wp2
        exact bodyPost_ret (results_cell_row Try.results15 _ _ w.heap.size 39 _ (0, 0) _ rfl HR5.out Try.underlying39 rfl (by kernel_rfl)) rfl (by rw [HP2.out]; exact ⟨_, _, _, rfl, OwnO.nil _ _, nil_fits, set6_below HB5.out (Nat.le_refl _) _ _ _ _ _ _⟩)
      · have HP2 : Hid (outP s = (0, (W, S, R))) := by show _ = _; rw [HP.out]; exact if_pos ⟨rfl, hok⟩
        have HR5 : Hid (_ = _) := set6_row HZ5.out (.slice a W.length ka) (.slice b S.length kb) (.slice c R.length kc) (.string ⟨#[]⟩) (.int .i64 0) (.int .i64 0)
        clear hok
        go_wp2
        exact bodyPost_ret (results_cell_row Try.results15 _ _ w.heap.size 39 _ (0, 0) _ rfl HR5.out Try.underlying39 rfl (by kernel_rfl)) rfl (by rw [HP2.out]; exact ⟨_, _, _, rfl, set6_own HOf5.out (by omega) _ _ _ _ _ _, HFI.out, set6_below HB5.out (Nat.le_refl _) _ _ _ _ _ _⟩)
    · have hq2 : (q3 != (s.size : Int)) = true := by rw [bne_iff_ne]; exact hq
      have HP2 : Hid (outP s = (3, nilO)) := by show _ = _; rw [HP.out]; exact if_neg (fun h => hq h.1)
      go_wp2
      exact bodyPost_ret (results_cell_row Try.results15 _ _ w.heap.size 39 _ (0, 0) _ rfl HBADr.out Try.underlying39 rfl (by kernel_rfl)) rfl (HBAD.out HP2.out)
  · have HP : Hid (outP s = (3, nilO)) := by show _ = _; rw [HF.out, hp]; rfl
    clear hp
    go_wp2
    exact bodyPost_ret (results_cell_row Try.results15 _ _ w.heap.size 39 _ (0, 0) _ rfl HBADr.out Try.underlying39 rfl (by kernel_rfl)) rfl (HBAD.out HP.out)
end Go.Proofs.Ytcnjeeckkpiilaa
