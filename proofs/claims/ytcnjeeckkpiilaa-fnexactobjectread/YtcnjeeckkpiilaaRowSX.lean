/- The specification's reading of an object: what stands, round by round. -/
import Derived.Test.YtcnjeeckkpiilaaRows
import Derived.WalkKit
import Derived.WalkSpells
import Derived.WalkLawsBesides
import Derived.Outline
import Derived.Test.YtcnjeeckkpiilaaBun0
import Derived.Test.YtcnjeeckkpiilaaBun1
import Derived.Test.YtcnjeeckkpiilaaBun3
import Derived.Test.YtcnjeeckkpiilaaSymAX
import Derived.Test.YtcnjeeckkpiilaaRefAX
import Derived.Test.YtcnjeeckkpiilaaReadMX
import Derived.Test.YtcnjeeckkpiilaaRowRdX
import Derived.Test.YtcnjeeckkpiilaaRowTkX
import Derived.Test.YtcnjeeckkpiilaaRowQX
import Derived.Test.YtcnjeeckkpiilaaOwnRowsX
import Derived.Test.YtcnjeeckkpiilaaReadOX
namespace Go.Proofs.Ytcnjeeckkpiilaa
open Go.RowKit
set_option linter.unusedVariables false

def MidS {α : Type} (f : Int → Option (α × Int)) (X : Option (List α × Int)) (k : Int) (L : List α) (q : Int) (bad : Bool) : Prop :=
  (bad = false → (L.length : Int) ≤ q ∧ X = (pMany f k.toNat q).map fun y => (L ++ y.1, y.2)) ∧ (bad = true → X = none) ∧ L.length ≤ 8001
theorem MidS.step {α : Type} {s : ByteArray} {f : Int → Option (α × Int)} {X : Option (List α × Int)} {k : Int} {L : List α} {q : Int} (h : MidS f X k L q false) (hs : s.size ≤ 8000) (hq0 : 0 ≤ q) (hq1 : q ≤ s.size) (hadv : advP s f) (hk : 0 < k) {a : α} {q2 : Int} {w2 : Bool}
    (hx : (w2 = false ∧ unlessB false (f q) = some (a, q2)) ∨ (w2 = true ∧ unlessB false (f q) = none)) : MidS f X (k - 1) (L ++ [a]) q2 w2 := by
  obtain ⟨h2, h3⟩ := h.1 rfl
  have e : k.toNat = (k - 1).toNat + 1 := by omega
  rw [e] at h3
  unfold pMany at h3
  rcases hx with ⟨rfl, hx⟩ | ⟨rfl, hx⟩
  · have hx' : f q = some (a, q2) := hx
    obtain ⟨k1, k2⟩ := hadv q a q2 hq0 hq1 hx'
    refine ⟨fun _ => ⟨by rw [List.length_append, List.length_singleton]; omega, ?_⟩, fun k => (by cases k), by rw [List.length_append, List.length_singleton]; omega⟩
    rw [h3, hx', Option.bind_some]
    cases pMany f (k - 1).toNat q2 with
    | none => rfl
    | some y => simp
  · have hx' : f q = none := hx
    refine ⟨fun k => (by cases k), fun _ => ?_, by rw [List.length_append, List.length_singleton]; omega⟩
    rw [h3, hx']; rfl
theorem MidS.last {α : Type} {f : Int → Option (α × Int)} {X : Option (List α × Int)} {k : Int} {L : List α} {q : Int} {bad : Bool} (h : MidS f X k L q bad) (hstop : bad = true ∨ ¬ 0 < k) : (bad = false ∧ X = some (L, q)) ∨ (bad = true ∧ X = none) := by
  cases bad
  · rcases hstop with h1 | h1
    · cases h1
    · obtain ⟨h2, h3⟩ := h.1 rfl
      have e : k.toNat = 0 := by omega
      rw [e] at h3
      exact .inl ⟨rfl, by rw [h3]; simp [pMany]⟩
  · exact .inr ⟨rfl, h.2.1 rfl⟩
theorem MidS.first {α : Type} {s : ByteArray} {f : Int → Option (α × Int)} {wr : Bool} {q n q1 : Int} {w1 : Bool} (hq : 0 ≤ q1) (h : (w1 = false ∧ unlessB wr (pN s q) = some (n, q1)) ∨ (w1 = true ∧ unlessB wr (pN s q) = none)) : MidS f (unlessB wr (sRow s f q)) n [] q1 w1 := by
  unfold sRow
  rw [unless_bind]
  rcases h with ⟨rfl, h⟩ | ⟨rfl, h⟩
  · refine ⟨fun _ => ⟨by simpa using hq, ?_⟩, fun k => (by cases k), by simp⟩
    rw [h, Option.bind_some]
    simp
  · refine ⟨fun k => (by cases k), fun _ => by rw [h]; rfl, by simp⟩
theorem advP.seq {α β : Type} {s : ByteArray} {f : Int → Option (α × Int)} {g : Int → Option (β × Int)} (hf : advP s f) (hg : advP s g) : advP s (seqP f g) := fun q a q2 h0 h1 he => by
  unfold seqP at he
  obtain ⟨x, k1, k2⟩ := Option.bind_eq_some_iff.1 he
  obtain ⟨y, k3, k4⟩ := Option.bind_eq_some_iff.1 k2
  obtain ⟨_, rfl⟩ := Prod.mk.inj (Option.some.inj k4)
  have m1 := hf q x.1 x.2 h0 h1 k1
  have m2 := hg x.2 y.1 y.2 (by omega) m1.2 k3
  omega
theorem advT (s : ByteArray) : advP s (pT s) := fun q a q2 h0 h1 he => by
  obtain ⟨p, rfl⟩ := Int.eq_ofNat_of_zero_le h0
  obtain ⟨hg, rfl, hd⟩ := (codecT s).can p a q2 (by omega) he
  have := (drop_fits (by omega) hd).1
  have h2 : 1 ≤ (textL a).length := by
    rw [textL_eq hg, List.length_append]
    have := numL_pos (a.size : Int)
    omega
  omega
theorem advF (s : ByteArray) : advP s (sF s) := fun q a q2 h0 h1 he => by
  unfold sF at he
  obtain ⟨x, k1, k2⟩ := Option.bind_eq_some_iff.1 he
  obtain ⟨_, rfl⟩ := Prod.mk.inj (Option.some.inj k2)
  exact advN s q x.1 x.2 h0 h1 k1
theorem advSs (s : ByteArray) : advP s (sSym s) := (advT s).seq ((advN s).seq (advF s))
theorem advRs (s : ByteArray) : advP s (sRef s) := (advN s).seq ((advT s).seq ((advN s).seq (advF s)))
abbrev nilS : Value := .slice none 0 0
structure QS (w y : World) (s : ByteArray) (q : Int) (bad : Bool) (vw vs vr : Value) (W : List Int) (S : List symE) (R : List refE) : Prop where
  hz : y.heap[w.heap.size]? = some (.cells #[nilS, nilS, nilS] 34 (0, 0))
  hg : y.heap[w.heap.size + 2]? = some (.cells #[vw, vs, vr] 34 (0, 0))
  ho : OwnO y (w.heap.size + 3) vw vs vr W S R
  hr : RQ y (w.heap.size + 1) s q bad
  hb : Below w.heap.size w y
theorem QS.size {w y : World} {s : ByteArray} {q : Int} {bad : Bool} {vw vs vr : Value} {W : List Int} {S : List symE} {R : List refE} (h : QS w y s q bad vw vs vr W S R) : w.heap.size + 3 ≤ y.heap.size := by have := heap_lt h.hg; omega
theorem QS.but {w y y' : World} {s : ByteArray} {q q2 : Int} {bad bad2 : Bool} {vw vs vr : Value} {W : List Int} {S : List symE} {R : List refE} (h : QS w y s q bad vw vs vr W S R) (hb : But (w.heap.size + 1) y y') (hr : RQ y' (w.heap.size + 1) s q2 bad2) : QS w y' s q2 bad2 vw vs vr W S R :=
  ⟨But.keep h.hz hb (by omega), But.keep h.hg hb (by omega),
   ⟨h.ho.ws.stays fun k hk e => hb.block k hk (by have := (h.ho.ws.blk k e).1; omega), h.ho.ss.stays fun k hk e => hb.block k hk (by have := (h.ho.ss.blk k e).1; omega), h.ho.rs.stays fun k hk e => hb.block k hk (by have := (h.ho.rs.blk k e).1; omega), h.ho.d1, h.ho.d2, h.ho.d3⟩,
   hr, But.below h.hb hb (by omega) (by have := h.size; omega)⟩
theorem QS.call {w y y' : World} {s : ByteArray} {q : Int} {bad : Bool} {vw vs vr : Value} {W : List Int} {S : List symE} {R : List refE} (h : QS w y s q bad vw vs vr W S R) (hb : Below y.heap.size y y') : QS w y' s q bad vw vs vr W S R :=
  ⟨heap_keep h.hz hb, heap_keep h.hg hb, h.ho.call hb, ⟨heap_keep h.hr.row hb, h.hr.lo, h.hr.hi⟩, below_call h.hb hb⟩
/- A block that is none of these is written. -/
theorem QS.set {w y : World} {s : ByteArray} {q : Int} {bad : Bool} {vw vs vr : Value} {W : List Int} {S : List symE} {R : List refE} (h : QS w y s q bad vw vs vr W S R) (p : Addr) (u : Value) (hp : w.heap.size + 3 ≤ p.block) (h1 : vw.ownBlock ≠ some p.block) (h2 : vs.ownBlock ≠ some p.block) (h3 : vr.ownBlock ≠ some p.block) : QS w (y.setCell p u) s q bad vw vs vr W S R :=
  ⟨heap_set_other h.hz p (by omega) u, heap_set_other h.hg p (by omega) u,
   ⟨h.ho.ws.stays fun k _ e => Go.heap_setCell_other y p k u (fun e2 => h1 (e2 ▸ e)), h.ho.ss.stays fun k _ e => Go.heap_setCell_other y p k u (fun e2 => h2 (e2 ▸ e)), h.ho.rs.stays fun k _ e => Go.heap_setCell_other y p k u (fun e2 => h3 (e2 ▸ e)), h.ho.d1, h.ho.d2, h.ho.d3⟩,
   ⟨heap_set_other h.hr.row p (by omega) u, h.hr.lo, h.hr.hi⟩, h.hb.setCell (by omega) u⟩
theorem QS.app1 {w x z : World} {s : ByteArray} {q : Int} {bad : Bool} {vw vs vr : Value} {W : List Int} {S : List symE} {R : List refE} {a : Int} {gg cap2 H : Nat} (h : QS w x s q bad vw vs vr W S R) (hH : x.heap.size ≤ H)
    (hown : OwnX 2 1 intC z (w.heap.size + 3) (.slice (some ⟨gg, 0, none⟩) (W.length + 1) cap2) (W ++ [a])) (hk2 : ∀ k, k < x.heap.size → some k ≠ vw.ownBlock → z.heap[k]? = x.heap[k]?) (hsz : x.heap.size ≤ z.heap.size) (hos : z.os = x.os) (htp : z.tape = x.tape) (hop : z.output = x.output) (hat : vw.ownBlock = some gg ∨ gg = H) :
    QS w (z.setCell ⟨w.heap.size + 2, 0, none⟩ (.slice (some ⟨gg, 0, none⟩) (W.length + 1) cap2)) s q bad (.slice (some ⟨gg, 0, none⟩) (W.length + 1) cap2) vs vr (W ++ [a]) S R := by
  have hx := h.size
  have hlow : ∀ k, k < w.heap.size + 3 → z.heap[k]? = x.heap[k]? := fun k hk => hk2 k (by omega) (fun e => by have := (h.ho.ws.blk k e.symm).1; omega)
  refine ⟨heap_set_other ((hlow _ (by omega)).trans h.hz) ⟨w.heap.size + 2, 0, none⟩ (by show w.heap.size ≠ w.heap.size + 2; omega) _, heap_set ((hlow _ (by omega)).trans h.hg) 0 _,
    ⟨(hown.set ⟨w.heap.size + 2, 0, none⟩ (by show w.heap.size + 2 < _; omega) _), (h.ho.ss.stays fun k hk e => (Go.heap_setCell_other z ⟨w.heap.size + 2, 0, none⟩ k _ (by have := (h.ho.ss.blk k e).1; show k ≠ w.heap.size + 2; omega)).trans (hk2 k hk (fun e2 => h.ho.d1 k e2.symm e))), (h.ho.rs.stays fun k hk e => (Go.heap_setCell_other z ⟨w.heap.size + 2, 0, none⟩ k _ (by have := (h.ho.rs.blk k e).1; show k ≠ w.heap.size + 2; omega)).trans (hk2 k hk (fun e2 => h.ho.d2 k e2.symm e))),
    fun k e e2 => by
      have e3 : gg = k := by simpa [Value.ownBlock] using e
      subst e3
      rcases hat with h4 | h4
      · exact h.ho.d1 _ h4 e2
      · have := (h.ho.ss.blk _ e2).2; omega,
    fun k e e2 => by
      have e3 : gg = k := by simpa [Value.ownBlock] using e
      subst e3
      rcases hat with h4 | h4
      · exact h.ho.d2 _ h4 e2
      · have := (h.ho.rs.blk _ e2).2; omega,
    h.ho.d3⟩,
    ⟨heap_set_other ((hlow _ (by omega)).trans h.hr.row) ⟨w.heap.size + 2, 0, none⟩ (by show w.heap.size + 1 ≠ w.heap.size + 2; omega) _, h.hr.lo, h.hr.hi⟩, ?_⟩
  exact (h.hb.trans ⟨hos, htp, hop, hsz, fun k hk => hlow k (by omega)⟩).setCell (p := ⟨w.heap.size + 2, 0, none⟩) (by show w.heap.size ≤ w.heap.size + 2; omega) _
theorem QS.app2 {w x z : World} {s : ByteArray} {q : Int} {bad : Bool} {vw vs vr : Value} {W : List Int} {S : List symE} {R : List refE} {a : symE} {gg cap2 H : Nat} (h : QS w x s q bad vw vs vr W S R) (hH : x.heap.size ≤ H)
    (hown : OwnX 65 3 symC z (w.heap.size + 3) (.slice (some ⟨gg, 0, none⟩) (S.length + 1) cap2) (S ++ [a])) (hk2 : ∀ k, k < x.heap.size → some k ≠ vs.ownBlock → z.heap[k]? = x.heap[k]?) (hsz : x.heap.size ≤ z.heap.size) (hos : z.os = x.os) (htp : z.tape = x.tape) (hop : z.output = x.output) (hat : vs.ownBlock = some gg ∨ gg = H) :
    QS w (z.setCell ⟨w.heap.size + 2, 1, none⟩ (.slice (some ⟨gg, 0, none⟩) (S.length + 1) cap2)) s q bad vw (.slice (some ⟨gg, 0, none⟩) (S.length + 1) cap2) vr W (S ++ [a]) R := by
  have hx := h.size
  have hlow : ∀ k, k < w.heap.size + 3 → z.heap[k]? = x.heap[k]? := fun k hk => hk2 k (by omega) (fun e => by have := (h.ho.ss.blk k e.symm).1; omega)
  refine ⟨heap_set_other ((hlow _ (by omega)).trans h.hz) ⟨w.heap.size + 2, 1, none⟩ (by show w.heap.size ≠ w.heap.size + 2; omega) _, heap_set ((hlow _ (by omega)).trans h.hg) 1 _,
    ⟨(h.ho.ws.stays fun k hk e => (Go.heap_setCell_other z ⟨w.heap.size + 2, 1, none⟩ k _ (by have := (h.ho.ws.blk k e).1; show k ≠ w.heap.size + 2; omega)).trans (hk2 k hk (fun e2 => h.ho.d1 k e e2.symm))), (hown.set ⟨w.heap.size + 2, 1, none⟩ (by show w.heap.size + 2 < _; omega) _), (h.ho.rs.stays fun k hk e => (Go.heap_setCell_other z ⟨w.heap.size + 2, 1, none⟩ k _ (by have := (h.ho.rs.blk k e).1; show k ≠ w.heap.size + 2; omega)).trans (hk2 k hk (fun e2 => h.ho.d3 k e2.symm e))),
    fun k e e2 => by
      have e3 : gg = k := by simpa [Value.ownBlock] using e2
      subst e3
      rcases hat with h4 | h4
      · exact h.ho.d1 _ e h4
      · have := (h.ho.ws.blk _ e).2; omega,
    h.ho.d2,
    fun k e e2 => by
      have e3 : gg = k := by simpa [Value.ownBlock] using e
      subst e3
      rcases hat with h4 | h4
      · exact h.ho.d3 _ h4 e2
      · have := (h.ho.rs.blk _ e2).2; omega⟩,
    ⟨heap_set_other ((hlow _ (by omega)).trans h.hr.row) ⟨w.heap.size + 2, 1, none⟩ (by show w.heap.size + 1 ≠ w.heap.size + 2; omega) _, h.hr.lo, h.hr.hi⟩, ?_⟩
  exact (h.hb.trans ⟨hos, htp, hop, hsz, fun k hk => hlow k (by omega)⟩).setCell (p := ⟨w.heap.size + 2, 1, none⟩) (by show w.heap.size ≤ w.heap.size + 2; omega) _
theorem QS.app3 {w x z : World} {s : ByteArray} {q : Int} {bad : Bool} {vw vs vr : Value} {W : List Int} {S : List symE} {R : List refE} {a : refE} {gg cap2 H : Nat} (h : QS w x s q bad vw vs vr W S R) (hH : x.heap.size ≤ H)
    (hown : OwnX 70 4 refC z (w.heap.size + 3) (.slice (some ⟨gg, 0, none⟩) (R.length + 1) cap2) (R ++ [a])) (hk2 : ∀ k, k < x.heap.size → some k ≠ vr.ownBlock → z.heap[k]? = x.heap[k]?) (hsz : x.heap.size ≤ z.heap.size) (hos : z.os = x.os) (htp : z.tape = x.tape) (hop : z.output = x.output) (hat : vr.ownBlock = some gg ∨ gg = H) :
    QS w (z.setCell ⟨w.heap.size + 2, 2, none⟩ (.slice (some ⟨gg, 0, none⟩) (R.length + 1) cap2)) s q bad vw vs (.slice (some ⟨gg, 0, none⟩) (R.length + 1) cap2) W S (R ++ [a]) := by
  have hx := h.size
  have hlow : ∀ k, k < w.heap.size + 3 → z.heap[k]? = x.heap[k]? := fun k hk => hk2 k (by omega) (fun e => by have := (h.ho.rs.blk k e.symm).1; omega)
  refine ⟨heap_set_other ((hlow _ (by omega)).trans h.hz) ⟨w.heap.size + 2, 2, none⟩ (by show w.heap.size ≠ w.heap.size + 2; omega) _, heap_set ((hlow _ (by omega)).trans h.hg) 2 _,
    ⟨(h.ho.ws.stays fun k hk e => (Go.heap_setCell_other z ⟨w.heap.size + 2, 2, none⟩ k _ (by have := (h.ho.ws.blk k e).1; show k ≠ w.heap.size + 2; omega)).trans (hk2 k hk (fun e2 => h.ho.d2 k e e2.symm))), (h.ho.ss.stays fun k hk e => (Go.heap_setCell_other z ⟨w.heap.size + 2, 2, none⟩ k _ (by have := (h.ho.ss.blk k e).1; show k ≠ w.heap.size + 2; omega)).trans (hk2 k hk (fun e2 => h.ho.d3 k e e2.symm))), (hown.set ⟨w.heap.size + 2, 2, none⟩ (by show w.heap.size + 2 < _; omega) _),
    h.ho.d1,
    fun k e e2 => by
      have e3 : gg = k := by simpa [Value.ownBlock] using e2
      subst e3
      rcases hat with h4 | h4
      · exact h.ho.d2 _ e h4
      · have := (h.ho.ws.blk _ e).2; omega,
    fun k e e2 => by
      have e3 : gg = k := by simpa [Value.ownBlock] using e2
      subst e3
      rcases hat with h4 | h4
      · exact h.ho.d3 _ e h4
      · have := (h.ho.ss.blk _ e).2; omega⟩,
    ⟨heap_set_other ((hlow _ (by omega)).trans h.hr.row) ⟨w.heap.size + 2, 2, none⟩ (by show w.heap.size + 1 ≠ w.heap.size + 2; omega) _, h.hr.lo, h.hr.hi⟩, ?_⟩
  exact (h.hb.trans ⟨hos, htp, hop, hsz, fun k hk => hlow k (by omega)⟩).setCell (p := ⟨w.heap.size + 2, 2, none⟩) (by show w.heap.size ≤ w.heap.size + 2; omega) _
/- The class of worlds that the last region goes through. -/
structure CZ (w : World) (s : ByteArray) (q : Int) (bad : Bool) (vw vs vr : Value) (W : List Int) (S : List symE) (R : List refE) (y : World) : Prop where
  hz : ∃ u0 u1 u2, y.heap[w.heap.size]? = some (.cells #[u0, u1, u2] 34 (0, 0))
  hg : y.heap[w.heap.size + 1 + 1]? = some (.cells #[vw, vs, vr] 34 (0, 0))
  hr : y.heap[w.heap.size + 1]? = some (.cells #[.string s, .int .i64 q, .bool bad] 123 (0, 0))
  ho : OwnO y (w.heap.size + 3) vw vs vr W S R
  hb : Below w.heap.size w y
theorem CZ.of {w y : World} {s : ByteArray} {q : Int} {bad : Bool} {vw vs vr : Value} {W : List Int} {S : List symE} {R : List refE} (h : QS w y s q bad vw vs vr W S R) : CZ w s q bad vw vs vr W S R y.drew :=
  ⟨⟨_, _, _, h.hz⟩, h.hg, h.hr.row, ⟨h.ho.ws, h.ho.ss, h.ho.rs, h.ho.d1, h.ho.d2, h.ho.d3⟩, h.hb.drew⟩
theorem CZ.call {w y y' : World} {s : ByteArray} {q : Int} {bad : Bool} {vw vs vr : Value} {W : List Int} {S : List symE} {R : List refE} (h : CZ w s q bad vw vs vr W S R y) (hb : Below y.heap.size y y') : CZ w s q bad vw vs vr W S R y' := by
  obtain ⟨u0, u1, u2, hz⟩ := h.hz
  exact ⟨⟨u0, u1, u2, heap_keep hz hb⟩, heap_keep h.hg hb, heap_keep h.hr hb, h.ho.call hb, below_call h.hb hb⟩
theorem CZ.put {w y : World} {s : ByteArray} {q : Int} {bad : Bool} {vw vs vr : Value} {W : List Int} {S : List symE} {R : List refE} (h : CZ w s q bad vw vs vr W S R y) (x0 x1 x2 : Value) : CZ w s q bad vw vs vr W S R (((y.setCell ⟨w.heap.size, 0, none⟩ x0).setCell ⟨w.heap.size, 1, none⟩ x1).setCell ⟨w.heap.size, 2, none⟩ x2) := by
  obtain ⟨u0, u1, u2, hz⟩ := h.hz
  exact ⟨⟨_, _, _, heap_set (heap_set (heap_set hz 0 x0) 1 x1) 2 x2⟩,
    set_far (by show w.heap.size + 1 + 1 ≠ w.heap.size; omega) (set_far (by show w.heap.size + 1 + 1 ≠ w.heap.size; omega) (set_far (by show w.heap.size + 1 + 1 ≠ w.heap.size; omega) h.hg)),
    set_far (by show w.heap.size + 1 ≠ w.heap.size; omega) (set_far (by show w.heap.size + 1 ≠ w.heap.size; omega) (set_far (by show w.heap.size + 1 ≠ w.heap.size; omega) h.hr)),
    ((h.ho.set ⟨w.heap.size, 0, none⟩ (by show w.heap.size < _; omega) x0).set ⟨w.heap.size, 1, none⟩ (by show w.heap.size < _; omega) x1).set ⟨w.heap.size, 2, none⟩ (by show w.heap.size < _; omega) x2,
    below_set (p := ⟨w.heap.size, 2, none⟩) (Nat.le_refl _) (below_set (p := ⟨w.heap.size, 1, none⟩) (Nat.le_refl _) (below_set (p := ⟨w.heap.size, 0, none⟩) (Nat.le_refl _) h.hb))⟩
theorem CZ.is {w y : World} {s : ByteArray} {q : Int} {bad : Bool} {a b c : Option Addr} {ka kb kc : Nat} {W : List Int} {S : List symE} {R : List refE} (h : CZ w s q bad (.slice a W.length ka) (.slice b S.length kb) (.slice c R.length kc) W S R y) : ObjIs y a b c W S R := by
  obtain ⟨a', b', c', ka', kb', kc', e1, e2, e3, hI⟩ := h.ho.is
  cases e1; cases e2; cases e3
  exact hI
/- Texts that are read are of at most 8000 bytes. -/
theorem many_all {α : Type} {s : ByteArray} {f : Int → Option (α × Int)} {g : α → Prop} (hf : ∀ (q : Int) (a : α) (q2 : Int), 0 ≤ q → q ≤ s.size → f q = some (a, q2) → g a) (ha : advP s f) : ∀ (k : Nat) (q : Int) (L : List α) (r : Int), 0 ≤ q → q ≤ s.size → pMany f k q = some (L, r) → ∀ a ∈ L, g a := by
  intro k
  induction k with
  | zero => intro q L r _ _ h a hm; cases h; cases hm
  | succ k ih =>
    intro q L r h0 h1 h
    unfold pMany at h
    obtain ⟨x, k1, k2⟩ := Option.bind_eq_some_iff.1 h
    obtain ⟨y, k3, k4⟩ := Option.bind_eq_some_iff.1 k2
    obtain ⟨rfl, _⟩ := Prod.mk.inj (Option.some.inj k4)
    have m1 := ha q x.1 x.2 h0 h1 k1
    intro a hm
    rcases List.mem_cons.1 hm with rfl | hm
    · exact hf q _ x.2 h0 h1 k1
    · exact ih x.2 y.1 y.2 (by omega) m1.2 k3 a hm
theorem many_end {α : Type} {s : ByteArray} {f : Int → Option (α × Int)} (ha : advP s f) : ∀ (k : Nat) (q : Int) (L : List α) (r : Int), 0 ≤ q → q ≤ s.size → pMany f k q = some (L, r) → 0 ≤ r ∧ r ≤ s.size := by
  intro k
  induction k with
  | zero => intro q L r h0 h1 h; cases h; exact ⟨h0, h1⟩
  | succ k ih =>
    intro q L r h0 h1 h
    unfold pMany at h
    obtain ⟨x, k1, k2⟩ := Option.bind_eq_some_iff.1 h
    obtain ⟨y, k3, k4⟩ := Option.bind_eq_some_iff.1 k2
    obtain ⟨_, rfl⟩ := Prod.mk.inj (Option.some.inj k4)
    have m1 := ha q x.1 x.2 h0 h1 k1
    exact ih x.2 y.1 y.2 (by omega) m1.2 k3
theorem row_all {α : Type} {s : ByteArray} {f : Int → Option (α × Int)} {g : α → Prop} (hf : ∀ (q : Int) (a : α) (q2 : Int), 0 ≤ q → q ≤ s.size → f q = some (a, q2) → g a) (ha : advP s f) {q : Int} {L : List α} {r : Int} (h0 : 0 ≤ q) (h1 : q ≤ s.size) (h : sRow s f q = some (L, r)) : (∀ a ∈ L, g a) ∧ 0 ≤ r ∧ r ≤ s.size := by
  unfold sRow at h
  obtain ⟨x, k1, k2⟩ := Option.bind_eq_some_iff.1 h
  have m1 := advN s q x.1 x.2 h0 h1 k1
  exact ⟨many_all hf ha _ _ L r (by omega) m1.2 k2, many_end ha _ _ L r (by omega) m1.2 k2⟩
theorem pT_small {s : ByteArray} {q : Int} {t : ByteArray} {q2 : Int} (h0 : 0 ≤ q) (h1 : q ≤ s.size) (h : pT s q = some (t, q2)) : t.size ≤ 8000 := by
  obtain ⟨p, rfl⟩ := Int.eq_ofNat_of_zero_le h0
  exact ((codecT s).can p t q2 (by omega) h).1
theorem sAll_fits {s : ByteArray} {W : List Int} {S : List symE} {R : List refE} {q : Int} (h : sAll s 0 = some ((W, S, R), q)) (h1 : W.length ≤ 8001) (h2 : S.length ≤ 8001) (h3 : R.length ≤ 8001) : ObjFits W S R := by
  unfold sAll seqP at h
  obtain ⟨x, k1, k2⟩ := Option.bind_eq_some_iff.1 h
  obtain ⟨y, k3, k4⟩ := Option.bind_eq_some_iff.1 k2
  obtain ⟨x2, k5, k6⟩ := Option.bind_eq_some_iff.1 k3
  obtain ⟨y2, k7, k8⟩ := Option.bind_eq_some_iff.1 k6
  cases k8
  cases k4
  have m1 := (row_all (g := fun _ => True) (fun _ _ _ _ _ _ => trivial) (advN s) (by omega) (by omega) k1).2
  have m2 := row_all (s := s) (f := sSym s) (g := fun a => a.1.size ≤ 8000) (fun q a q2 h0 h1 he => by
    unfold sSym seqP at he
    obtain ⟨u, l1, l2⟩ := Option.bind_eq_some_iff.1 he
    obtain ⟨v, l3, l4⟩ := Option.bind_eq_some_iff.1 l2
    cases l4
    exact pT_small h0 h1 l1) (advSs s) m1.1 m1.2 k5
  have m3 := row_all (s := s) (f := sRef s) (g := fun a => a.2.1.size ≤ 8000) (fun q a q2 h0 h1 he => by
    unfold sRef seqP at he
    obtain ⟨u, l1, l2⟩ := Option.bind_eq_some_iff.1 he
    obtain ⟨v, l3, l4⟩ := Option.bind_eq_some_iff.1 l2
    obtain ⟨u2, l5, l6⟩ := Option.bind_eq_some_iff.1 l3
    obtain ⟨v2, l7, l8⟩ := Option.bind_eq_some_iff.1 l6
    cases l8
    cases l4
    have n1 := advN s q u.1 u.2 h0 h1 l1
    exact pT_small (by omega) n1.2 l5) (advRs s) m2.2.1 m2.2.2 k7
  refine ⟨by omega, by omega, by omega, fun x hx => ?_, fun x hx => ?_⟩
  · have := m2.1 x hx
    show x.1.size ≤ 1048576
    omega
  · have := m3.1 x hx
    show x.2.1.size ≤ 1048576
    omega
end Go.Proofs.Ytcnjeeckkpiilaa
