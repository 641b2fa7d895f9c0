/- The walk of FnExactStateOf. -/
import Derived.Test.YtnhehdobpibgkaaGreatDoorRows
import Derived.WalkKit
import Derived.WalkSpells
import Derived.WalkLawsBesides
import Derived.Test.YtnhehdobpibgkaaGreatDoorBun0
import Derived.Test.YtnhehdobpibgkaaGreatDoorBun4
import Derived.Test.YtnhehdobpibgkaaGreatDoorStateSZq
import Derived.Test.YtnhehdobpibgkaaGreatDoorBun42
namespace Go.Proofs.YtnhehdobpibgkaaGreatDoor
open Go.RowKit
set_option linter.unusedVariables false

def StV (w : World) : Prop := ErrV w ∧ ∃ te pe, PanV te pe w
theorem stOf_right (g : ByteArray) : rightT (stOf g).1 := by
  unfold stOf
  split
  · exact (start_right g).1
  · exact (stateL_right g).1
set_option maxRecDepth 100000 in
set_option maxHeartbeats 3200000 in
theorem specStateOf_any (g : ByteArray) (w : World) (hs : g.size ≤ maxLen) : Calls Tryz.prog 8 #[.string g] w fun e w' => (∃ v, e = .returned (StR v (stOf g).1 (stOf g).2) ∧ OwnR w' w.heap.size v (stOf g).1.1) ∧ Below w.heap.size w w' := by
  unfold maxLen at hs
  by_cases hbig : 8000 < g.size
  · have HS : Hid (stOf g = (([], ⟨#[]⟩, 0), 0)) := if_pos hbig
    have hbig2 : (8000 : Int) < (g.size : Int) := by omega
    go_enter Tryz.func8, Tryz.ntmps8
    go_wp2
    exact bodyPost_ret (results_cell_row Tryz.results8 _ _ w.heap.size 24 _ (0, 0) _ rfl (heap_alloc_new _ _) Tryz.underlying24 rfl (by kernel_rfl)) rfl ⟨⟨_, by rw [HS.out]; rfl, by rw [HS.out]; exact OwnX.nil _ _⟩, below_new _ _⟩
  · have HS : Hid (stOf g = stateL g) := if_neg hbig
    have hbig2 : ¬ (8000 : Int) < (g.size : Int) := by omega
    go_enter Tryz.func8, Tryz.ntmps8
    go_wp2_with fail
    refine (l08State_any g _ (by omega)).mono ?_
    rintro e x ⟨⟨v, rfl, ho⟩, hb⟩
    have HX : Hid (x.heap[w.heap.size]? = _) := heap_keep (heap_alloc_new w (.cells #[.slice none 0 0, .string ⟨#[]⟩, .int .i64 0, .int .i64 0] 24)) hb
    have HB : Hid (Below w.heap.size w x) := below_call (below_new w _) hb
    have HO : Hid (OwnR x (w.heap.size + 1) v (stateL g).1.1) := OwnX.low ho (by simp)
    obtain ⟨a, cap, rfl, _⟩ := HO.out.rows srcC_len
    obtain ⟨⟨d0, d1, d2, d3⟩, z0, z1, z2, z3⟩ := four_cf HX.out
    obtain ⟨⟨⟨S, im, n⟩, p⟩, hst⟩ : ∃ st, stateL g = st := ⟨_, rfl⟩
    rw [hst] at HS HO ⊢
    have HS2 := HS
    unfold StR
    dsimp only at *
    clear ho hb hst
    go_wp2
    exact bodyPost_ret (results_cell_row Tryz.results8 _ _ w.heap.size 24 _ (0, 0) _ rfl (set_four HX.out) Tryz.underlying24 rfl (by kernel_rfl)) rfl ⟨⟨_, by rw [HS2.out]; rfl, by rw [HS2.out]; exact (own_set (own_set (own_set (own_set HO.out (by omega)) (by omega)) (by omega)) (by omega)).low (by omega)⟩, (((HB.out.setCell (Nat.le_refl _) _).setCell (Nat.le_refl _) _).setCell (Nat.le_refl _) _).setCell (Nat.le_refl _) _⟩
set_option maxRecDepth 100000 in
set_option maxHeartbeats 1600000 in
theorem eqState_any (a b : Option Addr) (L : List Src) (cap cap2 : Nat) (im : ByteArray) (n at_ : Int) (w : World) (hR : RowIs 2 srcC w a L) (hS : RowIs 2 srcC w b L) (hl : L.length ≤ 2000000) :
    Calls Tryz.prog 10 #[.agg #[.slice a L.length cap, .string im, .int .i64 n, .int .i64 at_], .agg #[.slice b L.length cap2, .string im, .int .i64 n, .int .i64 at_]] w fun e w' => e = .returned (.bool true) ∧ Below w.heap.size w w' := by
  have HR : Hid (RowIs 2 srcC w a L) := hR
  have HS : Hid (RowIs 2 srcC w b L) := hS
  have him : (im.toList == im.toList) = true := by simp
  clear hR hS
  go_enter Tryz.func10, Tryz.ntmps10
  go_wp2_with fail
  refine (eqSourceS_any a b L cap cap2 _ ((HR.out.alloc _).alloc _) ((HS.out.alloc _).alloc _) hl).mono ?_
  rintro e x ⟨rfl, hb⟩
  have HB : Hid (Below w.heap.size w x) := below_call (below_more (below_new w _) _) hb
  have h1 := heap_keep (heap_more (heap_alloc_new w (.cells #[.slice a L.length cap, .string im, .int .i64 n, .int .i64 at_] 24)) (.cells #[.slice b L.length cap2, .string im, .int .i64 n, .int .i64 at_] 24)) hb
  have h2 := heap_keep (heap_new2 w (.cells #[.slice a L.length cap, .string im, .int .i64 n, .int .i64 at_] 24) (.cells #[.slice b L.length cap2, .string im, .int .i64 n, .int .i64 at_] 24)) hb
  obtain ⟨⟨c0, c1, c2, c3⟩, _⟩ := four_cf h1
  obtain ⟨⟨d0, d1, d2, d3⟩, _⟩ := four_cf h2
  clear h1 h2 hb
  go_wp2
  go_ret
  exact ⟨rfl, HB.out⟩
set_option maxRecDepth 100000 in
set_option maxHeartbeats 1600000 in
theorem markState_any (v : Value) (B : Nat) (L : List Src) (im : ByteArray) (n at_ : Int) (w : World) (h : OwnR w B v L) (hl : L.length ≤ 100000) :
    Calls Tryz.prog 11 #[.agg #[v, .string im, .int .i64 n, .int .i64 at_], .int .i64 1] w fun e w' => e = .returned (.int .i64 ((1 + 2 * L.length : Nat) : Int)) ∧ OwnR w' B v (srcMarks 1 L.length) ∧ KS v w w' := by
  obtain ⟨a, cap, rfl, _⟩ := h.rows srcC_len
  have HO : Hid (OwnR w B (.slice a L.length cap) L) := h
  clear h
  go_enter Tryz.func11, Tryz.ntmps11
  go_wp2_with fail
  refine (markSourceS_any _ B L 1 _ (HO.out.alloc _) hl (by omega) (by omega)).mono ?_
  rintro e x ⟨rfl, ho, hk⟩
  have HO2 : Hid (OwnR x B _ (srcMarks 1 L.length)) := ho
  have HK : Hid (KS _ w x) := ⟨hk.os, hk.tape, hk.output, Nat.le_trans (by simp) hk.size, fun q hq hne => (hk.block q (by simp; omega) hne).trans (Go.heap_alloc_old w _ hq)⟩
  clear ho hk
  go_wp2
  go_ret
  exact ⟨rfl, HO2.out, HK.out⟩
set_option maxRecDepth 100000 in
set_option maxHeartbeats 1600000 in
theorem heldState_any (v : Value) (B m : Nat) (im : ByteArray) (n at_ : Int) (w : World) (h : OwnR w B v (srcMarks 1 m)) (hl : m ≤ 100000) :
    Calls Tryz.prog 12 #[.agg #[v, .string im, .int .i64 n, .int .i64 at_], .int .i64 1] w fun e w' => e = .returned (.int .i64 ((1 + 2 * m : Nat) : Int)) ∧ Below w.heap.size w w' := by
  obtain ⟨a, cap, rfl, _⟩ := h.rows srcC_len
  have HO : Hid (OwnR w B _ (srcMarks 1 m)) := h
  clear h
  go_enter Tryz.func12, Tryz.ntmps12
  go_wp2_with fail
  refine (heldSourceS_any _ B m 1 _ (HO.out.alloc _) hl (by omega) (by omega)).mono ?_
  rintro e x ⟨rfl, hb⟩
  have hm0 : ¬ ((1 + 2 * m : Nat) : Int) < 0 := by omega
  have HB : Hid (Below w.heap.size w x) := below_call (below_new w _) hb
  clear hb
  go_wp2
  go_ret
  exact ⟨rfl, HB.out⟩
theorem markState_is {M : Int} (v : Value) (B : Nat) (L : List Src) (im : ByteArray) (n at_ : Int) (w : World) (hM : ((1 + 2 * L.length : Nat) : Int) = M) (h : OwnR w B v L) (hl : L.length ≤ 100000) :
    Calls Tryz.prog 11 #[.agg #[v, .string im, .int .i64 n, .int .i64 at_], .int .i64 1] w fun e w' => e = .returned (.int .i64 M) ∧ OwnR w' B v (srcMarks 1 L.length) ∧ KS v w w' := by
  subst hM; exact markState_any v B L im n at_ w h hl
theorem heldState_is {M : Int} (v : Value) (B m : Nat) (im : ByteArray) (n at_ : Int) (w : World) (hM : ((1 + 2 * m : Nat) : Int) = M) (h : OwnR w B v (srcMarks 1 m)) (hl : m ≤ 100000) :
    Calls Tryz.prog 12 #[.agg #[v, .string im, .int .i64 n, .int .i64 at_], .int .i64 1] w fun e w' => e = .returned (.int .i64 M) ∧ Below w.heap.size w w' := by
  subst hM; exact heldState_any v B m im n at_ w h hl
theorem KS.keep {v : Value} {w w' : World} {q : Nat} {o : Obj} (h : KS v w w') (hq : w.heap[q]? = some o) (hne : v.ownBlock ≠ some q) : w'.heap[q]? = some o := (h.block q (heap_lt hq) hne).trans hq
theorem KS.below {v : Value} {B : Nat} {W w w' : World} (hb : Below B W w) (h : KS v w w') (hB : ∀ q, v.ownBlock = some q → B ≤ q) (hs : B ≤ w.heap.size) : Below B W w' :=
  ⟨h.os.trans hb.os, h.tape.trans hb.tape, h.output.trans hb.output, Nat.le_trans hb.size h.size, fun k hk => (h.block k (by omega) (fun e => by have := hB k e; omega)).trans (hb.block k hk)⟩
theorem ErrV.ks {v : Value} {w w' : World} (h : ErrV w) (hk : KS v w w') (hne : v.ownBlock ≠ some 1) : ErrV w' := by
  obtain ⟨te, pe, h⟩ := h
  refine ⟨te, pe, ?_⟩
  have hlt := World.block_lt_of_cell? _ _ h
  have hbk := hk.block 1 hlt hne
  unfold World.cell? at h ⊢
  simp only at h ⊢
  rw [hbk]
  exact h
theorem PanV.ks {v : Value} {te : TypeId} {pe : Value} {w w' : World} (h : PanV te pe w) (hk : KS v w w') (hne : v.ownBlock ≠ some 0) : PanV te pe w' := by
  have hlt := h.lt
  have hbk := hk.block 0 hlt hne
  unfold PanV World.cell? at h ⊢
  simp only at h ⊢
  rw [hbk]
  exact h
theorem RowIs.ks {v : Value} {α : Type} {n : Nat} {c : α → List Value} {w w' : World} {a : Option Addr} {L : List α} (h : RowIs n c w a L) (hk : KS v w w') (hne : ∀ x, a = some x → v.ownBlock ≠ some x.block) : RowIs n c w' a L := fun hl => by
  obtain ⟨x, rfl, hb, hc⟩ := h hl
  refine ⟨x, rfl, Nat.lt_of_lt_of_le hb hk.size, fun i hi j u hu => ?_⟩
  have h1 := hc i hi j u hu
  have hbk := hk.block x.block hb (hne x rfl)
  have e : (x.add (i * n + j)).block = x.block := add_blockX x _
  unfold World.cell? at h1 ⊢
  rw [e] at h1 ⊢
  rw [hbk]
  exact h1
theorem own_far {w : World} {B B2 : Nat} {v : Value} {L : List Src} (h : OwnR w B v L) (hlt : ∀ q, v.ownBlock = some q → q < B2) {v2 : Value} {w2 : World} {L2 : List Src} (h2 : OwnR w2 B2 v2 L2) : ∀ q, v.ownBlock = some q → v2.ownBlock ≠ some q := fun q hq e => by
  have a1 := hlt q hq
  have a2 := (h2.blk q e).1
  omega
set_option maxRecDepth 100000 in
set_option maxHeartbeats 3200000 in
theorem lawStateOf_walk (g : ByteArray) (w : World) (hs : g.size ≤ maxLen) (hT : StV w) :
    Calls Tryz.prog 3 #[.string g] w fun e w' => e = .returned (.bool true) ∧ Below w.heap.size w w' := by
  obtain ⟨hE, te, pe, hP⟩ := hT
  have HE : Hid (ErrV w) := hE
  have HP : Hid (PanV te pe w) := hP
  have HS : Hid (g.size ≤ maxLen) := hs
  have hgE : 1 < w.heap.size := by obtain ⟨_, _, h⟩ := hE; exact World.block_lt_of_cell? _ _ h
  have hgP : 0 < w.heap.size := hP.lt
  unfold maxLen at hs
  clear hE hP
  by_cases hbig : 1048576 < g.size
  · have hb' : (1048576 : Int) < (g.size : Int) := by omega
    go_enter Tryz.func3, Tryz.ntmps3
    go_wp2
    go_ret
    exact ⟨rfl, Below.refl _ _⟩
  · have hb' : ¬ (1048576 : Int) < (g.size : Int) := by omega
    obtain ⟨⟨⟨S, im, n⟩, p⟩, hst⟩ : ∃ st, stOf g = st := ⟨_, rfl⟩
    have HST : Hid (stOf g = ((S, im, n), p)) := hst
    have hSl : S.length ≤ 20 := by have := (stOf_right g).2.1; rw [hst] at this; exact this
    obtain ⟨M, hM⟩ : ∃ M : Int, ((1 + 2 * S.length : Nat) : Int) = M := ⟨_, rfl⟩
    have HMM : Hid (((1 + 2 * S.length : Nat) : Int) = M) := hM
    have hm0 : ¬ M < 0 := by omega
    clear hst hM
    go_enter Tryz.func3, Tryz.ntmps3
    go_wp2_with fail
    refine (specStateOf_any g _ HS.out).mono ?_
    rintro e x1 ⟨⟨v1, rfl, ho⟩, hb⟩
    rw [HST.out] at ho ⊢
    obtain ⟨a1, k1, rfl, _⟩ := ho.rows srcC_len
    have HO1 : Hid (OwnR x1 w.heap.size (.slice a1 S.length k1) S) := ho
    have HB1 : Hid (Below w.heap.size w x1) := hb
    have HW1 : Hid ((x1.alloc (.cells #[.slice a1 S.length k1, .string im, .int .i64 (n : Int), .int .i64 (p : Int)] 24)).heap[x1.heap.size]? = _) := heap_alloc_new x1 _
    have hz1 := hb.size
    unfold StR
    dsimp only
    clear hb ho
    go_wp2_with fail
    refine (implStateOf_any te pe g _ HS.out ((HP.out.below HB1.out).alloc _) ((HE.out.below HB1.out).alloc _)).mono ?_
    rintro e x2 ⟨⟨v2, rfl, ho⟩, hb⟩
    rw [HST.out] at ho ⊢
    obtain ⟨a2, k2, rfl, _⟩ := ho.rows srcC_len
    have HO2 : Hid (OwnR x2 (x1.heap.size + 1) (.slice a2 S.length k2) S) := OwnX.low ho (by simp)
    have HB2 : Hid (Below w.heap.size w x2) := below_call (below_more HB1.out _) hb
    have HX1 : Hid (OwnR x2 w.heap.size (.slice a1 S.length k1) S) := (OwnX.alloc HO1.out _).call hb
    have HW2 : Hid (x2.heap[x1.heap.size]? = _) := heap_keep HW1.out hb
    have HV2 : Hid ((x2.alloc (.cells #[.slice a2 S.length k2, .string im, .int .i64 (n : Int), .int .i64 (p : Int)] 24)).heap[x2.heap.size]? = _) := heap_alloc_new x2 _
    have HFR : Hid (∀ q, (Value.slice a1 S.length k1).ownBlock = some q → q < x1.heap.size) := fun q hq => (HO1.out.blk q hq).2
    have hz2 : x1.heap.size < x2.heap.size := by have h := hb.size; simp at h; omega
    unfold StR
    dsimp only
    obtain ⟨⟨c0, c1, c2, c3⟩, _⟩ := four_cf HW2.out
    clear hb ho
    go_wp2_with fail
    obtain ⟨r1, _, e1, hr1, _⟩ := HX1.out.rows srcC_len
    obtain ⟨r2, _, e2, hr2, _⟩ := HO2.out.rows srcC_len
    cases e1
    cases e2
    refine (eqState_any a2 a1 S k2 k1 im n p _ (hr2.alloc _) (hr1.alloc _) (by omega)).mono ?_
    rintro e x3 ⟨rfl, hb⟩
    have HB3 : Hid (Below w.heap.size w x3) := below_call (below_more HB2.out _) hb
    have HV3 : Hid (x3.heap[x2.heap.size]? = _) := heap_keep HV2.out hb
    have HW3 : Hid (x3.heap[x1.heap.size]? = _) := heap_keep (heap_more HW2.out _) hb
    have HX3 : Hid (OwnR x3 w.heap.size (.slice a1 S.length k1) S) := (OwnX.alloc HX1.out _).call hb
    have HO3 : Hid (OwnR x3 (x1.heap.size + 1) (.slice a2 S.length k2) S) := (OwnX.alloc HO2.out _).call hb
    obtain ⟨⟨d0, d1, d2, d3⟩, _⟩ := four_cf HV3.out
    have hz3 : x2.heap.size < x3.heap.size := heap_lt HV3.out
    clear hb hr1 hr2 c0 c1 c2 c3
    go_wp2_with fail
    refine (markState_is _ (x1.heap.size + 1) S im n p _ HMM.out HO3.out (by omega)).mono ?_
    rintro e x4 ⟨rfl, ho, hk⟩
    have hno : ∀ q, q ≤ x1.heap.size → (Value.slice a2 S.length k2).ownBlock ≠ some q := fun q hq e => by have := (HO3.out.blk q e).1; omega
    have hn2 : (Value.slice a2 S.length k2).ownBlock ≠ some x2.heap.size := fun e => by
      have := (HO2.out.blk _ e).2
      omega
    have HO4 : Hid (OwnR x4 (x1.heap.size + 1) (.slice a2 S.length k2) (srcMarks 1 S.length)) := ho
    have HV4 : Hid (x4.heap[x2.heap.size]? = _) := hk.keep HV3.out hn2
    have HW4 : Hid (x4.heap[x1.heap.size]? = _) := hk.keep HW3.out (hno _ (Nat.le_refl _))
    have HX4 : Hid (RowIs 2 srcC x4 a1 S) := by
      obtain ⟨r1, _, e1, hr1, _⟩ := HX3.out.rows srcC_len
      cases e1
      refine hr1.ks hk (fun y hy => hno _ ?_)
      have : y.block < x1.heap.size := HFR.out _ (by rw [hy]; rfl)
      omega
    have HB4 : Hid (Below w.heap.size w x4) := KS.below HB3.out hk (fun q hq => by have := (HO3.out.blk q hq).1; omega) (by omega)
    have HE4 : Hid (ErrV x4) := (HE.out.below HB3.out).ks hk (hno _ (by omega))
    have HP4 : Hid (PanV te pe x4) := (HP.out.below HB3.out).ks hk (hno _ (by omega))
    obtain ⟨⟨e0, e1, e2, e3⟩, _⟩ := four_cf HV4.out
    have hz4 := hk.size
    clear hk ho hno hn2 d0 d1 d2 d3
    go_wp2_with fail
    refine (heldState_is _ (x1.heap.size + 1) S.length im n p _ HMM.out HO4.out (by omega)).mono ?_
    rintro e x5 ⟨rfl, hb⟩
    have HO5 : Hid (OwnR x5 (x1.heap.size + 1) (.slice a2 S.length k2) (srcMarks 1 S.length)) := HO4.out.call hb
    have HV5 : Hid (x5.heap[x2.heap.size]? = _) := heap_keep HV4.out hb
    have HW5 : Hid (x5.heap[x1.heap.size]? = _) := heap_keep HW4.out hb
    have HX5 : Hid (RowIs 2 srcC x5 a1 S) := HX4.out.below hb
    have HB5 : Hid (Below w.heap.size w x5) := below_call HB4.out hb
    have HE5 : Hid (ErrV x5) := HE4.out.below hb
    have HP5 : Hid (PanV te pe x5) := HP4.out.below hb
    clear hb e0 e1 e2 e3
    go_wp2_with fail
    refine (implStateOf_any te pe g _ HS.out HP5.out HE5.out).mono ?_
    rintro e x6 ⟨⟨v6, rfl, ho⟩, hb⟩
    rw [HST.out] at ho ⊢
    obtain ⟨a6, k6, rfl, hr6, _⟩ := ho.rows srcC_len
    have HR6 : Hid (RowIs 2 srcC x6 a6 S) := hr6
    have HO6 : Hid (OwnR x6 (x1.heap.size + 1) (.slice a2 S.length k2) (srcMarks 1 S.length)) := HO5.out.call hb
    have HV6 : Hid (x6.heap[x2.heap.size]? = _) := heap_keep HV5.out hb
    have HW6 : Hid (x6.heap[x1.heap.size]? = _) := heap_keep HW5.out hb
    have HX6 : Hid (RowIs 2 srcC x6 a1 S) := HX5.out.below hb
    have HB6 : Hid (Below w.heap.size w x6) := below_call HB5.out hb
    obtain ⟨⟨c0, c1, c2, c3⟩, _⟩ := four_cf HW6.out
    have hz6 : x2.heap.size < x6.heap.size := heap_lt HV6.out
    have hz7 : x1.heap.size < x6.heap.size := heap_lt HW6.out
    unfold StR
    dsimp only
    clear hb ho hr6
    go_wp2_with fail
    refine (eqState_any a6 a1 S k6 k1 im n p _ (HR6.out.alloc _) (HX6.out.alloc _) (by omega)).mono ?_
    rintro e x7 ⟨rfl, hb⟩
    have HB7 : Hid (Below w.heap.size w x7) := below_call (below_more HB6.out _) hb
    have HV7 : Hid (x7.heap[x2.heap.size]? = _) := heap_keep (heap_more HV6.out _) hb
    have HO7 : Hid (OwnR x7 (x1.heap.size + 1) (.slice a2 S.length k2) (srcMarks 1 S.length)) := (OwnX.alloc HO6.out _).call hb
    obtain ⟨⟨d0, d1, d2, d3⟩, _⟩ := four_cf HV7.out
    clear hb c0 c1 c2 c3
    go_wp2_with fail
    refine (heldState_is _ (x1.heap.size + 1) S.length im n p _ HMM.out HO7.out (by omega)).mono ?_
    rintro e x8 ⟨rfl, hb⟩
    have HB8 : Hid (Below w.heap.size w x8) := below_call HB7.out hb
    clear hb
    go_wp2
    go_ret
    exact ⟨rfl, HB8.out⟩
end Go.Proofs.YtnhehdobpibgkaaGreatDoor
