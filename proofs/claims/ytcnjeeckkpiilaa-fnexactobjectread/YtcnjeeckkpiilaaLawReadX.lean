/- The walk of the law on ObjectRead. -/
import Derived.Test.YtcnjeeckkpiilaaRows
import Derived.WalkKit
import Derived.WalkSpells
import Derived.WalkLawsBesides
import Derived.Outline
import Derived.Test.YtcnjeeckkpiilaaBun0
import Derived.Test.YtcnjeeckkpiilaaBun1
import Derived.Test.YtcnjeeckkpiilaaReadOX
import Derived.Test.YtcnjeeckkpiilaaReadXX
import Derived.Test.YtcnjeeckkpiilaaEqReadX
namespace Go.Proofs.Ytcnjeeckkpiilaa
open Go.RowKit
set_option linter.unusedVariables false

theorem row_len {α : Type} (enc : α → List UInt8) (L : List α) (h : ∀ a ∈ L, 1 ≤ (enc a).length) : L.length ≤ (rowL enc L).length := by
  have : L.length ≤ (L.flatMap enc).length := by
    induction L with
    | nil => simp
    | cons a L ih =>
      have := h a (List.mem_cons_self ..)
      have := ih (fun b hb => h b (List.mem_cons_of_mem _ hb))
      rw [List.flatMap_cons, List.length_append, List.length_cons]; omega
  unfold rowL
  rw [List.length_append]
  omega
theorem out_len (s : ByteArray) : (outP s).2.1.length ≤ 8001 ∧ (outP s).2.2.1.length ≤ 8001 ∧ (outP s).2.2.2.length ≤ 8001 := by
  unfold outP
  by_cases h8 : 8000 < s.size
  · rw [if_pos h8]; simp [nilO]
  · rw [if_neg h8]
    cases hP : pAll s 0 with
    | none => simp [pickP, nilO]
    | some x =>
      obtain ⟨o, q⟩ := x
      unfold pickP
      dsimp only
      split
      · obtain ⟨_, _, hd⟩ := (codecAll s).can 0 o q (by omega) hP
        have h1 := (drop_fits (by omega) hd).1
        have hs1 : ∀ x : symE, 1 ≤ (symL x).length := fun x => by
          have := numL_pos x.2.1
          unfold symL; rw [List.length_append, List.length_append]; omega
        have hr1 : ∀ x : refE, 1 ≤ (refL x).length := fun x => by
          have := numL_pos x.1
          unfold refL; rw [List.length_append]; omega
        have m1 := row_len numL o.1 (fun a _ => numL_pos a)
        have m2 := row_len symL o.2.1 (fun a _ => hs1 a)
        have m3 := row_len refL o.2.2 (fun a _ => hr1 a)
        unfold allL at h1
        rw [List.length_append, List.length_append] at h1
        dsimp only
        omega
      · simp [nilO]
set_option maxRecDepth 100000 in
set_option maxHeartbeats 1600000 in
theorem markObjectOut_any (W : List Int) (S : List symE) (R : List refE) (n : Int) (a b c : Option Addr) (ka kb kc B : Nat) (w : World) (h1 : OwnO w B (.slice a W.length ka) (.slice b S.length kb) (.slice c R.length kc) W S R) (hB : B ≤ w.heap.size) (l1 : W.length ≤ 8001) (l2 : S.length ≤ 8001) (l3 : R.length ≤ 8001) :
    Calls Try.prog 17 #[.agg #[.slice a W.length ka, .slice b S.length kb, .slice c R.length kc, .string ⟨#[]⟩, .int .i64 0, .int .i64 n], .int .i64 1] w fun e w' => e = .returned (.int .i64 (markSum W S R : Nat)) ∧ OwnO w' B (.slice a W.length ka) (.slice b S.length kb) (.slice c R.length kc) (objMarks W S R).1 (objMarks W S R).2.1 (objMarks W S R).2.2 ∧ Below B w w' ∧ (∀ q, q < w.heap.size → (Value.slice a W.length ka).ownBlock ≠ some q → (Value.slice b S.length kb).ownBlock ≠ some q → (Value.slice c R.length kc).ownBlock ≠ some q → w'.heap[q]? = w.heap[q]?) := by
  have H0 : Hid (OwnO w B (.slice a W.length ka) (.slice b S.length kb) (.slice c R.length kc) W S R) := h1
  clear h1
  go_enter Try.func17, Try.ntmps17
  go_wp2_with fail
  refine (markObject_any W S R _ _ _ a b c ka kb kc B _ rfl rfl rfl (H0.out.call (below_new w (.cells #[.slice a W.length ka, .slice b S.length kb, .slice c R.length kc, .string ⟨#[]⟩, .int .i64 0, .int .i64 n] 39))) (by simp; omega) l1 l2 l3).mono ?_
  rintro e x ⟨rfl, hO, hb, hk⟩
  have HO : Hid (OwnO _ _ _ _ _ _ _ _) := hO
  have HB : Hid (Below B w x) := ((below_new w (.cells #[.slice a W.length ka, .slice b S.length kb, .slice c R.length kc, .string ⟨#[]⟩, .int .i64 0, .int .i64 n] 39)).mono hB).trans hb
  have HK : Hid (∀ q, q < w.heap.size → (Value.slice a W.length ka).ownBlock ≠ some q → (Value.slice b S.length kb).ownBlock ≠ some q → (Value.slice c R.length kc).ownBlock ≠ some q → x.heap[q]? = w.heap[q]?) := fun q hq n1 n2 n3 => (hk q (by simp; omega) n1 n2 n3).trans (Go.heap_alloc_old w _ hq)
  clear hO hb hk
  go_wp2
  go_ret
  exact ⟨rfl, HO.out, HB.out, HK.out⟩
set_option maxRecDepth 100000 in
set_option maxHeartbeats 1600000 in
theorem heldObjectOut_any (W : List Int) (S : List symE) (R : List refE) (n : Int) (a b c : Option Addr) (ka kb kc B : Nat) (w : World) (h1 : OwnO w B (.slice a W.length ka) (.slice b S.length kb) (.slice c R.length kc) (objMarks W S R).1 (objMarks W S R).2.1 (objMarks W S R).2.2) (l1 : W.length ≤ 8001) (l2 : S.length ≤ 8001) (l3 : R.length ≤ 8001) :
    Calls Try.prog 18 #[.agg #[.slice a W.length ka, .slice b S.length kb, .slice c R.length kc, .string ⟨#[]⟩, .int .i64 0, .int .i64 n], .int .i64 1] w fun e w' => e = .returned (.int .i64 (markSum W S R : Nat)) ∧ Below w.heap.size w w' := by
  have H0 : Hid (OwnO w B (.slice a W.length ka) (.slice b S.length kb) (.slice c R.length kc) (objMarks W S R).1 (objMarks W S R).2.1 (objMarks W S R).2.2) := h1
  have HB0 : Hid (Below w.heap.size w _) := below_new w (.cells #[.slice a W.length ka, .slice b S.length kb, .slice c R.length kc, .string ⟨#[]⟩, .int .i64 0, .int .i64 n] 39)
  clear h1
  go_enter Try.func18, Try.ntmps18
  go_wp2_with fail
  refine (heldObject_any W S R a b c ka kb kc B _ (H0.out.call HB0.out) l1 l2 l3).mono ?_
  rintro e x ⟨rfl, hb⟩
  have HB : Hid (Below w.heap.size w x) := below_call HB0.out hb
  clear hb
  go_wp2
  go_ret
  exact ⟨rfl, HB.out⟩
def outC (a b c : Option Addr) (ka kb kc : Nat) (W : List Int) (S : List symE) (R : List refE) (n : Int) : Array Value := #[.slice a W.length ka, .slice b S.length kb, .slice c R.length kc, .string ⟨#[]⟩, .int .i64 0, .int .i64 n]
set_option maxRecDepth 100000 in
set_option maxHeartbeats 3200000 in
theorem lawRead_walk (s : ByteArray) (w : World) (hs : s.size ≤ maxLen) : Calls Try.prog 5 #[.string s] w fun e w' => e = .returned (.bool true) ∧ Below w.heap.size w w' := by
  have hm := hs
  unfold maxLen at hm
  by_cases hbig : 1048576 < s.size
  · have hb' : (1048576 : Int) < (s.size : Int) := by omega
    go_enter Try.func5, Try.ntmps5
    go_wp2
    go_ret
    exact ⟨rfl, Below.refl _ _⟩
  have hs' : ¬ (1048576 : Int) < (s.size : Int) := by omega
  have hsp := fun w => specRead_any s w hs
  rw [← out_PS s] at hsp
  obtain ⟨l1, l2, l3⟩ := out_len s
  have him := fun w => implRead_any s w hs
  obtain ⟨n, W, S, R, he⟩ : ∃ n W S R, outP s = (n, W, S, R) := ⟨_, _, _, _, rfl⟩
  rw [he] at hsp him l1 l2 l3
  dsimp only at l1 l2 l3
  have HSP : Hid (∀ w, Calls Try.prog 14 #[.string s] w (ReadRes s w (n, W, S, R))) := hsp
  have HIM : Hid (∀ w, Calls Try.prog 15 #[.string s] w (ReadRes s w (n, W, S, R))) := him
  clear hsp him he hm
  go_enter Try.func5, Try.ntmps5
  go_wp2_with fail
  refine (HSP.out _).mono ?_
  rintro e x1 ⟨vw, vs, vr, rfl, hO, hF, hb⟩
  obtain ⟨a, b, c, ka, kb, kc, rfl, rfl, rfl, _⟩ := hO.is
  dsimp only at hO hF ⊢
  have HF : Hid (ObjFits W S R) := hF
  have HA1 : Hid (OwnO (x1.alloc (.cells #[.slice a W.length ka, .slice b S.length kb, .slice c R.length kc, .string ⟨#[]⟩, .int .i64 0, .int .i64 n] 39)) (w.heap.size + 1) (.slice a W.length ka) (.slice b S.length kb) (.slice c R.length kc) W S R) := hO.call (below_new _ _)
  have HX1 : Hid ((x1.alloc (.cells #[.slice a W.length ka, .slice b S.length kb, .slice c R.length kc, .string ⟨#[]⟩, .int .i64 0, .int .i64 n] 39)).heap[x1.heap.size]? = some (.cells #[.slice a W.length ka, .slice b S.length kb, .slice c R.length kc, .string ⟨#[]⟩, .int .i64 0, .int .i64 n] 39 (0, 0))) := heap_alloc_new _ _
  have HB1 : Hid (Below w.heap.size w (x1.alloc (.cells #[.slice a W.length ka, .slice b S.length kb, .slice c R.length kc, .string ⟨#[]⟩, .int .i64 0, .int .i64 n] 39))) := below_more hb _
  have hy1 : (x1.alloc (.cells #[.slice a W.length ka, .slice b S.length kb, .slice c R.length kc, .string ⟨#[]⟩, .int .i64 0, .int .i64 n] 39)).heap.size = x1.heap.size + 1 := by simp
  have hx1 : w.heap.size ≤ x1.heap.size := hb.size
  have HBA : Hid (∀ q, ((Value.slice a W.length ka).ownBlock = some q ∨ (Value.slice b S.length kb).ownBlock = some q ∨ (Value.slice c R.length kc).ownBlock = some q) → q < x1.heap.size) := fun q h => by
    rcases h with h | h | h
    · exact (hO.ws.blk q h).2
    · exact (hO.ss.blk q h).2
    · exact (hO.rs.blk q h).2
  clear hO hF hb
  go_wp2_with fail
  generalize x1.alloc (.cells #[.slice a W.length ka, .slice b S.length kb, .slice c R.length kc, .string ⟨#[]⟩, .int .i64 0, .int .i64 n] 39) = y1 at *
  refine (HIM.out _).mono ?_
  rintro e x2 ⟨vw, vs, vr, rfl, hO, hF, hb⟩
  obtain ⟨a2, b2, c2, ka2, kb2, kc2, rfl, rfl, rfl, _⟩ := hO.is
  dsimp only at hO hF ⊢
  have HA2 : Hid (OwnO (x2.alloc (.cells #[.slice a2 W.length ka2, .slice b2 S.length kb2, .slice c2 R.length kc2, .string ⟨#[]⟩, .int .i64 0, .int .i64 n] 39)) (w.heap.size + 1) (.slice a W.length ka) (.slice b S.length kb) (.slice c R.length kc) W S R) := (HA1.out.call hb).call (below_new _ _)
  have HX2 : Hid ((x2.alloc (.cells #[.slice a2 W.length ka2, .slice b2 S.length kb2, .slice c2 R.length kc2, .string ⟨#[]⟩, .int .i64 0, .int .i64 n] 39)).heap[x1.heap.size]? = some (.cells #[.slice a W.length ka, .slice b S.length kb, .slice c R.length kc, .string ⟨#[]⟩, .int .i64 0, .int .i64 n] 39 (0, 0))) := heap_more (heap_keep HX1.out hb) _
  have HG2 : Hid (OwnO (x2.alloc (.cells #[.slice a2 W.length ka2, .slice b2 S.length kb2, .slice c2 R.length kc2, .string ⟨#[]⟩, .int .i64 0, .int .i64 n] 39)) (y1.heap.size + 1) (.slice a2 W.length ka2) (.slice b2 S.length kb2) (.slice c2 R.length kc2) W S R) := hO.call (below_new _ _)
  have HY2 : Hid ((x2.alloc (.cells #[.slice a2 W.length ka2, .slice b2 S.length kb2, .slice c2 R.length kc2, .string ⟨#[]⟩, .int .i64 0, .int .i64 n] 39)).heap[x2.heap.size]? = some (.cells #[.slice a2 W.length ka2, .slice b2 S.length kb2, .slice c2 R.length kc2, .string ⟨#[]⟩, .int .i64 0, .int .i64 n] 39 (0, 0))) := heap_alloc_new _ _
  have HB2 : Hid (Below w.heap.size w (x2.alloc (.cells #[.slice a2 W.length ka2, .slice b2 S.length kb2, .slice c2 R.length kc2, .string ⟨#[]⟩, .int .i64 0, .int .i64 n] 39))) := below_more (below_call HB1.out hb) _
  have hy2 : (x2.alloc (.cells #[.slice a2 W.length ka2, .slice b2 S.length kb2, .slice c2 R.length kc2, .string ⟨#[]⟩, .int .i64 0, .int .i64 n] 39)).heap.size = x2.heap.size + 1 := by simp
  have hx2 : y1.heap.size ≤ x2.heap.size := hb.size
  have HBK : Hid (∀ q, ((Value.slice a2 W.length ka2).ownBlock = some q ∨ (Value.slice b2 S.length kb2).ownBlock = some q ∨ (Value.slice c2 R.length kc2).ownBlock = some q) → y1.heap.size + 1 ≤ q ∧ q < x2.heap.size) := fun q h => by
    rcases h with h | h | h
    · exact hO.ws.blk q h
    · exact hO.ss.blk q h
    · exact hO.rs.blk q h
  clear hO hF hb HA1 HX1 HB1
  obtain ⟨c0, c1, c2', c3, c4, c5⟩ := cells6L HX2.out
  obtain ⟨d0, d1, d2, d3, d4, d5⟩ := cells6L HY2.out
  go_wp2_with fail
  generalize x2.alloc (.cells #[.slice a2 W.length ka2, .slice b2 S.length kb2, .slice c2 R.length kc2, .string ⟨#[]⟩, .int .i64 0, .int .i64 n] 39) = y2 at *
  refine (eqObjectOut_any W S R n a2 b2 c2 a b c ka2 kb2 kc2 ka kb kc _ _ _ HG2.out HA2.out HF.out).mono ?_
  rintro e x3 ⟨rfl, hb⟩
  have HA3 : Hid (OwnO x3 (w.heap.size + 1) (.slice a W.length ka) (.slice b S.length kb) (.slice c R.length kc) W S R) := HA2.out.call hb
  have HG3 : Hid (OwnO x3 (y1.heap.size + 1) (.slice a2 W.length ka2) (.slice b2 S.length kb2) (.slice c2 R.length kc2) W S R) := HG2.out.call hb
  have HX3 : Hid (x3.heap[x1.heap.size]? = _) := heap_keep HX2.out hb
  have HY3 : Hid (x3.heap[x2.heap.size]? = _) := heap_keep HY2.out hb
  have HB3 : Hid (Below w.heap.size w x3) := below_call HB2.out hb
  have hx3 := hb.size
  clear hb HA2 HG2 HX2 HY2 HB2 c0 c1 c2' c3 c4 c5 d0 d1 d2 d3 d4 d5
  obtain ⟨d0, d1, d2, d3, d4, d5⟩ := cells6L HY3.out
  go_wp2_with fail
  refine (markObjectOut_any W S R n a2 b2 c2 ka2 kb2 kc2 (y1.heap.size + 1) x3 HG3.out (by omega) l1 l2 l3).mono ?_
  rintro e x4 ⟨rfl, hO, hb, hk⟩
  have HG4 : Hid (OwnO x4 (y1.heap.size + 1) (.slice a2 W.length ka2) (.slice b2 S.length kb2) (.slice c2 R.length kc2) (objMarks W S R).1 (objMarks W S R).2.1 (objMarks W S R).2.2) := hO
  have hlow : ∀ q, q < y1.heap.size + 1 → x4.heap[q]? = x3.heap[q]? := fun q hq => hb.block q hq
  have HA4 : Hid (OwnO x4 (w.heap.size + 1) (.slice a W.length ka) (.slice b S.length kb) (.slice c R.length kc) W S R) := ⟨HA3.out.ws.stays fun q _ e => hlow q (by have := HBA.out q (.inl e); omega), HA3.out.ss.stays fun q _ e => hlow q (by have := HBA.out q (.inr (.inl e)); omega), HA3.out.rs.stays fun q _ e => hlow q (by have := HBA.out q (.inr (.inr e)); omega), HA3.out.d1, HA3.out.d2, HA3.out.d3⟩
  have HX4 : Hid (x4.heap[x1.heap.size]? = _) := (hlow _ (by omega)).trans HX3.out
  have HY4 : Hid (x4.heap[x2.heap.size]? = _) := (hk _ (by omega) (fun e => by have := (HBK.out _ (.inl e)).2; omega) (fun e => by have := (HBK.out _ (.inr (.inl e))).2; omega) (fun e => by have := (HBK.out _ (.inr (.inr e))).2; omega)).trans HY3.out
  have HB4 : Hid (Below w.heap.size w x4) := HB3.out.trans (hb.mono (by omega))
  have hx4 := hb.size
  clear hO hb hk hlow HA3 HG3 HX3 HY3 HB3 d0 d1 d2 d3 d4 d5
  obtain ⟨d0, d1, d2, d3, d4, d5⟩ := cells6L HY4.out
  go_wp2_with fail
  refine (heldObjectOut_any W S R n a2 b2 c2 ka2 kb2 kc2 _ x4 HG4.out l1 l2 l3).mono ?_
  rintro e x5 ⟨rfl, hb⟩
  have HG5 : Hid (OwnO x5 (y1.heap.size + 1) (.slice a2 W.length ka2) (.slice b2 S.length kb2) (.slice c2 R.length kc2) (objMarks W S R).1 (objMarks W S R).2.1 (objMarks W S R).2.2) := HG4.out.call hb
  have HA5 : Hid (OwnO x5 (w.heap.size + 1) (.slice a W.length ka) (.slice b S.length kb) (.slice c R.length kc) W S R) := HA4.out.call hb
  have HX5 : Hid (x5.heap[x1.heap.size]? = _) := heap_keep HX4.out hb
  have HY5 : Hid (x5.heap[x2.heap.size]? = _) := heap_keep HY4.out hb
  have HB5 : Hid (Below w.heap.size w x5) := below_call HB4.out hb
  clear hb HA4 HG4 HX4 HY4 HB4 d0 d1 d2 d3 d4 d5
  have hmp : ¬ ((markSum W S R : Nat) : Int) < 0 := by omega
  have hmm : (((markSum W S R : Nat) : Int) != ((markSum W S R : Nat) : Int)) = false := by simp
  go_wp2_with fail
  refine (HIM.out _).mono ?_
  rintro e x6 ⟨vw, vs, vr, rfl, hO, hF, hb⟩
  obtain ⟨a3, b3, c3, ka3, kb3, kc3, rfl, rfl, rfl, _⟩ := hO.is
  dsimp only at hO hF ⊢
  have HX6 : Hid ((x6.alloc (.cells #[.slice a3 W.length ka3, .slice b3 S.length kb3, .slice c3 R.length kc3, .string ⟨#[]⟩, .int .i64 0, .int .i64 n] 39)).heap[x1.heap.size]? = some (.cells #[.slice a W.length ka, .slice b S.length kb, .slice c R.length kc, .string ⟨#[]⟩, .int .i64 0, .int .i64 n] 39 (0, 0))) := heap_more (heap_keep HX5.out hb) _
  have HY6 : Hid ((x6.alloc (.cells #[.slice a3 W.length ka3, .slice b3 S.length kb3, .slice c3 R.length kc3, .string ⟨#[]⟩, .int .i64 0, .int .i64 n] 39)).heap[x2.heap.size]? = some (.cells #[.slice a2 W.length ka2, .slice b2 S.length kb2, .slice c2 R.length kc2, .string ⟨#[]⟩, .int .i64 0, .int .i64 n] 39 (0, 0))) := heap_more (heap_keep HY5.out hb) _
  have HZ6 : Hid ((x6.alloc (.cells #[.slice a3 W.length ka3, .slice b3 S.length kb3, .slice c3 R.length kc3, .string ⟨#[]⟩, .int .i64 0, .int .i64 n] 39)).heap[x6.heap.size]? = some (.cells #[.slice a3 W.length ka3, .slice b3 S.length kb3, .slice c3 R.length kc3, .string ⟨#[]⟩, .int .i64 0, .int .i64 n] 39 (0, 0))) := heap_alloc_new _ _
  have HA6 : Hid (OwnO (x6.alloc (.cells #[.slice a3 W.length ka3, .slice b3 S.length kb3, .slice c3 R.length kc3, .string ⟨#[]⟩, .int .i64 0, .int .i64 n] 39)) (w.heap.size + 1) (.slice a W.length ka) (.slice b S.length kb) (.slice c R.length kc) W S R) := (HA5.out.call hb).call (below_new _ _)
  have HG6 : Hid (OwnO (x6.alloc (.cells #[.slice a3 W.length ka3, .slice b3 S.length kb3, .slice c3 R.length kc3, .string ⟨#[]⟩, .int .i64 0, .int .i64 n] 39)) (y1.heap.size + 1) (.slice a2 W.length ka2) (.slice b2 S.length kb2) (.slice c2 R.length kc2) (objMarks W S R).1 (objMarks W S R).2.1 (objMarks W S R).2.2) := (HG5.out.call hb).call (below_new _ _)
  have HH6 : Hid (OwnO (x6.alloc (.cells #[.slice a3 W.length ka3, .slice b3 S.length kb3, .slice c3 R.length kc3, .string ⟨#[]⟩, .int .i64 0, .int .i64 n] 39)) (x5.heap.size + 1) (.slice a3 W.length ka3) (.slice b3 S.length kb3) (.slice c3 R.length kc3) W S R) := hO.call (below_new _ _)
  have HB6 : Hid (Below w.heap.size w (x6.alloc (.cells #[.slice a3 W.length ka3, .slice b3 S.length kb3, .slice c3 R.length kc3, .string ⟨#[]⟩, .int .i64 0, .int .i64 n] 39))) := below_more (below_call HB5.out hb) _
  clear hO hF hb HX5 HY5 HA5 HG5 HB5
  obtain ⟨c0, c1, c2', c3', c4, c5⟩ := cells6L HX6.out
  obtain ⟨k0, k1, k2, k3, k4, k5⟩ := cells6L HZ6.out
  go_wp2_with fail
  generalize x6.alloc (.cells #[.slice a3 W.length ka3, .slice b3 S.length kb3, .slice c3 R.length kc3, .string ⟨#[]⟩, .int .i64 0, .int .i64 n] 39) = y6 at *
  refine (eqObjectOut_any W S R n a3 b3 c3 a b c ka3 kb3 kc3 ka kb kc _ _ _ HH6.out HA6.out HF.out).mono ?_
  rintro e x7 ⟨rfl, hb⟩
  have HG7 : Hid (OwnO x7 (y1.heap.size + 1) (.slice a2 W.length ka2) (.slice b2 S.length kb2) (.slice c2 R.length kc2) (objMarks W S R).1 (objMarks W S R).2.1 (objMarks W S R).2.2) := HG6.out.call hb
  have HY7 : Hid (x7.heap[x2.heap.size]? = _) := heap_keep HY6.out hb
  have HB7 : Hid (Below w.heap.size w x7) := below_call HB6.out hb
  clear hb HX6 HY6 HZ6 HA6 HG6 HH6 HB6 c0 c1 c2' c3' c4 c5 k0 k1 k2 k3 k4 k5
  obtain ⟨d0, d1, d2, d3, d4, d5⟩ := cells6L HY7.out
  go_wp2_with fail
  refine (heldObjectOut_any W S R n a2 b2 c2 ka2 kb2 kc2 _ x7 HG7.out l1 l2 l3).mono ?_
  rintro e x8 ⟨rfl, hb⟩
  have HB8 : Hid (Below w.heap.size w x8) := below_call HB7.out hb
  clear hb
  go_wp2
  go_ret
  exact ⟨rfl, HB8.out⟩
end Go.Proofs.Ytcnjeeckkpiilaa
