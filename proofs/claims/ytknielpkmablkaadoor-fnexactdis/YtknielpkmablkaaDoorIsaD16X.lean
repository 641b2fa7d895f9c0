/- Instructions: Decode of the specification, its loop, and what both tell. -/
import Derived.Test.YtknielpkmablkaaDoorRows
import Derived.WalkKit
import Derived.WalkSpells
import Derived.WalkLawsBesides
import Derived.Outline
import Derived.Test.YtknielpkmablkaaDoorBun0
import Derived.Test.YtknielpkmablkaaDoorBun1
import Derived.Test.YtknielpkmablkaaDoorIsaX
import Derived.Test.YtknielpkmablkaaDoorBun11
import Derived.Test.YtknielpkmablkaaDoorBun15
import Derived.Test.YtknielpkmablkaaDoorIsaD15X
namespace Go.Proofs.YtknielpkmablkaaDoor
open Go.RowKit
set_option linter.unusedVariables false

theorem decSpec_ff {op : ByteArray} {b : Bool} {m r n : Int} {l : Bool} {m2 r2 n2 : Int} {l2 : Bool} {j : Int} {L : List Int} (hk : 1 ≤ L.length) : decSpec ⟨⟨op, b, m, r, n, l, m2, r2, n2, l2, j⟩, false, false, true⟩ L = outV #[.string op, .bool b, .int .i64 m, .int .i64 r, .int .i64 n, .bool l, .int .i64 m2, .int .i64 r2, .int .i64 n2, .bool l2, .int .i64 j] 1 0 := by
  unfold decSpec; rw [if_neg (by simp), if_neg (by simp [bit]; omega)]; rfl
theorem decOut_ff {op : ByteArray} {b : Bool} {m r n : Int} {l : Bool} {m2 r2 n2 : Int} {l2 : Bool} {j : Int} {L : List Int} (hn : (asI m r n l).2.2 = false) (hm : (asI m2 r2 n2 l2).2.2 = false) (hk : 1 ≤ L.length) : decOut ⟨op, b, m, r, n, l, m2, r2, n2, l2, j⟩ L = outV #[.string op, .bool b, .int .i64 m, .int .i64 r, .int .i64 n, .bool l, .int .i64 m2, .int .i64 r2, .int .i64 n2, .bool l2, .int .i64 j] 1 0 := by
  unfold decOut; rw [if_neg (show ¬ (asI m r n l).2.2 = true by rw [hn]; simp), if_neg (show ¬ (asI m2 r2 n2 l2).2.2 = true by rw [hm]; simp)]; rfl
theorem decSpec_fts {op : ByteArray} {b : Bool} {m r n : Int} {l : Bool} {m2 r2 n2 : Int} {l2 : Bool} {j : Int} {L : List Int} (hk : L.length < 2) : decSpec ⟨⟨op, b, m, r, n, l, m2, r2, n2, l2, j⟩, false, true, true⟩ L = outV zeroIns.vals 0 4 := by
  unfold decSpec; rw [if_neg (by simp), if_pos (by simp [bit]; omega)]
theorem decSpec_ft {op : ByteArray} {b : Bool} {m r n : Int} {l : Bool} {m2 r2 n2 : Int} {l2 : Bool} {j : Int} {L : List Int} (hk : 2 ≤ L.length) : decSpec ⟨⟨op, b, m, r, n, l, m2, r2, n2, l2, j⟩, false, true, true⟩ L = outV #[.string op, .bool b, .int .i64 m, .int .i64 r, .int .i64 n, .bool l, .int .i64 m2, .int .i64 r2, .int .i64 (L.getD 1 0), .bool l2, .int .i64 j] 2 0 := by
  unfold decSpec; rw [if_neg (by simp), if_neg (by simp [bit]; omega)]; rfl
theorem decOut_ft {op : ByteArray} {b : Bool} {m r n : Int} {l : Bool} {m2 r2 n2 : Int} {l2 : Bool} {j : Int} {L : List Int} (hn : (asI m r n l).2.2 = false) (hm : (asI m2 r2 n2 l2).2.2 = true) (hk : 2 ≤ L.length) : decOut ⟨op, b, m, r, n, l, m2, r2, n2, l2, j⟩ L = outV #[.string op, .bool b, .int .i64 m, .int .i64 r, .int .i64 n, .bool l, .int .i64 m2, .int .i64 r2, .int .i64 (L.getD 1 0), .bool (m2 == 5 && (shortI (L.getD 1 0)).2.2), .int .i64 j] 2 0 := by
  unfold decOut; rw [if_neg (show ¬ (asI m r n l).2.2 = true by rw [hn]; simp), if_pos (show (asI m2 r2 n2 l2).2.2 = true by rw [hm]), if_neg (show ¬ L.length = 1 by omega)]; rfl
theorem decOut_fts {op : ByteArray} {b : Bool} {m r n : Int} {l : Bool} {m2 r2 n2 : Int} {l2 : Bool} {j : Int} {L : List Int} (hn : (asI m r n l).2.2 = false) (hm : (asI m2 r2 n2 l2).2.2 = true) (h0 : 0 < L.length) (hk : L.length < 2) : decOut ⟨op, b, m, r, n, l, m2, r2, n2, l2, j⟩ L = outV zeroIns.vals 0 4 := by
  unfold decOut; rw [if_neg (show ¬ (asI m r n l).2.2 = true by rw [hn]; simp), if_pos (show (asI m2 r2 n2 l2).2.2 = true by rw [hm]), if_pos (show L.length = 1 by omega)]
theorem decSpec_tfs {op : ByteArray} {b : Bool} {m r n : Int} {l : Bool} {m2 r2 n2 : Int} {l2 : Bool} {j : Int} {L : List Int} (hk : L.length < 2) : decSpec ⟨⟨op, b, m, r, n, l, m2, r2, n2, l2, j⟩, true, false, true⟩ L = outV zeroIns.vals 0 4 := by
  unfold decSpec; rw [if_neg (by simp), if_pos (by simp [bit]; omega)]
theorem decSpec_tf {op : ByteArray} {b : Bool} {m r n : Int} {l : Bool} {m2 r2 n2 : Int} {l2 : Bool} {j : Int} {L : List Int} (hk : 2 ≤ L.length) : decSpec ⟨⟨op, b, m, r, n, l, m2, r2, n2, l2, j⟩, true, false, true⟩ L = outV #[.string op, .bool b, .int .i64 m, .int .i64 r, .int .i64 (L.getD 1 0), .bool ((shortI (L.getD 1 0)).2.2 && m == 5), .int .i64 m2, .int .i64 r2, .int .i64 n2, .bool l2, .int .i64 j] 2 0 := by
  unfold decSpec; rw [if_neg (by simp), if_neg (by simp [bit]; omega)]; rfl
theorem decOut_tf {op : ByteArray} {b : Bool} {m r n : Int} {l : Bool} {m2 r2 n2 : Int} {l2 : Bool} {j : Int} {L : List Int} (hn : (asI m r n l).2.2 = true) (hm : (asI m2 r2 n2 l2).2.2 = false) (hk : 2 ≤ L.length) : decOut ⟨op, b, m, r, n, l, m2, r2, n2, l2, j⟩ L = outV #[.string op, .bool b, .int .i64 m, .int .i64 r, .int .i64 (L.getD 1 0), .bool (m == 5 && (shortI (L.getD 1 0)).2.2), .int .i64 m2, .int .i64 r2, .int .i64 n2, .bool l2, .int .i64 j] 2 0 := by
  unfold decOut; rw [if_pos (show (asI m r n l).2.2 = true by rw [hn]), if_neg (show ¬ L.length = 1 by omega), if_neg (show ¬ (asI m2 r2 n2 l2).2.2 = true by rw [hm]; simp)]; rfl
theorem decOut_tfs {op : ByteArray} {b : Bool} {m r n : Int} {l : Bool} {m2 r2 n2 : Int} {l2 : Bool} {j : Int} {L : List Int} (hn : (asI m r n l).2.2 = true) (hm : (asI m2 r2 n2 l2).2.2 = false) (h0 : 0 < L.length) (hk : L.length < 2) : decOut ⟨op, b, m, r, n, l, m2, r2, n2, l2, j⟩ L = outV zeroIns.vals 0 4 := by
  unfold decOut; rw [if_pos (show (asI m r n l).2.2 = true by rw [hn]), if_pos (show L.length = 1 by omega)]
theorem decSpec_tts {op : ByteArray} {b : Bool} {m r n : Int} {l : Bool} {m2 r2 n2 : Int} {l2 : Bool} {j : Int} {L : List Int} (hk : L.length < 3) : decSpec ⟨⟨op, b, m, r, n, l, m2, r2, n2, l2, j⟩, true, true, true⟩ L = outV zeroIns.vals 0 4 := by
  unfold decSpec; rw [if_neg (by simp), if_pos (by simp [bit]; omega)]
theorem decSpec_tt {op : ByteArray} {b : Bool} {m r n : Int} {l : Bool} {m2 r2 n2 : Int} {l2 : Bool} {j : Int} {L : List Int} (hk : 3 ≤ L.length) : decSpec ⟨⟨op, b, m, r, n, l, m2, r2, n2, l2, j⟩, true, true, true⟩ L = outV #[.string op, .bool b, .int .i64 m, .int .i64 r, .int .i64 (L.getD 1 0), .bool ((shortI (L.getD 1 0)).2.2 && m == 5), .int .i64 m2, .int .i64 r2, .int .i64 (L.getD 2 0), .bool l2, .int .i64 j] 3 0 := by
  unfold decSpec; rw [if_neg (by simp), if_neg (by simp [bit]; omega)]; rfl
theorem decOut_tt {op : ByteArray} {b : Bool} {m r n : Int} {l : Bool} {m2 r2 n2 : Int} {l2 : Bool} {j : Int} {L : List Int} (hn : (asI m r n l).2.2 = true) (hm : (asI m2 r2 n2 l2).2.2 = true) (hk : 3 ≤ L.length) : decOut ⟨op, b, m, r, n, l, m2, r2, n2, l2, j⟩ L = outV #[.string op, .bool b, .int .i64 m, .int .i64 r, .int .i64 (L.getD 1 0), .bool (m == 5 && (shortI (L.getD 1 0)).2.2), .int .i64 m2, .int .i64 r2, .int .i64 (L.getD 2 0), .bool (m2 == 5 && (shortI (L.getD 2 0)).2.2), .int .i64 j] 3 0 := by
  unfold decOut; rw [if_pos (show (asI m r n l).2.2 = true by rw [hn]), if_neg (show ¬ L.length = 1 by omega), if_pos (show (asI m2 r2 n2 l2).2.2 = true by rw [hm]), if_neg (show ¬ L.length = 2 by omega)]; rfl
theorem decOut_tts {op : ByteArray} {b : Bool} {m r n : Int} {l : Bool} {m2 r2 n2 : Int} {l2 : Bool} {j : Int} {L : List Int} (hn : (asI m r n l).2.2 = true) (hm : (asI m2 r2 n2 l2).2.2 = true) (h0 : 0 < L.length) (hk : L.length < 3) : decOut ⟨op, b, m, r, n, l, m2, r2, n2, l2, j⟩ L = outV zeroIns.vals 0 4 := by
  unfold decOut; rw [if_pos (show (asI m r n l).2.2 = true by rw [hn])]
  by_cases h1 : L.length = 1
  · rw [if_pos h1]
  · rw [if_neg h1, if_pos (show (asI m2 r2 n2 l2).2.2 = true by rw [hm]), if_pos (show L.length = 2 by omega)]
theorem l02Decode_some (a : Option Addr) (L : List Int) (x : Int) (cap : Nat) (w : World) (hl : L.length ≤ 400) (h0 : 0 < L.length) (hx : L[0]? = some x) (hR : ReadI w a L) (hx0 : 0 ≤ x) (hx1 : x ≤ 65535) :
    Calls Tryd.prog 23 #[.slice a L.length cap] w fun e w' => e = .returned (.agg (decSpec (firstS x) L)) ∧ Below w.heap.size w w' := by
  rcases hi : firstS x with ⟨⟨op, b, m, r, n, l, m2, r2, n2, l2, j⟩, fn, fm, ok⟩
  cases ok
  · exact specDec_no a L x op b m r n l m2 r2 n2 l2 j cap w hl h0 hx hR hx0 hx1 fn fm hi
  cases fn <;> cases fm
  · rw [decSpec_ff h0]; exact specDec_ff a L x op b m r n l m2 r2 n2 l2 j cap w hl h0 hx hR hx0 hx1 hi h0
  · by_cases hk : L.length < 2
    · rw [decSpec_fts hk]; exact specDec_fts a L x op b m r n l m2 r2 n2 l2 j cap w hl h0 hx hR hx0 hx1 hi hk
    · rw [decSpec_ft (by omega)]; exact specDec_ft a L x op b m r n l m2 r2 n2 l2 j cap w hl h0 hx hR hx0 hx1 hi (by omega)
  · by_cases hk : L.length < 2
    · rw [decSpec_tfs hk]; exact specDec_tfs a L x op b m r n l m2 r2 n2 l2 j cap w hl h0 hx hR hx0 hx1 hi hk
    · rw [decSpec_tf (by omega)]; exact specDec_tf a L x op b m r n l m2 r2 n2 l2 j cap w hl h0 hx hR hx0 hx1 hi (by omega)
  · by_cases hk : L.length < 3
    · rw [decSpec_tts hk]; exact specDec_tts a L x op b m r n l m2 r2 n2 l2 j cap w hl h0 hx hR hx0 hx1 hi hk
    · rw [decSpec_tt (by omega)]; exact specDec_tt a L x op b m r n l m2 r2 n2 l2 j cap w hl h0 hx hR hx0 hx1 hi (by omega)
/- What both tell of words that begin with x. -/
theorem same_out (x : Int) (L : List Int) (h0 : 0 < L.length) (hx0 : 0 ≤ x) (hx1 : x ≤ 65535) : decSpec (firstS x) L = if (insI x).right = true then decOut (insI x) L else outV zeroIns.vals 0 3 := by
  obtain ⟨hr, hs⟩ := first_same x hx0 hx1
  rw [hr]
  rcases hf : firstS x with ⟨⟨op', b', m', r', n', l', m2', r2', n2', l2', j'⟩, fn, fm, ok⟩
  rcases hi : insI x with ⟨op, b, m, r, n, l, m2, r2, n2, l2, j⟩
  cases ok
  · rfl
  rw [if_pos rfl]
  have h := hs (by rw [hf])
  rw [hf, hi] at h
  have e1 : op' = op := h.op.symm
  have e2 : b' = b := h.b.symm
  have e3 : m' = m := h.m.symm
  have e4 : r' = r := h.r.symm
  have e5 : m2' = m2 := h.m2.symm
  have e6 : r2' = r2 := h.r2.symm
  have e7 : j' = j := h.j.symm
  have e11 : l2' = l2 := h.l2.symm
  have hl2 : l2' = false := h.l2f
  have hn : (asI m r n l).2.2 = fn := h.hn
  have hm : (asI m2 r2 n2 l2).2.2 = fm := h.hm
  have e8 : fn = false → n' = n := fun t => (h.n t).symm
  have e9 : fn = false → l' = l := fun t => (h.l t).symm
  have e10 : fm = false → n2' = n2 := fun t => (h.n2 t).symm
  have e12 : fm = true → (m2' == 5) = false := fun t => by rw [beq_eq_false_iff_ne]; exact h.d5 t
  clear h hs hr hf hi
  subst e1 e2 e3 e4 e5 e6 e7 e11 hl2
  cases fn <;> cases fm
  · rw [decSpec_ff h0, decOut_ff hn hm h0, e8 rfl, e9 rfl, e10 rfl]
  · by_cases hk : L.length < 2
    · rw [decSpec_fts hk, decOut_fts hn hm h0 hk]
    · rw [decSpec_ft (by omega), decOut_ft hn hm (by omega), e8 rfl, e9 rfl, e12 rfl, Bool.false_and]
  · by_cases hk : L.length < 2
    · rw [decSpec_tfs hk, decOut_tfs hn hm h0 hk]
    · rw [decSpec_tf (by omega), decOut_tf hn hm (by omega), Bool.and_comm (m' == 5), e10 rfl]
  · by_cases hk : L.length < 3
    · rw [decSpec_tts hk, decOut_tts hn hm h0 hk]
    · rw [decSpec_tt (by omega), decOut_tt hn hm (by omega), Bool.and_comm (m' == 5), e12 rfl, Bool.false_and]
set_option maxRecDepth 100000 in
set_option maxHeartbeats 1600000 in
theorem specDec_none (a : Option Addr) (cap : Nat) (w : World) : Calls Tryd.prog 23 #[.slice a 0 cap] w fun e w' => e = .returned (.agg (outV zeroIns.vals 0 4)) ∧ Below w.heap.size w w' := by
  go_enter Tryd.func23, Tryd.ntmps23
  go_wp2
  exact bodyPost_ret (results_cell_row Tryd.results23 _ _ w.heap.size 47 _ (0, 0) _ rfl (heap_alloc_new _ _) Tryd.underlying47 rfl (by kernel_rfl)) rfl ⟨rfl, below_new _ _⟩
def specOut (L : List Int) : Array Value := match L[0]? with | none => outV zeroIns.vals 0 4 | some x => decSpec (firstS x) L
theorem l02Decode_any (a : Option Addr) (L : List Int) (cap : Nat) (w : World) (hl : L.length ≤ 400) (hR : ReadI w a L) (hw : wordsB L = true) :
    Calls Tryd.prog 23 #[.slice a L.length cap] w fun e w' => e = .returned (.agg (specOut L)) ∧ Below w.heap.size w w' := by
  unfold specOut
  cases hx : L[0]? with
  | none =>
    have : L = [] := by cases L with | nil => rfl | cons y R => simp at hx
    subst this
    exact specDec_none a cap w
  | some x =>
    obtain ⟨g0, g1⟩ := words_at hw hx
    have h0 : 0 < L.length := by cases L with | nil => simp at hx | cons y R => simp
    exact l02Decode_some a L x cap w hl h0 hx hR g0 g1
def specAll (L : List Int) : Array Value := if wordsB L = true then specOut L else outV zeroIns.vals 0 1
theorem decSpec_is (f : Fst) (L : List Int) : ∃ i k c, decSpec f L = outV (Ins.vals i) k c := by
  unfold decSpec
  split
  · exact ⟨_, _, _, rfl⟩
  split
  · exact ⟨_, _, _, rfl⟩
  · exact ⟨_, _, _, rfl⟩
theorem specOut_is (L : List Int) : ∃ i k c, specOut L = outV (Ins.vals i) k c := by
  unfold specOut
  split
  · exact ⟨_, _, _, rfl⟩
  · exact decSpec_is _ _
def decAll (L : List Int) : Array Value := if 400 < L.length then outV zeroIns.vals 0 2 else specAll L
theorem implDecode_any (a : Option Addr) (L : List Int) (cap : Nat) (w : World) (hm : L.length ≤ maxLen) (hR : ReadI w a L) (hT : Tabs w) :
    Calls Tryd.prog 30 #[.slice a L.length cap] w fun e w' => e = .returned (.agg (decAll L)) ∧ Below w.heap.size w w' := by
  unfold decAll
  by_cases hl : 400 < L.length
  · rw [if_pos hl]; exact implDec_size a L cap w hl hm
  rw [if_neg hl]
  unfold specAll
  cases hw : wordsB L
  · exact implDec_form a L cap w (by omega) hR hw
  rw [if_pos rfl]
  unfold specOut
  cases hx : L[0]? with
  | none =>
    have : L = [] := by cases L with | nil => rfl | cons y R => simp at hx
    subst this
    exact implDec_none a cap w hR
  | some x =>
    obtain ⟨g0, g1⟩ := words_at hw hx
    have h0 : 0 < L.length := by cases L with | nil => simp at hx | cons y R => simp
    show Calls Tryd.prog 30 #[.slice a L.length cap] w fun e w' => e = .returned (.agg (decSpec (firstS x) L)) ∧ Below w.heap.size w w'
    rw [same_out x L h0 g0 g1]
    obtain ⟨hr, hs⟩ := first_same x g0 g1
    rcases hi : insI x with ⟨op, b, m, r, n, l, m2, r2, n2, l2, j⟩
    cases hN : Ins.right ⟨op, b, m, r, n, l, m2, r2, n2, l2, j⟩
    · exact implDec_no a L x op b m r n l m2 r2 n2 l2 j cap w (by omega) h0 hx hR hw hT hi hN
    · rw [hi, hN] at hr
      have h := hs hr.symm
      rw [hi] at h
      exact implDec_yes a L x op b m r n l m2 r2 n2 l2 j cap w (by omega) h0 hx hR hw hT hi hN h.m0 h.m5 h.d0 h.d55
theorem decAll_is (L : List Int) : ∃ i k c, decAll L = outV (Ins.vals i) k c := by
  unfold decAll
  split
  · exact ⟨_, _, _, rfl⟩
  unfold specAll
  split
  · exact specOut_is L
  · exact ⟨_, _, _, rfl⟩
end Go.Proofs.YtknielpkmablkaaDoor
