/- The program's reader of rows: a row of numbers, of Syms, of Refs. -/
import Derived.Test.YtcnjeeckkpiilaaRows
import Derived.WalkKit
import Derived.WalkSpells
import Derived.WalkLawsBesides
import Derived.Outline
import Derived.Test.YtcnjeeckkpiilaaBun0
import Derived.Test.YtcnjeeckkpiilaaBun1
import Derived.Test.YtcnjeeckkpiilaaBun3
import Derived.Test.YtcnjeeckkpiilaaSymAX
import Derived.Test.YtcnjeeckkpiilaaRefAX
import Derived.Test.YtcnjeeckkpiilaaReadMX
import Derived.Test.YtcnjeeckkpiilaaRowRdX
import Derived.Test.YtcnjeeckkpiilaaRowReX
import Derived.Test.YtcnjeeckkpiilaaOwnRowsX
namespace Go.Proofs.Ytcnjeeckkpiilaa
open Go.RowKit
set_option linter.unusedVariables false

/- A row that was read: the value, the reader behind it. -/
def RX {α : Type} (T : TypeId) (n : Nat) (c : α → List Value) (b : Nat) (s : ByteArray) (w : World) (X : Option (List α × Int)) (e : Ending) (w' : World) : Prop :=
  But b w w' ∧ ∃ (v : Value) (L : List α) (q : Int) (wr : Bool), e = .returned v ∧ OwnX T n c w' w.heap.size v L ∧ RR w' b s q wr ∧ L.length ≤ 8001 ∧ ((wr = false ∧ X = some (L, q)) ∨ (wr = true ∧ X = none))
def advP {α : Type} (s : ByteArray) (f : Int → Option (α × Int)) : Prop := ∀ (q : Int) (a : α) (q2 : Int), 0 ≤ q → q ≤ s.size → f q = some (a, q2) → q + 1 ≤ q2 ∧ q2 ≤ s.size
theorem Codec.adv {α : Type} {s : ByteArray} {f : Int → Option (α × Int)} {enc : α → List UInt8} {good : α → Prop} (h : Codec s f enc good) (hp : ∀ a, 1 ≤ (enc a).length) : advP s f := fun q a q2 h0 h1 he => by
  obtain ⟨p, rfl⟩ := Int.eq_ofNat_of_zero_le h0
  obtain ⟨_, rfl, hd⟩ := h.can p a q2 (by omega) he
  have := (drop_fits (by omega) hd).1
  have := hp a
  omega
theorem advN (s : ByteArray) : advP s (pN s) := (codecN s).adv numL_pos
theorem advS (s : ByteArray) : advP s (pSym s) := (Codec.seq (codecT s) (Codec.seq (codecN s) (codecF s))).adv fun a => by
  have := numL_pos a.2.1
  rw [List.length_append, List.length_append]; omega
theorem advR (s : ByteArray) : advP s (pRef s) := (Codec.seq (codecN s) (Codec.seq (codecT s) (Codec.seq (codecN s) (codecF s)))).adv fun a => by
  have := numL_pos a.1
  rw [List.length_append]; omega
/- What stands while a row is read: L was read, q is the place, X what the whole tells. -/
def Mid {α : Type} (s : ByteArray) (f : Int → Option (α × Int)) (X : Option (List α × Int)) (n : Int) (L : List α) (q : Int) (w1 : Bool) : Prop :=
  (w1 = false → 0 ≤ n ∧ (L.length : Int) ≤ n ∧ (L.length : Int) ≤ q ∧ X = (pMany f (n.toNat - L.length) q).map fun y => (L ++ y.1, y.2)) ∧ (w1 = true → X = none) ∧ L.length ≤ 8001
theorem Mid.step {α : Type} {s : ByteArray} {f : Int → Option (α × Int)} {X : Option (List α × Int)} {n : Int} {L : List α} {q : Int} (h : Mid s f X n L q false) (hs : s.size ≤ 8000) (hq0 : 0 ≤ q) (hq1 : q ≤ s.size) (hadv : advP s f) (hlt : (L.length : Int) < n) {a : α} {q2 : Int} {w2 : Bool}
    (hx : (w2 = false ∧ unlessB false (f q) = some (a, q2)) ∨ (w2 = true ∧ unlessB false (f q) = none)) : Mid s f X n (L ++ [a]) q2 w2 := by
  obtain ⟨h0, h1, h2, h3⟩ := h.1 rfl
  have e : n.toNat - L.length = (n.toNat - (L ++ [a]).length) + 1 := by rw [List.length_append, List.length_singleton]; omega
  rw [e] at h3
  unfold pMany at h3
  rcases hx with ⟨rfl, hx⟩ | ⟨rfl, hx⟩
  · have hx' : f q = some (a, q2) := hx
    obtain ⟨k1, k2⟩ := hadv q a q2 hq0 hq1 hx'
    refine ⟨fun _ => ⟨h0, by rw [List.length_append, List.length_singleton]; omega, by rw [List.length_append, List.length_singleton]; omega, ?_⟩, fun k => (by cases k), by rw [List.length_append, List.length_singleton]; omega⟩
    rw [h3, hx', Option.bind_some]
    cases pMany f (n.toNat - (L ++ [a]).length) q2 with
    | none => rfl
    | some y => simp
  · have hx' : f q = none := hx
    refine ⟨fun k => (by cases k), fun _ => ?_, by rw [List.length_append, List.length_singleton]; omega⟩
    rw [h3, hx']; rfl
theorem Mid.last {α : Type} {s : ByteArray} {f : Int → Option (α × Int)} {X : Option (List α × Int)} {n : Int} {L : List α} {q : Int} {w1 : Bool} (h : Mid s f X n L q w1) (hstop : w1 = true ∨ ¬ (L.length : Int) < n) : (w1 = false ∧ X = some (L, q)) ∨ (w1 = true ∧ X = none) := by
  cases w1
  · rcases hstop with k | k
    · cases k
    · obtain ⟨h0, h1, h2, h3⟩ := h.1 rfl
      have e : n.toNat - L.length = 0 := by omega
      rw [e] at h3
      exact .inl ⟨rfl, by rw [h3]; simp [pMany]⟩
  · exact .inr ⟨rfl, h.2.1 rfl⟩
theorem Mid.first {α : Type} {s : ByteArray} {f : Int → Option (α × Int)} {wr : Bool} {q n q1 : Int} {w1 : Bool} (hq : 0 ≤ q1) (hn : 0 ≤ n) (h : (w1 = false ∧ unlessB wr (pN s q) = some (n, q1)) ∨ (w1 = true ∧ unlessB wr (pN s q) = none)) : Mid s f (unlessB wr (pRow s f q)) n [] q1 w1 := by
  unfold pRow
  rw [unless_bind]
  rcases h with ⟨rfl, h⟩ | ⟨rfl, h⟩
  · refine ⟨fun _ => ⟨hn, by simpa using hn, by simpa using hq, ?_⟩, fun k => (by cases k), by simp⟩
    rw [h, Option.bind_some]
    dsimp only
    rw [if_neg (by omega)]
    simp
  · refine ⟨fun k => (by cases k), fun _ => by rw [h]; rfl, by simp⟩
theorem Mid.neg {α : Type} {s : ByteArray} {f : Int → Option (α × Int)} {wr : Bool} {q n q1 : Int} {w1 : Bool} (hn : n < 0) (h : (w1 = false ∧ unlessB wr (pN s q) = some (n, q1)) ∨ (w1 = true ∧ unlessB wr (pN s q) = none)) : Mid s f (unlessB wr (pRow s f q)) n [] q1 true := by
  unfold pRow
  rw [unless_bind]
  refine ⟨fun k => (by cases k), fun _ => ?_, by simp⟩
  rcases h with ⟨rfl, h⟩ | ⟨rfl, h⟩
  · rw [h, Option.bind_some]; exact if_pos hn
  · rw [h]; rfl
theorem sym_one (s : symE) : ∀ u ∈ symC s, u.oneCell' = true := by
  intro u hu
  simp only [symC, List.mem_cons, List.not_mem_nil, or_false] at hu
  rcases hu with rfl | rfl | rfl <;> rfl
theorem ref_one (s : refE) : ∀ u ∈ refC s, u.oneCell' = true := by
  intro u hu
  simp only [refC, List.mem_cons, List.not_mem_nil, or_false] at hu
  rcases hu with rfl | rfl | rfl | rfl <;> rfl
theorem intC_len (s : Int) : (intC s).length = 1 := rfl
theorem int_one (s : Int) : ∀ u ∈ intC s, u.oneCell' = true := by
  intro u hu
  simp only [intC, List.mem_cons, List.not_mem_nil, or_false] at hu
  subst hu; rfl
set_option maxRecDepth 100000 in
set_option maxHeartbeats 3200000 in
theorem takeN_any (b : Nat) (s : ByteArray) (q : Int) (wr : Bool) (w : World) (h : RR w b s q wr) (hs : s.size ≤ 8000) :
    Calls Try.prog 47 #[.pointer (some ⟨b, 0, none⟩), .func (.func 48) #[] #[]] w (RX 2 1 intC b s w (unlessB wr (pRow s (pN s) q))) := by
  obtain ⟨i0, hi, hz0, hz1, hz2⟩ := info_parts infoI
  have hbs : b < w.heap.size := heap_lt h.row
  have HN := rowNum_any b s q wr w h hs
  go_enter Try.func47, Try.ntmps47
  go_wp2_with fail
  refine HN.mono ?_
  rintro e x1 ⟨hb, n, q1, w1, rfl, hR, hx⟩
  have HMP : Hid (0 ≤ n → Mid s (pN s) (unlessB wr (pRow s (pN s) q)) n [] q1 w1) := fun hn => Mid.first hR.lo hn hx
  have HMN : Hid (n < 0 → Mid s (pN s) (unlessB wr (pRow s (pN s) q)) n [] q1 true) := fun hn => Mid.neg hn hx
  have HT1 : Hid (But b w x1) := hb
  have HR1 : Hid (RR x1 b s q1 w1) := hR
  clear hb hR hx HN
  obtain ⟨X, hX⟩ : ∃ X, unlessB wr (pRow s (pN s) q) = X := ⟨_, rfl⟩
  rw [hX] at HMP HMN
  have HXX : Hid (unlessB wr (pRow s (pN s) q) = X) := hX
  clear hX
  obtain ⟨d0, d1, d2⟩ := HR1.out.cells
  have df := HR1.out.free 2
  by_cases hn : n < 0
  · have HM1 : Hid (Mid s (pN s) X n [] q1 true) := HMN.out hn
    have HR2 : Hid (RR (x1.setCell ⟨b, 2, none⟩ (.bool true)) b s q1 true) := HR1.out.wrong
    have HT2 : Hid (But b w (x1.setCell ⟨b, 2, none⟩ (.bool true))) := HT1.out.setB (p := ⟨b, 2, none⟩) rfl _
    go_wp2
    go_loopw [5] (fun v y => ∃ (L : List Int) (q2 : Int) (w2 : Bool), Hid (OwnX 2 1 intC y w.heap.size v L) ∧ Hid (RR y b s q2 w2) ∧ Hid (But b w y) ∧ Hid (Mid s (pN s) X n L q2 w2)) (fun v _ => 9000 - lenV v)
    case atStart => exact ⟨[], q1, true, OwnX.nil _ _, HR2.out, HT2.out, HM1.out⟩
    case round => 
      obtain ⟨L, q2, w2, HO, HR, HT, HM⟩ := hrel
      obtain ⟨av, cv, rfl, _⟩ := HO.out.is intC_len
      obtain ⟨c0, c1, c2⟩ := HR.out.cells
      have hl81 := HM.out.2.2
      have hsz := HT.out.size
      have hlt : ¬ (L.length : Int) < n := by omega
      have HF : Hid ((w2 = false ∧ X = some (L, q2)) ∨ (w2 = true ∧ X = none)) := HM.out.last (.inr hlt)
      go_wp2
      go_ret
      exact ⟨HT.out, _, L, q2, w2, rfl, HO.out, HR.out, hl81, (by rw [HXX.out]; exact HF.out)⟩
  · have HM1 : Hid (Mid s (pN s) X n [] q1 w1) := HMP.out (by omega)
    go_wp2
    go_loopw [5] (fun v y => ∃ (L : List Int) (q2 : Int) (w2 : Bool), Hid (OwnX 2 1 intC y w.heap.size v L) ∧ Hid (RR y b s q2 w2) ∧ Hid (But b w y) ∧ Hid (Mid s (pN s) X n L q2 w2)) (fun v _ => 9000 - lenV v)
    case atStart => exact ⟨[], q1, w1, OwnX.nil _ _, HR1.out, HT1.out, HM1.out⟩
    case round => 
      obtain ⟨L, q2, w2, HO, HR, HT, HM⟩ := hrel
      obtain ⟨av, cv, rfl, _⟩ := HO.out.is intC_len
      obtain ⟨c0, c1, c2⟩ := HR.out.cells
      have hl81 := HM.out.2.2
      have hsz := HT.out.size
      by_cases hlt : (L.length : Int) < n
      · cases w2
        · have hlq := (HM.out.1 rfl).2.2.1
          have hlo := HR.out.lo
          have hhi := HR.out.hi
          go_wp2_with fail
          refine (rowNum_any b s q2 false _ HR.out hs).mono ?_
          rintro e x ⟨hb, a, q3, w3, rfl, hR, hx⟩
          have HRx : Hid (RR x b s q3 w3) := hR
          have HTx : Hid (But b w x) := HT.out.trans hb
          have HOx : Hid (OwnX 2 1 intC x w.heap.size (.slice av L.length cv) L) := HO.out.stays fun k hk e => hb.block k hk (fun e2 => by have := (HO.out.blk k e).1; omega)
          have HMx : Hid (Mid s (pN s) X n (L ++ [a]) q3 w3) := HM.out.step hs hlo hhi (advN s) hlt hx
          have hsx := HTx.out.size
          clear hb hR hx c0 c1 c2
          go_wp2_with (at_builtin; refine wpList_append_own _ rfl (.tmp 25) (.tmp 29) 24 rfl w.heap.size 2 i0 (.int .i64 0) 1 8 Try.underlying24 hi hz0 hz1 hz2 rfl (by decide) _ L.length (L.flatMap intC) rfl (HOx.out.alloc _) ⟨x.heap.size, 0, none⟩ 1 1 (intC a) rfl rfl (newsX _ _ _) (int_one a) (by unfold maxLen; omega) (by omega) (by simp; omega) ?_; intro v2 y2 hown2 hgrow2 _)
          have HO2 : Hid (OwnX 2 1 intC y2 w.heap.size v2 (L ++ [a])) := OwnX.more hown2
          have HBK : ∀ k, (Value.slice av L.length cv).ownBlock = some k → w.heap.size ≤ k := fun k e => (HOx.out.blk k e).1
          have HR2x : Hid (RR y2 b s q3 w3) := ⟨(hgrow2.block b (by simp; omega) (fun e => absurd (HBK b e.symm) (by omega))).trans (heap_more HRx.out.row _), HRx.out.lo, HRx.out.hi⟩
          have HT2x : Hid (But b w y2) := ⟨hgrow2.os.trans (HTx.out.alloc _).os, hgrow2.tape.trans (HTx.out.alloc _).tape, hgrow2.output.trans (HTx.out.alloc _).output, Nat.le_trans (HTx.out.alloc _).size hgrow2.size, fun k hk hkb => (hgrow2.block k (by simp; omega) (fun e => absurd (HBK k e.symm) (by omega))).trans ((HTx.out.alloc _).block k hk hkb)⟩
          clear hown2 hgrow2
          go_roundw
          case rel => exact ⟨L ++ [a], q3, w3, HO2.out, HR2x.out, HT2x.out, HMx.out⟩
          case measure => rw [show lenV _ = _ from HO2.out.len]; show _ < 9000 - L.length; rw [List.length_append, List.length_singleton]; omega
        · have HF : Hid (X = none) := HM.out.2.1 rfl
          go_wp2
          go_ret
          exact ⟨HT.out, _, L, q2, true, rfl, HO.out, HR.out, hl81, (by rw [HXX.out]; exact .inr ⟨rfl, HF.out⟩)⟩
      · have HF : Hid ((w2 = false ∧ X = some (L, q2)) ∨ (w2 = true ∧ X = none)) := HM.out.last (.inr hlt)
        go_wp2
        go_ret
        exact ⟨HT.out, _, L, q2, w2, rfl, HO.out, HR.out, hl81, (by rw [HXX.out]; exact HF.out)⟩
set_option maxRecDepth 100000 in
set_option maxHeartbeats 3200000 in
theorem takeS_any (b : Nat) (s : ByteArray) (q : Int) (wr : Bool) (w : World) (h : RR w b s q wr) (hs : s.size ≤ 8000) :
    Calls Try.prog 49 #[.pointer (some ⟨b, 0, none⟩), .func (.func 50) #[] #[]] w (RX 65 3 symC b s w (unlessB wr (pRow s (pSym s) q))) := by
  obtain ⟨i0, hi, hz0, hz1, hz2⟩ := info_parts infoSym
  have hbs : b < w.heap.size := heap_lt h.row
  have HN := rowNum_any b s q wr w h hs
  go_enter Try.func49, Try.ntmps49
  go_wp2_with fail
  refine HN.mono ?_
  rintro e x1 ⟨hb, n, q1, w1, rfl, hR, hx⟩
  have HMP : Hid (0 ≤ n → Mid s (pSym s) (unlessB wr (pRow s (pSym s) q)) n [] q1 w1) := fun hn => Mid.first hR.lo hn hx
  have HMN : Hid (n < 0 → Mid s (pSym s) (unlessB wr (pRow s (pSym s) q)) n [] q1 true) := fun hn => Mid.neg hn hx
  have HT1 : Hid (But b w x1) := hb
  have HR1 : Hid (RR x1 b s q1 w1) := hR
  clear hb hR hx HN
  obtain ⟨X, hX⟩ : ∃ X, unlessB wr (pRow s (pSym s) q) = X := ⟨_, rfl⟩
  rw [hX] at HMP HMN
  have HXX : Hid (unlessB wr (pRow s (pSym s) q) = X) := hX
  clear hX
  obtain ⟨d0, d1, d2⟩ := HR1.out.cells
  have df := HR1.out.free 2
  by_cases hn : n < 0
  · have HM1 : Hid (Mid s (pSym s) X n [] q1 true) := HMN.out hn
    have HR2 : Hid (RR (x1.setCell ⟨b, 2, none⟩ (.bool true)) b s q1 true) := HR1.out.wrong
    have HT2 : Hid (But b w (x1.setCell ⟨b, 2, none⟩ (.bool true))) := HT1.out.setB (p := ⟨b, 2, none⟩) rfl _
    go_wp2
    go_loopw [5] (fun v y => ∃ (L : List symE) (q2 : Int) (w2 : Bool), Hid (OwnX 65 3 symC y w.heap.size v L) ∧ Hid (RR y b s q2 w2) ∧ Hid (But b w y) ∧ Hid (Mid s (pSym s) X n L q2 w2)) (fun v _ => 9000 - lenV v)
    case atStart => exact ⟨[], q1, true, OwnX.nil _ _, HR2.out, HT2.out, HM1.out⟩
    case round => 
      obtain ⟨L, q2, w2, HO, HR, HT, HM⟩ := hrel
      obtain ⟨av, cv, rfl, _⟩ := HO.out.is symC_len
      obtain ⟨c0, c1, c2⟩ := HR.out.cells
      have hl81 := HM.out.2.2
      have hsz := HT.out.size
      have hlt : ¬ (L.length : Int) < n := by omega
      have HF : Hid ((w2 = false ∧ X = some (L, q2)) ∨ (w2 = true ∧ X = none)) := HM.out.last (.inr hlt)
      go_wp2
      go_ret
      exact ⟨HT.out, _, L, q2, w2, rfl, HO.out, HR.out, hl81, (by rw [HXX.out]; exact HF.out)⟩
  · have HM1 : Hid (Mid s (pSym s) X n [] q1 w1) := HMP.out (by omega)
    go_wp2
    go_loopw [5] (fun v y => ∃ (L : List symE) (q2 : Int) (w2 : Bool), Hid (OwnX 65 3 symC y w.heap.size v L) ∧ Hid (RR y b s q2 w2) ∧ Hid (But b w y) ∧ Hid (Mid s (pSym s) X n L q2 w2)) (fun v _ => 9000 - lenV v)
    case atStart => exact ⟨[], q1, w1, OwnX.nil _ _, HR1.out, HT1.out, HM1.out⟩
    case round => 
      obtain ⟨L, q2, w2, HO, HR, HT, HM⟩ := hrel
      obtain ⟨av, cv, rfl, _⟩ := HO.out.is symC_len
      obtain ⟨c0, c1, c2⟩ := HR.out.cells
      have hl81 := HM.out.2.2
      have hsz := HT.out.size
      by_cases hlt : (L.length : Int) < n
      · cases w2
        · have hlq := (HM.out.1 rfl).2.2.1
          have hlo := HR.out.lo
          have hhi := HR.out.hi
          go_wp2_with fail
          refine (rowSym_any b s q2 false _ HR.out hs).mono ?_
          rintro e x ⟨hb, ⟨nm, p0, g0⟩, q3, w3, rfl, hR, hx⟩
          simp only [symC]
          have HRx : Hid (RR x b s q3 w3) := hR
          have HTx : Hid (But b w x) := HT.out.trans hb
          have HOx : Hid (OwnX 65 3 symC x w.heap.size (.slice av L.length cv) L) := HO.out.stays fun k hk e => hb.block k hk (fun e2 => by have := (HO.out.blk k e).1; omega)
          have HMx : Hid (Mid s (pSym s) X n (L ++ [(nm, p0, g0)]) q3 w3) := HM.out.step hs hlo hhi (advS s) hlt hx
          have hsx := HTx.out.size
          clear hb hR hx c0 c1 c2
          go_wp2_with (at_builtin; refine wpList_append_own _ rfl (.tmp 25) (.tmp 29) 31 rfl w.heap.size 65 i0 (.agg #[.string ⟨#[]⟩, .int .i64 0, .bool false]) 3 32 Try.underlying31 hi hz0 hz1 hz2 rfl (by decide) _ L.length (L.flatMap symC) rfl (HOx.out.alloc _) ⟨x.heap.size, 0, none⟩ 1 1 (symC (nm, p0, g0)) rfl rfl (newsX _ _ _) (sym_one (nm, p0, g0)) (by unfold maxLen; omega) (by omega) (by simp; omega) ?_; intro v2 y2 hown2 hgrow2 _)
          have HO2 : Hid (OwnX 65 3 symC y2 w.heap.size v2 (L ++ [(nm, p0, g0)])) := OwnX.more hown2
          have HBK : ∀ k, (Value.slice av L.length cv).ownBlock = some k → w.heap.size ≤ k := fun k e => (HOx.out.blk k e).1
          have HR2x : Hid (RR y2 b s q3 w3) := ⟨(hgrow2.block b (by simp; omega) (fun e => absurd (HBK b e.symm) (by omega))).trans (heap_more HRx.out.row _), HRx.out.lo, HRx.out.hi⟩
          have HT2x : Hid (But b w y2) := ⟨hgrow2.os.trans (HTx.out.alloc _).os, hgrow2.tape.trans (HTx.out.alloc _).tape, hgrow2.output.trans (HTx.out.alloc _).output, Nat.le_trans (HTx.out.alloc _).size hgrow2.size, fun k hk hkb => (hgrow2.block k (by simp; omega) (fun e => absurd (HBK k e.symm) (by omega))).trans ((HTx.out.alloc _).block k hk hkb)⟩
          clear hown2 hgrow2
          go_roundw
          case rel => exact ⟨L ++ [(nm, p0, g0)], q3, w3, HO2.out, HR2x.out, HT2x.out, HMx.out⟩
          case measure => rw [show lenV _ = _ from HO2.out.len]; show _ < 9000 - L.length; rw [List.length_append, List.length_singleton]; omega
        · have HF : Hid (X = none) := HM.out.2.1 rfl
          go_wp2
          go_ret
          exact ⟨HT.out, _, L, q2, true, rfl, HO.out, HR.out, hl81, (by rw [HXX.out]; exact .inr ⟨rfl, HF.out⟩)⟩
      · have HF : Hid ((w2 = false ∧ X = some (L, q2)) ∨ (w2 = true ∧ X = none)) := HM.out.last (.inr hlt)
        go_wp2
        go_ret
        exact ⟨HT.out, _, L, q2, w2, rfl, HO.out, HR.out, hl81, (by rw [HXX.out]; exact HF.out)⟩
set_option maxRecDepth 100000 in
set_option maxHeartbeats 3200000 in
theorem takeR_any (b : Nat) (s : ByteArray) (q : Int) (wr : Bool) (w : World) (h : RR w b s q wr) (hs : s.size ≤ 8000) :
    Calls Try.prog 51 #[.pointer (some ⟨b, 0, none⟩), .func (.func 52) #[] #[]] w (RX 70 4 refC b s w (unlessB wr (pRow s (pRef s) q))) := by
  obtain ⟨i0, hi, hz0, hz1, hz2⟩ := info_parts infoRef
  have hbs : b < w.heap.size := heap_lt h.row
  have HN := rowNum_any b s q wr w h hs
  go_enter Try.func51, Try.ntmps51
  go_wp2_with fail
  refine HN.mono ?_
  rintro e x1 ⟨hb, n, q1, w1, rfl, hR, hx⟩
  have HMP : Hid (0 ≤ n → Mid s (pRef s) (unlessB wr (pRow s (pRef s) q)) n [] q1 w1) := fun hn => Mid.first hR.lo hn hx
  have HMN : Hid (n < 0 → Mid s (pRef s) (unlessB wr (pRow s (pRef s) q)) n [] q1 true) := fun hn => Mid.neg hn hx
  have HT1 : Hid (But b w x1) := hb
  have HR1 : Hid (RR x1 b s q1 w1) := hR
  clear hb hR hx HN
  obtain ⟨X, hX⟩ : ∃ X, unlessB wr (pRow s (pRef s) q) = X := ⟨_, rfl⟩
  rw [hX] at HMP HMN
  have HXX : Hid (unlessB wr (pRow s (pRef s) q) = X) := hX
  clear hX
  obtain ⟨d0, d1, d2⟩ := HR1.out.cells
  have df := HR1.out.free 2
  by_cases hn : n < 0
  · have HM1 : Hid (Mid s (pRef s) X n [] q1 true) := HMN.out hn
    have HR2 : Hid (RR (x1.setCell ⟨b, 2, none⟩ (.bool true)) b s q1 true) := HR1.out.wrong
    have HT2 : Hid (But b w (x1.setCell ⟨b, 2, none⟩ (.bool true))) := HT1.out.setB (p := ⟨b, 2, none⟩) rfl _
    go_wp2
    go_loopw [5] (fun v y => ∃ (L : List refE) (q2 : Int) (w2 : Bool), Hid (OwnX 70 4 refC y w.heap.size v L) ∧ Hid (RR y b s q2 w2) ∧ Hid (But b w y) ∧ Hid (Mid s (pRef s) X n L q2 w2)) (fun v _ => 9000 - lenV v)
    case atStart => exact ⟨[], q1, true, OwnX.nil _ _, HR2.out, HT2.out, HM1.out⟩
    case round => 
      obtain ⟨L, q2, w2, HO, HR, HT, HM⟩ := hrel
      obtain ⟨av, cv, rfl, _⟩ := HO.out.is refC_len
      obtain ⟨c0, c1, c2⟩ := HR.out.cells
      have hl81 := HM.out.2.2
      have hsz := HT.out.size
      have hlt : ¬ (L.length : Int) < n := by omega
      have HF : Hid ((w2 = false ∧ X = some (L, q2)) ∨ (w2 = true ∧ X = none)) := HM.out.last (.inr hlt)
      go_wp2
      go_ret
      exact ⟨HT.out, _, L, q2, w2, rfl, HO.out, HR.out, hl81, (by rw [HXX.out]; exact HF.out)⟩
  · have HM1 : Hid (Mid s (pRef s) X n [] q1 w1) := HMP.out (by omega)
    go_wp2
    go_loopw [5] (fun v y => ∃ (L : List refE) (q2 : Int) (w2 : Bool), Hid (OwnX 70 4 refC y w.heap.size v L) ∧ Hid (RR y b s q2 w2) ∧ Hid (But b w y) ∧ Hid (Mid s (pRef s) X n L q2 w2)) (fun v _ => 9000 - lenV v)
    case atStart => exact ⟨[], q1, w1, OwnX.nil _ _, HR1.out, HT1.out, HM1.out⟩
    case round => 
      obtain ⟨L, q2, w2, HO, HR, HT, HM⟩ := hrel
      obtain ⟨av, cv, rfl, _⟩ := HO.out.is refC_len
      obtain ⟨c0, c1, c2⟩ := HR.out.cells
      have hl81 := HM.out.2.2
      have hsz := HT.out.size
      by_cases hlt : (L.length : Int) < n
      · cases w2
        · have hlq := (HM.out.1 rfl).2.2.1
          have hlo := HR.out.lo
          have hhi := HR.out.hi
          go_wp2_with fail
          refine (rowRef_any b s q2 false _ HR.out hs).mono ?_
          rintro e x ⟨hb, ⟨p0, nm, r0, g0⟩, q3, w3, rfl, hR, hx⟩
          simp only [refC]
          have HRx : Hid (RR x b s q3 w3) := hR
          have HTx : Hid (But b w x) := HT.out.trans hb
          have HOx : Hid (OwnX 70 4 refC x w.heap.size (.slice av L.length cv) L) := HO.out.stays fun k hk e => hb.block k hk (fun e2 => by have := (HO.out.blk k e).1; omega)
          have HMx : Hid (Mid s (pRef s) X n (L ++ [(p0, nm, r0, g0)]) q3 w3) := HM.out.step hs hlo hhi (advR s) hlt hx
          have hsx := HTx.out.size
          clear hb hR hx c0 c1 c2
          go_wp2_with (at_builtin; refine wpList_append_own _ rfl (.tmp 25) (.tmp 29) 32 rfl w.heap.size 70 i0 (.agg #[.int .i64 0, .string ⟨#[]⟩, .int .i64 0, .bool false]) 4 40 Try.underlying32 hi hz0 hz1 hz2 rfl (by decide) _ L.length (L.flatMap refC) rfl (HOx.out.alloc _) ⟨x.heap.size, 0, none⟩ 1 1 (refC (p0, nm, r0, g0)) rfl rfl (newsX _ _ _) (ref_one (p0, nm, r0, g0)) (by unfold maxLen; omega) (by omega) (by simp; omega) ?_; intro v2 y2 hown2 hgrow2 _)
          have HO2 : Hid (OwnX 70 4 refC y2 w.heap.size v2 (L ++ [(p0, nm, r0, g0)])) := OwnX.more hown2
          have HBK : ∀ k, (Value.slice av L.length cv).ownBlock = some k → w.heap.size ≤ k := fun k e => (HOx.out.blk k e).1
          have HR2x : Hid (RR y2 b s q3 w3) := ⟨(hgrow2.block b (by simp; omega) (fun e => absurd (HBK b e.symm) (by omega))).trans (heap_more HRx.out.row _), HRx.out.lo, HRx.out.hi⟩
          have HT2x : Hid (But b w y2) := ⟨hgrow2.os.trans (HTx.out.alloc _).os, hgrow2.tape.trans (HTx.out.alloc _).tape, hgrow2.output.trans (HTx.out.alloc _).output, Nat.le_trans (HTx.out.alloc _).size hgrow2.size, fun k hk hkb => (hgrow2.block k (by simp; omega) (fun e => absurd (HBK k e.symm) (by omega))).trans ((HTx.out.alloc _).block k hk hkb)⟩
          clear hown2 hgrow2
          go_roundw
          case rel => exact ⟨L ++ [(p0, nm, r0, g0)], q3, w3, HO2.out, HR2x.out, HT2x.out, HMx.out⟩
          case measure => rw [show lenV _ = _ from HO2.out.len]; show _ < 9000 - L.length; rw [List.length_append, List.length_singleton]; omega
        · have HF : Hid (X = none) := HM.out.2.1 rfl
          go_wp2
          go_ret
          exact ⟨HT.out, _, L, q2, true, rfl, HO.out, HR.out, hl81, (by rw [HXX.out]; exact .inr ⟨rfl, HF.out⟩)⟩
      · have HF : Hid ((w2 = false ∧ X = some (L, q2)) ∨ (w2 = true ∧ X = none)) := HM.out.last (.inr hlt)
        go_wp2
        go_ret
        exact ⟨HT.out, _, L, q2, w2, rfl, HO.out, HR.out, hl81, (by rw [HXX.out]; exact HF.out)⟩
end Go.Proofs.Ytcnjeeckkpiilaa
