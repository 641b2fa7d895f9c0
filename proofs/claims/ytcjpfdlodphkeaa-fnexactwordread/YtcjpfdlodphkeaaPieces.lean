/- The pieces of a text, by the program. -/
import Derived.Test.YtcjpfdlodphkeaaRows
import Derived.WalkKit
import Derived.WalkSpells
import Derived.WalkLawsBesides
import Derived.Outline
import Derived.Lib.OthersKept
import Derived.Lib.TrimU
import Derived.Test.YtcjpfdlodphkeaaBase
import Derived.Test.YtcjpfdlodphkeaaRes2
import Derived.Test.YtcjpfdlodphkeaaOwnS
import Derived.Test.YtcjpfdlodphkeaaIsa3
import Derived.Test.YtcjpfdlodphkeaaReadN
namespace Go.Proofs.Ytcjpfdlodphkeaa
open Go.RowKit
set_option linter.unusedVariables false

structure PSt where
  fr : Nat
  tog : Bool
  acc : List ByteArray
/- One rune at a place: what stood before it is a piece, unless both may stand in a name. -/
def stepP (s : ByteArray) (st : PSt) (p : Nat) : PSt :=
  if 0 < p ∧ ¬ (st.tog = true ∧ runeN (Utf8.decode s p).1 = true) then ⟨p, runeN (Utf8.decode s p).1, st.acc ++ [s.extract st.fr p]⟩ else ⟨st.fr, runeN (Utf8.decode s p).1, st.acc⟩
def runP (s : ByteArray) : Nat → Nat → PSt → PSt
  | 0, _, st => st
  | f + 1, p, st => if p < s.size then runP s f (p + (Utf8.decode s p).2) (stepP s st p) else st
def piecesL (s : ByteArray) : List ByteArray := if s = ⟨#[]⟩ then [] else (runP s s.size 0 ⟨0, false, []⟩).acc ++ [s.extract (runP s s.size 0 ⟨0, false, []⟩).fr s.size]
theorem runP_end (s : ByteArray) (f p : Nat) (st : PSt) (h : ¬ p < s.size) : runP s f p st = st := by
  cases f with
  | zero => rfl
  | succ f => unfold runP; rw [if_neg h]
theorem runP_step (s : ByteArray) (f p : Nat) (st : PSt) (h : p < s.size) (hf : s.size ≤ p + f) : ∃ g, runP s f p st = runP s g (p + (Utf8.decode s p).2) (stepP s st p) ∧ s.size ≤ p + (Utf8.decode s p).2 + g := by
  have hw := Lib.width_pos s p
  cases f with
  | zero => omega
  | succ f => exact ⟨f, by show (if p < s.size then _ else _) = _; rw [if_pos h], by omega⟩
theorem iter_other {w : World} {k g : Nat} {s : ByteArray} {pos : Nat} {o : Obj} (h : w.heap[g]? = some o) (hne : k ≠ g) : (w.iterAt k s pos).heap[g]? = some o := by
  simp only [World.iterAt, Array.getElem?_setIfInBounds, if_neg hne]; exact h
theorem iter_below {w x : World} {s : ByteArray} {pos : Nat} (h : Below w.heap.size w x) : Below w.heap.size w (x.iterAt w.heap.size s pos) :=
  ⟨h.os, h.tape, h.output, by simpa [World.iterAt] using h.size, fun k hk => by
    have := h.block k hk
    simp only [World.iterAt, Array.getElem?_setIfInBounds, if_neg (show w.heap.size ≠ k by omega)]; exact this⟩
theorem OwnS.iter {w : World} {B k : Nat} {v : Value} {L : List ByteArray} {s : ByteArray} {pos : Nat} (h : OwnS w B v L) (hk : k < B) : OwnS (w.iterAt k s pos) B v L := by
  obtain ⟨h1, h2⟩ := h
  refine ⟨h1, ?_⟩
  rcases h2 with h2 | ⟨g, cap, cur, hv, hB, hg, rest⟩
  · exact .inl h2
  · exact .inr ⟨g, cap, cur, hv, hB, iter_other hg (by omega), rest⟩
theorem OwnS.moreP {w : World} {B : Nat} {v : Value} {L : List ByteArray} {x : ByteArray} (h : w.ownsRow B 9 1 v (L.length + 1) (cellsS L ++ [.string x])) : OwnS w B v (L ++ [x]) := by
  unfold OwnS
  rw [List.length_append, List.length_singleton]
  simpa [cellsS] using h
set_option maxRecDepth 100000 in
set_option maxHeartbeats 1600000 in
theorem piecesOf_any (s : ByteArray) (w : World) (hs : s.size ≤ 8000) : Calls Try.prog 20 #[.string s] w fun e w' => ∃ v, e = .returned v ∧ OwnS w' (w.heap.size + 1) v (piecesL s) ∧ Below w.heap.size w w' := by
  obtain ⟨i0, hi, hz0, hz1, hz2⟩ := info_parts infoS
  go_enter Try.func20, Try.ntmps20
  go_wp2
  go_loopw [3, 4, 5] (fun v f t wr => ∃ (p g : Nat) (st : PSt), st.fr ≤ p ∧ st.fr ≤ s.size ∧ f = .int .i64 (st.fr : Nat) ∧ t = .bool st.tog ∧ st.acc.length ≤ p ∧ st.acc.length ≤ s.size ∧ Hid (wr.heap[w.heap.size]? = some (.stringIter s p)) ∧ Hid (OwnS wr (w.heap.size + 1) v st.acc) ∧ Hid (Below w.heap.size w wr) ∧ Hid (runP s s.size 0 ⟨0, false, []⟩ = runP s g p st) ∧ Hid (s.size ≤ p + g)) (fun _ _ _ wr => match wr.heap[w.heap.size]? with | some (.stringIter _ p) => s.size - p | _ => 0)
  case atStart => exact ⟨0, s.size, ⟨0, false, []⟩, by simp, by simp, rfl, rfl, by simp, by simp, World.iter_heap w s 0, OwnS.nil _ _, below_new _ _, rfl, by show _ ≤ _; omega⟩
  case round =>
    obtain ⟨p, g, ⟨fr, tog, acc⟩, hfp, hfs, rfl, rfl, hal, hal2, HIT, HO, HB, HR, HG⟩ := hrel
    dsimp only at *
    have hsz := HB.out.size
    by_cases hlt : p < s.size
    · have hn := fun ty => Lib.run_next_any_at (P := Try.prog) wr w.heap.size s p ty HIT.out hlt
      obtain ⟨g', hg1, hg2⟩ := runP_step s g p ⟨fr, tog, acc⟩ hlt HG.out
      have hw1 := Lib.width_pos s p
      have hr1 := Lib.rune_le s p
      have HI2 : Hid (_ = _) := Lib.iterAt_heap wr w.heap.size s p (p + (Utf8.decode s p).2) HIT.out
      have HO2 : Hid (OwnS _ (w.heap.size + 1) _ acc) := HO.out.iter (s := s) (pos := p + (Utf8.decode s p).2) (show w.heap.size < w.heap.size + 1 by omega)
      have HB2 : Hid (Below w.heap.size w _) := iter_below (s := s) (pos := p + (Utf8.decode s p).2) HB.out
      have HR2 : Hid (_ = _) := HR.out.trans hg1
      clear hg1
      have HS : Hid (stepP s ⟨fr, tog, acc⟩ p = if 0 < p ∧ ¬ (tog = true ∧ runeN (Utf8.decode s p).1 = true) then ⟨p, runeN (Utf8.decode s p).1, acc ++ [s.extract fr p]⟩ else ⟨fr, runeN (Utf8.decode s p).1, acc⟩) := rfl
      have HG2 : Hid (_ ≤ _) := hg2
      clear hg2
      go_wp2_with fail
      refine (runeInName_any _ _ (by omega)).mono ?_
      rintro e x' ⟨rfl, hx⟩
      have hx' := hx.symm
      subst hx'
      clear hx
      have hsx : w.heap.size + 1 ≤ (wr.iterAt w.heap.size s (p + (Utf8.decode s p).2)).heap.size := heap_lt HI2.out
      clear hn
      generalize wr.iterAt w.heap.size s (p + (Utf8.decode s p).2) = x at *
      generalize runeN ((Utf8.decode s p).1 : Int) = q at *
      by_cases hp : p = 0
      · have HS2 : Hid (stepP s ⟨fr, tog, acc⟩ p = ⟨fr, q, acc⟩) := by show _ = _; rw [HS.out, if_neg (by omega)]
        clear HS
        have hp' : ¬ (0 : Int) < (p : Int) := by omega
        go_wp2
        go_roundw
        case rel => exact ⟨p + (Utf8.decode s p).2, g', ⟨fr, q, acc⟩, by show fr ≤ _; omega, hfs, rfl, rfl, by show acc.length ≤ _; omega, hal2, HI2.out, HO2.out, HB2.out, by show _ = _; rw [HR2.out, HS2.out], HG2.out⟩
        case measure => have h1 := HI2.out; have h2 := HIT.out; simp only [h1, h2]; omega
      · have hp' : (0 : Int) < (p : Int) := by omega
        cases tog
        · have HS2 : Hid (stepP s ⟨fr, false, acc⟩ p = ⟨p, q, acc ++ [s.extract fr p]⟩) := by show _ = _; rw [HS.out, if_pos ⟨by omega, fun h => by cases h.1⟩]
          clear HS
          have hlen : acc.length < 1000000 := by omega
          have hi0 : (0 : Int) ≤ (fr : Int) := by omega
          have hi1 : (fr : Int) ≤ (p : Int) := by omega
          have hi2 : (p : Int) ≤ (s.size : Int) := by omega
          go_wp2_with (at_builtin; refine wpList_append_own _ rfl (.tmp 26) (.tmp 31) 52 rfl (w.heap.size + 1) 9 i0 (.string ⟨#[]⟩) 1 16 Try.underlying52 hi hz0 hz1 hz2 rfl (by decide) _ _ _ rfl (HO2.out.alloc _) ⟨x.heap.size, 0, none⟩ 1 1 [.string (s.extract fr p)] rfl rfl (cell_one_new _ _ _) (one_cellS _) (by simp [maxLen]; omega) (by omega) (by simp; omega) ?_; intro v2 w2 hown2 hgrow2 _)
          go_roundw
          case rel =>
            have hr := fun q hq => (HO2.out.lt q hq).1
            have hi3 : w2.heap[w.heap.size]? = some (.stringIter s (p + (Utf8.decode s p).2)) := (hgrow2.block w.heap.size (by simp; omega) (fun e => by have := hr _ e.symm; omega)).trans (heap_more HI2.out _)
            exact ⟨p + (Utf8.decode s p).2, g', ⟨p, q, acc ++ [s.extract fr p]⟩, by show p ≤ _; omega, by show p ≤ _; omega, rfl, rfl, by show (acc ++ _).length ≤ _; simp; omega, by show (acc ++ _).length ≤ _; simp; omega, hi3, OwnS.moreP hown2, (below_more HB2.out _).grown hgrow2 (by simp; omega) (fun q hq => by have := hr q hq; omega), by show _ = _; rw [HR2.out, HS2.out], HG2.out⟩
          case measure =>
            have hr := fun q hq => (HO2.out.lt q hq).1
            have hi3 : w2.heap[w.heap.size]? = some (.stringIter s (p + (Utf8.decode s p).2)) := (hgrow2.block w.heap.size (by simp; omega) (fun e => by have := hr _ e.symm; omega)).trans (heap_more HI2.out _)
            have h2 := HIT.out
            simp only [hi3, h2]; omega
        · cases q
          · have HS2 : Hid (stepP s ⟨fr, true, acc⟩ p = ⟨p, false, acc ++ [s.extract fr p]⟩) := by show _ = _; rw [HS.out, if_pos ⟨by omega, fun h => by cases h.2⟩]
            clear HS
            have hlen : acc.length < 1000000 := by omega
            have hi0 : (0 : Int) ≤ (fr : Int) := by omega
            have hi1 : (fr : Int) ≤ (p : Int) := by omega
            have hi2 : (p : Int) ≤ (s.size : Int) := by omega
            go_wp2_with (at_builtin; refine wpList_append_own _ rfl (.tmp 26) (.tmp 31) 52 rfl (w.heap.size + 1) 9 i0 (.string ⟨#[]⟩) 1 16 Try.underlying52 hi hz0 hz1 hz2 rfl (by decide) _ _ _ rfl (HO2.out.alloc _) ⟨x.heap.size, 0, none⟩ 1 1 [.string (s.extract fr p)] rfl rfl (cell_one_new _ _ _) (one_cellS _) (by simp [maxLen]; omega) (by omega) (by simp; omega) ?_; intro v2 w2 hown2 hgrow2 _)
            go_roundw
            case rel =>
              have hr := fun q hq => (HO2.out.lt q hq).1
              have hi3 : w2.heap[w.heap.size]? = some (.stringIter s (p + (Utf8.decode s p).2)) := (hgrow2.block w.heap.size (by simp; omega) (fun e => by have := hr _ e.symm; omega)).trans (heap_more HI2.out _)
              exact ⟨p + (Utf8.decode s p).2, g', ⟨p, false, acc ++ [s.extract fr p]⟩, by show p ≤ _; omega, by show p ≤ _; omega, rfl, rfl, by show (acc ++ _).length ≤ _; simp; omega, by show (acc ++ _).length ≤ _; simp; omega, hi3, OwnS.moreP hown2, (below_more HB2.out _).grown hgrow2 (by simp; omega) (fun q hq => by have := hr q hq; omega), by show _ = _; rw [HR2.out, HS2.out], HG2.out⟩
            case measure =>
              have hr := fun q hq => (HO2.out.lt q hq).1
              have hi3 : w2.heap[w.heap.size]? = some (.stringIter s (p + (Utf8.decode s p).2)) := (hgrow2.block w.heap.size (by simp; omega) (fun e => by have := hr _ e.symm; omega)).trans (heap_more HI2.out _)
              have h2 := HIT.out
              simp only [hi3, h2]; omega
          · have HS2 : Hid (stepP s ⟨fr, true, acc⟩ p = ⟨fr, true, acc⟩) := by show _ = _; rw [HS.out, if_neg (fun h => h.2 ⟨rfl, rfl⟩)]
            clear HS
            go_wp2
            go_roundw
            case rel => exact ⟨p + (Utf8.decode s p).2, g', ⟨fr, true, acc⟩, by show fr ≤ _; omega, hfs, rfl, rfl, by show acc.length ≤ _; omega, hal2, HI2.out, HO2.out, HB2.out, by show _ = _; rw [HR2.out, HS2.out], HG2.out⟩
            case measure => have h1 := HI2.out; have h2 := HIT.out; simp only [h1, h2]; omega
    · have hn := fun ty => Lib.run_next_end_at (P := Try.prog) wr w.heap.size s p ty HIT.out hlt
      have HE : Hid (runP s s.size 0 ⟨0, false, []⟩ = ⟨fr, tog, acc⟩) := HR.out.trans (runP_end s g p _ hlt)
      by_cases he : s = ⟨#[]⟩
      · have HP : Hid (piecesL s = []) := by show _ = _; unfold piecesL; rw [if_pos he]
        have HA : Hid (acc = []) := by
          have h := HE.out
          rw [he] at h
          have h2 := runP_end ⟨#[]⟩ (ByteArray.size ⟨#[]⟩) 0 ⟨0, false, []⟩ (by decide)
          rw [h2] at h
          cases h; rfl
        have h0 : (s.toList == []) = true := by rw [he, ByteArray.toList_eq]; rfl
        clear he
        go_wp2
        go_ret
        exact ⟨_, rfl, by rw [HP.out]; have h := HO.out; rw [HA.out] at h; exact h, HB.out⟩
      · have HP : Hid (piecesL s = acc ++ [s.extract fr s.size]) := by show _ = _; unfold piecesL; rw [if_neg he, HE.out]
        have h0 := text_no [] he
        clear he
        have hpa : acc.length < 1000000 := by omega
        have hi0 : (0 : Int) ≤ (fr : Int) := by omega
        have hi1 : (fr : Int) ≤ (s.size : Int) := by omega
        have hit := heap_lt HIT.out
        go_wp2_with (at_builtin; refine wpList_append_own _ rfl (.tmp 37) (.tmp 41) 52 rfl (w.heap.size + 1) 9 i0 (.string ⟨#[]⟩) 1 16 Try.underlying52 hi hz0 hz1 hz2 rfl (by decide) _ _ _ rfl (HO.out.alloc _) ⟨wr.heap.size, 0, none⟩ 1 1 [.string (s.extract fr s.size)] rfl rfl (cell_one_new _ _ _) (one_cellS _) (by simp [maxLen]; omega) (by omega) (by simp; omega) ?_; intro v2 w2 hown2 hgrow2 _)
        go_ret
        exact ⟨_, rfl, by rw [HP.out]; exact OwnS.moreP hown2, (below_more HB.out _).grown hgrow2 (by simp; omega) (fun q hq => by have := (HO.out.lt q hq).1; omega)⟩
end Go.Proofs.Ytcjpfdlodphkeaa
