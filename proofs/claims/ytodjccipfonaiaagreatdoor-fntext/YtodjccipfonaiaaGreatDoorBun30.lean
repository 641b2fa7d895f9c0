/- Reading: whether a rune may stand in a name; prefixes; by the program. -/
import Derived.Test.YtodjccipfonaiaaGreatDoorRows
import Derived.WalkKit
import Derived.WalkSpells
import Derived.WalkLawsBesides
import Derived.Outline
import Derived.Test.YtodjccipfonaiaaGreatDoorBun0
import Derived.Test.YtodjccipfonaiaaGreatDoorBun16
import Derived.Test.YtodjccipfonaiaaGreatDoorNumSX
import Derived.Lib.OthersKept
import Derived.Lib.TrimU
import Derived.Test.YtodjccipfonaiaaGreatDoorBun14
import Derived.Test.YtodjccipfonaiaaGreatDoorBun1
import Derived.Laws.Externs
import Derived.Lib.Bytealg
import Derived.Scope
import Derived.ScopeJumps
import Derived.WalkMore
import Derived.RegionTactic
import Derived.BigRegion
import Derived.Deep.RegionHeld3
import Derived.Laws.Runes
namespace Go.Proofs.YtodjccipfonaiaaGreatDoor
open Go.RowKit
set_option linter.unusedVariables false

/- A byte that may stand in a name. -/
def inN (c : Int) : Bool := goodB 1 c
set_option maxRecDepth 100000 in
set_option maxHeartbeats 1600000 in
theorem inName_any (c : Int) (w : World) : Calls Tryz.prog 94 #[.int .u8 c] w fun e w' => e = .returned (.bool (inN c)) ∧ w' = w := by
  cases hg : inN c
  · have HG : Hid (inN c = false) := hg
    obtain ⟨hp1, hp2⟩ := good_f hg
    clear hg
    rcases hp1 with hp1 | ⟨hp0, hp1⟩ <;> rcases hp2 with hz | ⟨hk0, hp2 | ⟨hp4, hp2⟩, hp3⟩
    all_goals first | (exfalso; omega) | skip
    all_goals
      go_enter Tryz.func94, Tryz.ntmps94
      go_wp2
      go_ret
      exact ⟨rfl, rfl⟩
  · have HG : Hid (inN c = true) := hg
    have hp := good_t hg
    clear hg
    rcases hp with ⟨hp1, hp2⟩ | ⟨hk0, ⟨hp1, hp2⟩ | hp1⟩
    all_goals
      go_enter Tryz.func94, Tryz.ntmps94
      go_wp2
      go_ret
      exact ⟨rfl, rfl⟩
def runeN (r : Int) : Bool := decide (r < 128) && inN r
set_option maxRecDepth 100000 in
set_option maxHeartbeats 1600000 in
theorem runeInName_any (r : Int) (w : World) (h0 : 0 ≤ r) : Calls Tryz.prog 74 #[.int .i32 r] w fun e w' => e = .returned (.bool (runeN r)) ∧ w' = w := by
  by_cases h1 : r < 128
  · have HR : Hid (runeN r = inN r) := by show _ = _; simp [runeN, h1]
    have hw : IntKind.u8.wrap r = r := IntWalk.u8_in _ (by omega)
    go_enter Tryz.func74, Tryz.ntmps74
    go_wp2_with fail
    refine (inName_any r _).mono ?_
    rintro e w1 ⟨rfl, rfl⟩
    go_wp2
    go_ret
    exact ⟨ret_bool HR.out.symm, rfl⟩
  · have HR : Hid (runeN r = false) := by show _ = _; simp [runeN, h1]
    go_enter Tryz.func74, Tryz.ntmps74
    go_wp2
    go_ret
    exact ⟨ret_bool HR.out.symm, rfl⟩
end Go.Proofs.YtodjccipfonaiaaGreatDoor
namespace Go.Proofs.YtodjccipfonaiaaGreatDoor
open Go.RowKit
set_option linter.unusedVariables false

structure PSt where
  fr : Nat
  tog : Bool
  acc : List ByteArray
/- One rune at a place: what stood before it is a piece, unless both may stand in a name. -/
def stepP (s : ByteArray) (st : PSt) (p : Nat) : PSt :=
  if 0 < p ∧ ¬ (st.tog = true ∧ runeN (Utf8.decode s p).1 = true) then ⟨p, runeN (Utf8.decode s p).1, st.acc ++ [s.extract st.fr p]⟩ else ⟨st.fr, runeN (Utf8.decode s p).1, st.acc⟩
def runP (s : ByteArray) : Nat → Nat → PSt → PSt
  | 0, _, st => st
  | f + 1, p, st => if p < s.size then runP s f (p + (Utf8.decode s p).2) (stepP s st p) else st
def piecesL (s : ByteArray) : List ByteArray := if s = ⟨#[]⟩ then [] else (runP s s.size 0 ⟨0, false, []⟩).acc ++ [s.extract (runP s s.size 0 ⟨0, false, []⟩).fr s.size]
theorem runP_end (s : ByteArray) (f p : Nat) (st : PSt) (h : ¬ p < s.size) : runP s f p st = st := by
  cases f with
  | zero => rfl
  | succ f => unfold runP; rw [if_neg h]
theorem runP_step (s : ByteArray) (f p : Nat) (st : PSt) (h : p < s.size) (hf : s.size ≤ p + f) : ∃ g, runP s f p st = runP s g (p + (Utf8.decode s p).2) (stepP s st p) ∧ s.size ≤ p + (Utf8.decode s p).2 + g := by
  have hw := Lib.width_pos s p
  cases f with
  | zero => omega
  | succ f => exact ⟨f, by show (if p < s.size then _ else _) = _; rw [if_pos h], by omega⟩
theorem iter_other {w : World} {k g : Nat} {s : ByteArray} {pos : Nat} {o : Obj} (h : w.heap[g]? = some o) (hne : k ≠ g) : (w.iterAt k s pos).heap[g]? = some o := by
  simp only [World.iterAt, Array.getElem?_setIfInBounds, if_neg hne]; exact h
theorem iter_below {w x : World} {s : ByteArray} {pos : Nat} (h : Below w.heap.size w x) : Below w.heap.size w (x.iterAt w.heap.size s pos) :=
  ⟨h.os, h.tape, h.output, by simpa [World.iterAt] using h.size, fun k hk => by
    have := h.block k hk
    simp only [World.iterAt, Array.getElem?_setIfInBounds, if_neg (show w.heap.size ≠ k by omega)]; exact this⟩
theorem OwnS.iter {w : World} {B k : Nat} {v : Value} {L : List ByteArray} {s : ByteArray} {pos : Nat} (h : OwnS w B v L) (hk : k < B) : OwnS (w.iterAt k s pos) B v L := by
  obtain ⟨h1, h2⟩ := h
  refine ⟨h1, ?_⟩
  rcases h2 with h2 | ⟨g, cap, cur, hv, hB, hg, rest⟩
  · exact .inl h2
  · exact .inr ⟨g, cap, cur, hv, hB, iter_other hg (by omega), rest⟩
theorem OwnS.moreP {w : World} {B : Nat} {v : Value} {L : List ByteArray} {x : ByteArray} (h : w.ownsRow B 9 1 v (L.length + 1) (cellsS L ++ [.string x])) : OwnS w B v (L ++ [x]) := by
  unfold OwnS
  rw [List.length_append, List.length_singleton]
  simpa [cellsS] using h
set_option maxRecDepth 100000 in
set_option maxHeartbeats 1600000 in
theorem piecesOf_any (s : ByteArray) (w : World) (hs : s.size ≤ 8000) : Calls Tryz.prog 33 #[.string s] w fun e w' => ∃ v, e = .returned v ∧ OwnS w' (w.heap.size + 1) v (piecesL s) ∧ Below w.heap.size w w' := by
  obtain ⟨i0, hi, hz0, hz1, hz2⟩ := info_parts infoS
  go_enter Tryz.func33, Tryz.ntmps33
  go_wp2
  go_loopw [3, 4, 5] (fun v f t wr => ∃ (p g : Nat) (st : PSt), st.fr ≤ p ∧ st.fr ≤ s.size ∧ f = .int .i64 (st.fr : Nat) ∧ t = .bool st.tog ∧ st.acc.length ≤ p ∧ st.acc.length ≤ s.size ∧ Hid (wr.heap[w.heap.size]? = some (.stringIter s p)) ∧ Hid (OwnS wr (w.heap.size + 1) v st.acc) ∧ Hid (Below w.heap.size w wr) ∧ Hid (runP s s.size 0 ⟨0, false, []⟩ = runP s g p st) ∧ Hid (s.size ≤ p + g)) (fun _ _ _ wr => match wr.heap[w.heap.size]? with | some (.stringIter _ p) => s.size - p | _ => 0)
  case atStart => exact ⟨0, s.size, ⟨0, false, []⟩, by simp, by simp, rfl, rfl, by simp, by simp, World.iter_heap w s 0, OwnS.nil _ _, below_new _ _, rfl, by show _ ≤ _; omega⟩
  case round =>
    obtain ⟨p, g, ⟨fr, tog, acc⟩, hfp, hfs, rfl, rfl, hal, hal2, HIT, HO, HB, HR, HG⟩ := hrel
    dsimp only at *
    have hsz := HB.out.size
    by_cases hlt : p < s.size
    · have hn := fun ty => Lib.run_next_any_at (P := Tryz.prog) wr w.heap.size s p ty HIT.out hlt
      obtain ⟨g', hg1, hg2⟩ := runP_step s g p ⟨fr, tog, acc⟩ hlt HG.out
      have hw1 := Lib.width_pos s p
      have hr1 := Lib.rune_le s p
      have HI2 : Hid (_ = _) := Lib.iterAt_heap wr w.heap.size s p (p + (Utf8.decode s p).2) HIT.out
      have HO2 : Hid (OwnS _ (w.heap.size + 1) _ acc) := HO.out.iter (s := s) (pos := p + (Utf8.decode s p).2) (show w.heap.size < w.heap.size + 1 by omega)
      have HB2 : Hid (Below w.heap.size w _) := iter_below (s := s) (pos := p + (Utf8.decode s p).2) HB.out
      have HR2 : Hid (_ = _) := HR.out.trans hg1
      clear hg1
      have HS : Hid (stepP s ⟨fr, tog, acc⟩ p = if 0 < p ∧ ¬ (tog = true ∧ runeN (Utf8.decode s p).1 = true) then ⟨p, runeN (Utf8.decode s p).1, acc ++ [s.extract fr p]⟩ else ⟨fr, runeN (Utf8.decode s p).1, acc⟩) := rfl
      have HG2 : Hid (_ ≤ _) := hg2
      clear hg2
      go_wp2_with fail
      refine (runeInName_any _ _ (by omega)).mono ?_
      rintro e x' ⟨rfl, hx⟩
      have hx' := hx.symm
      subst hx'
      clear hx
      have hsx : w.heap.size + 1 ≤ (wr.iterAt w.heap.size s (p + (Utf8.decode s p).2)).heap.size := heap_lt HI2.out
      clear hn
      generalize wr.iterAt w.heap.size s (p + (Utf8.decode s p).2) = x at *
      generalize runeN ((Utf8.decode s p).1 : Int) = q at *
      by_cases hp : p = 0
      · have HS2 : Hid (stepP s ⟨fr, tog, acc⟩ p = ⟨fr, q, acc⟩) := by show _ = _; rw [HS.out, if_neg (by omega)]
        clear HS
        have hp' : ¬ (0 : Int) < (p : Int) := by omega
        go_wp2
        go_roundw
        case rel => exact ⟨p + (Utf8.decode s p).2, g', ⟨fr, q, acc⟩, by show fr ≤ _; omega, hfs, rfl, rfl, by show acc.length ≤ _; omega, hal2, HI2.out, HO2.out, HB2.out, by show _ = _; rw [HR2.out, HS2.out], HG2.out⟩
        case measure => have h1 := HI2.out; have h2 := HIT.out; simp only [h1, h2]; omega
      · have hp' : (0 : Int) < (p : Int) := by omega
        cases tog
        · have HS2 : Hid (stepP s ⟨fr, false, acc⟩ p = ⟨p, q, acc ++ [s.extract fr p]⟩) := by show _ = _; rw [HS.out, if_pos ⟨by omega, fun h => by cases h.1⟩]
          clear HS
          have hlen : acc.length < 1000000 := by omega
          have hi0 : (0 : Int) ≤ (fr : Int) := by omega
          have hi1 : (fr : Int) ≤ (p : Int) := by omega
          have hi2 : (p : Int) ≤ (s.size : Int) := by omega
          go_wp2_with (at_builtin; refine wpList_append_own _ rfl (.tmp 26) (.tmp 31) 59 rfl (w.heap.size + 1) 9 i0 (.string ⟨#[]⟩) 1 16 Tryz.underlying59 hi hz0 hz1 hz2 rfl (by decide) _ _ _ rfl (HO2.out.alloc _) ⟨x.heap.size, 0, none⟩ 1 1 [.string (s.extract fr p)] rfl rfl (cell_one_new _ _ _) (one_cellS _) (by simp [maxLen]; omega) (by omega) (by simp; omega) ?_; intro v2 w2 hown2 hgrow2 _)
          go_roundw
          case rel =>
            have hr := fun q hq => (HO2.out.lt q hq).1
            have hi3 : w2.heap[w.heap.size]? = some (.stringIter s (p + (Utf8.decode s p).2)) := (hgrow2.block w.heap.size (by simp; omega) (fun e => by have := hr _ e.symm; omega)).trans (heap_more HI2.out _)
            exact ⟨p + (Utf8.decode s p).2, g', ⟨p, q, acc ++ [s.extract fr p]⟩, by show p ≤ _; omega, by show p ≤ _; omega, rfl, rfl, by show (acc ++ _).length ≤ _; simp; omega, by show (acc ++ _).length ≤ _; simp; omega, hi3, OwnS.moreP hown2, (below_more HB2.out _).grown hgrow2 (by simp; omega) (fun q hq => by have := hr q hq; omega), by show _ = _; rw [HR2.out, HS2.out], HG2.out⟩
          case measure =>
            have hr := fun q hq => (HO2.out.lt q hq).1
            have hi3 : w2.heap[w.heap.size]? = some (.stringIter s (p + (Utf8.decode s p).2)) := (hgrow2.block w.heap.size (by simp; omega) (fun e => by have := hr _ e.symm; omega)).trans (heap_more HI2.out _)
            have h2 := HIT.out
            simp only [hi3, h2]; omega
        · cases q
          · have HS2 : Hid (stepP s ⟨fr, true, acc⟩ p = ⟨p, false, acc ++ [s.extract fr p]⟩) := by show _ = _; rw [HS.out, if_pos ⟨by omega, fun h => by cases h.2⟩]
            clear HS
            have hlen : acc.length < 1000000 := by omega
            have hi0 : (0 : Int) ≤ (fr : Int) := by omega
            have hi1 : (fr : Int) ≤ (p : Int) := by omega
            have hi2 : (p : Int) ≤ (s.size : Int) := by omega
            go_wp2_with (at_builtin; refine wpList_append_own _ rfl (.tmp 26) (.tmp 31) 59 rfl (w.heap.size + 1) 9 i0 (.string ⟨#[]⟩) 1 16 Tryz.underlying59 hi hz0 hz1 hz2 rfl (by decide) _ _ _ rfl (HO2.out.alloc _) ⟨x.heap.size, 0, none⟩ 1 1 [.string (s.extract fr p)] rfl rfl (cell_one_new _ _ _) (one_cellS _) (by simp [maxLen]; omega) (by omega) (by simp; omega) ?_; intro v2 w2 hown2 hgrow2 _)
            go_roundw
            case rel =>
              have hr := fun q hq => (HO2.out.lt q hq).1
              have hi3 : w2.heap[w.heap.size]? = some (.stringIter s (p + (Utf8.decode s p).2)) := (hgrow2.block w.heap.size (by simp; omega) (fun e => by have := hr _ e.symm; omega)).trans (heap_more HI2.out _)
              exact ⟨p + (Utf8.decode s p).2, g', ⟨p, false, acc ++ [s.extract fr p]⟩, by show p ≤ _; omega, by show p ≤ _; omega, rfl, rfl, by show (acc ++ _).length ≤ _; simp; omega, by show (acc ++ _).length ≤ _; simp; omega, hi3, OwnS.moreP hown2, (below_more HB2.out _).grown hgrow2 (by simp; omega) (fun q hq => by have := hr q hq; omega), by show _ = _; rw [HR2.out, HS2.out], HG2.out⟩
            case measure =>
              have hr := fun q hq => (HO2.out.lt q hq).1
              have hi3 : w2.heap[w.heap.size]? = some (.stringIter s (p + (Utf8.decode s p).2)) := (hgrow2.block w.heap.size (by simp; omega) (fun e => by have := hr _ e.symm; omega)).trans (heap_more HI2.out _)
              have h2 := HIT.out
              simp only [hi3, h2]; omega
          · have HS2 : Hid (stepP s ⟨fr, true, acc⟩ p = ⟨fr, true, acc⟩) := by show _ = _; rw [HS.out, if_neg (fun h => h.2 ⟨rfl, rfl⟩)]
            clear HS
            go_wp2
            go_roundw
            case rel => exact ⟨p + (Utf8.decode s p).2, g', ⟨fr, true, acc⟩, by show fr ≤ _; omega, hfs, rfl, rfl, by show acc.length ≤ _; omega, hal2, HI2.out, HO2.out, HB2.out, by show _ = _; rw [HR2.out, HS2.out], HG2.out⟩
            case measure => have h1 := HI2.out; have h2 := HIT.out; simp only [h1, h2]; omega
    · have hn := fun ty => Lib.run_next_end_at (P := Tryz.prog) wr w.heap.size s p ty HIT.out hlt
      have HE : Hid (runP s s.size 0 ⟨0, false, []⟩ = ⟨fr, tog, acc⟩) := HR.out.trans (runP_end s g p _ hlt)
      by_cases he : s = ⟨#[]⟩
      · have HP : Hid (piecesL s = []) := by show _ = _; unfold piecesL; rw [if_pos he]
        have HA : Hid (acc = []) := by
          have h := HE.out
          rw [he] at h
          have h2 := runP_end ⟨#[]⟩ (ByteArray.size ⟨#[]⟩) 0 ⟨0, false, []⟩ (by decide)
          rw [h2] at h
          cases h; rfl
        have h0 : (s.toList == []) = true := by rw [he, ByteArray.toList_eq]; rfl
        clear he
        go_wp2
        go_ret
        exact ⟨_, rfl, by rw [HP.out]; have h := HO.out; rw [HA.out] at h; exact h, HB.out⟩
      · have HP : Hid (piecesL s = acc ++ [s.extract fr s.size]) := by show _ = _; unfold piecesL; rw [if_neg he, HE.out]
        have h0 := text_no [] he
        clear he
        have hpa : acc.length < 1000000 := by omega
        have hi0 : (0 : Int) ≤ (fr : Int) := by omega
        have hi1 : (fr : Int) ≤ (s.size : Int) := by omega
        have hit := heap_lt HIT.out
        go_wp2_with (at_builtin; refine wpList_append_own _ rfl (.tmp 37) (.tmp 41) 59 rfl (w.heap.size + 1) 9 i0 (.string ⟨#[]⟩) 1 16 Tryz.underlying59 hi hz0 hz1 hz2 rfl (by decide) _ _ _ rfl (HO.out.alloc _) ⟨wr.heap.size, 0, none⟩ 1 1 [.string (s.extract fr s.size)] rfl rfl (cell_one_new _ _ _) (one_cellS _) (by simp [maxLen]; omega) (by omega) (by simp; omega) ?_; intro v2 w2 hown2 hgrow2 _)
        go_ret
        exact ⟨_, rfl, by rw [HP.out]; exact OwnS.moreP hown2, (below_more HB.out _).grown hgrow2 (by simp; omega) (fun q hq => by have := (HO.out.lt q hq).1; omega)⟩
end Go.Proofs.YtodjccipfonaiaaGreatDoor
namespace Go.Proofs.YtodjccipfonaiaaGreatDoor
open Go.RowKit
set_option linter.unusedVariables false

theorem idxStr_run (s : ByteArray) (c : Int) (w : World) : (callFunc 139 #[.string s, .int .u8 c]).run Tryz.prog w = .ok (.value (.int .i64 (firstIdx s c.toNat.toUInt8))) w := by
  rw [run_callFunc_extern Tryz.func139 (by kernel_rfl) (by kernel_rfl) (by kernel_rfl) (e := Extern.BytealgIndexByte.indexByte) (by kernel_rfl), run_indexByte_string]
  rfl
def hexD : ByteArray := ⟨#[48, 49, 50, 51, 52, 53, 54, 55, 56, 57, 97, 98, 99, 100, 101, 102]⟩
theorem hexD_at : ∀ c : Fin 256, firstIdx hexD (c.val : Int).toNat.toUInt8 = hexV (c.val : Int) := by decide +kernel
theorem hexD_idx (c : Int) (h0 : 0 ≤ c) (h1 : c < 256) : firstIdx hexD c.toNat.toUInt8 = hexV c := by
  have h := hexD_at ⟨c.toNat, by omega⟩
  have e : ((c.toNat : Nat) : Int) = c := by omega
  simp only [e] at h
  exact h
set_option maxRecDepth 100000 in
set_option maxHeartbeats 1600000 in
theorem idxByte_any (s : ByteArray) (c : Int) (w : World) : Calls Tryz.prog 128 #[.string s, .int .u8 c] w fun e w' => e = .returned (.int .i64 (firstIdx s c.toNat.toUInt8)) ∧ w' = w := by
  have h := fun W => idxStr_run s c W
  go_enter Tryz.func128, Tryz.ntmps128
  go_wp2
  go_ret
  exact ⟨rfl, rfl⟩
set_option maxRecDepth 100000 in
set_option maxHeartbeats 1600000 in
theorem idxRune_low (r : Int) (w : World) (h0 : 0 ≤ r) (h1 : r < 128) : Calls Tryz.prog 117 #[.string ⟨#[48, 49, 50, 51, 52, 53, 54, 55, 56, 57, 97, 98, 99, 100, 101, 102]⟩, .int .i32 r] w fun e w' => e = .returned (.int .i64 (hexV r)) ∧ w' = w := by
  have HX : Hid (_ = _) := hexD_idx r h0 (by omega)
  have hw : IntKind.u8.wrap r = r := IntWalk.u8_in _ (by omega)
  go_enter Tryz.func117, Tryz.ntmps117
  go_wp2_with fail
  refine (idxByte_any hexD r _).mono ?_
  rintro e w1 ⟨rfl, rfl⟩
  rw [HX.out]
  go_wp2
  go_ret
  exact ⟨rfl, rfl⟩
end Go.Proofs.YtodjccipfonaiaaGreatDoor
namespace Go.Proofs.YtodjccipfonaiaaGreatDoor
open Go

def jumps (J : Nat → Act → World → Prop) (Q : Exit → Act → World → Prop) : Exit → Act → World → Prop
  | .goto l, a, w => J l a w
  | e, a, w => Q e a w

theorem wp_scope_gotos {P : Program} {a : Act} {w : World} {Q : Exit → Act → World → Prop} {c : Code} (J : Nat → Act → World → Prop) (μ : Nat → Act → World → Nat)
    (first : c.wp P (jumps J Q) a w)
    (pass : ∀ l a w, J l a w → ∃ rest, findLabel c l = some rest ∧ rest.wp P (jumps (fun l' a' w' => J l' a' w' ∧ μ l' a' w' < μ l a w) Q) a w) : (Code.scope c).wp P Q a w := by
  intro b k cs
  have key : ∀ n l a w, μ l a w = n → J l a w → ∃ rest, findLabel c l = some rest ∧ ∃ e a' w', Q e a' w' ∧ Arrives P (lone (b.at a (.code rest :: .inScope c :: k)) cs w) b k cs e a' w' := by
    intro n
    induction n using Nat.strongRecOn with
    | _ n ih =>
      intro l a w hn hJ
      obtain ⟨rest, hf, hp⟩ := pass l a w hJ
      refine ⟨rest, hf, ?_⟩
      obtain ⟨e, a₁, w₁, hq, harr⟩ := hp b (.inScope c :: k) cs
      cases e with
      | normal => exact ⟨.normal, a₁, w₁, hq, Steps.trans harr (.one step_inScope)⟩
      | exit id => exact ⟨.exit id, a₁, w₁, hq, fun k' hk => harr k' (by simp [exitTo, hk])⟩
      | goto l' =>
        obtain ⟨hJ', hlt⟩ := hq
        obtain ⟨rest', hf', e₂, a₂, w₂, hq₂, harr₂⟩ := ih _ (by omega) l' a₁ w₁ rfl hJ'
        have hg : gotoIn l' (.inScope c :: k) = some (.code rest' :: .inScope c :: k) := by simp [gotoIn, hf']
        exact ⟨e₂, a₂, w₂, hq₂, .of_steps (harr _ hg) harr₂⟩
      | ret => exact ⟨_, a₁, w₁, hq, harr⟩
      | panic ch => exact ⟨_, a₁, w₁, hq, harr⟩
      | outgrown => exact ⟨_, a₁, w₁, hq, harr⟩
  obtain ⟨e, a₁, w₁, hq, harr⟩ := first b (.inScope c :: k) cs
  cases e with
  | normal => exact ⟨.normal, a₁, w₁, hq, .head step_scope (Steps.trans harr (.one step_inScope))⟩
  | exit id => exact ⟨.exit id, a₁, w₁, hq, fun k' hk => .head step_scope (harr k' (by simp [exitTo, hk]))⟩
  | goto l' =>
    obtain ⟨rest', hf', e₂, a₂, w₂, hq₂, harr₂⟩ := key _ l' a₁ w₁ rfl hq
    have hg : gotoIn l' (.inScope c :: k) = some (.code rest' :: .inScope c :: k) := by simp [gotoIn, hf']
    exact ⟨e₂, a₂, w₂, hq₂, .of_steps (.head step_scope (harr _ hg)) harr₂⟩
  | ret => exact ⟨_, a₁, w₁, hq, .of_steps (.one step_scope) harr⟩
  | panic ch => exact ⟨_, a₁, w₁, hq, .of_steps (.one step_scope) harr⟩
  | outgrown => exact ⟨_, a₁, w₁, hq, .of_steps (.one step_scope) harr⟩
end Go.Proofs.YtodjccipfonaiaaGreatDoor
namespace Go.Proofs.YtodjccipfonaiaaGreatDoor
open Go.RowKit
set_option linter.unusedVariables false

theorem jumps_ret {J : Nat → Act → World → Prop} {Q : Exit → Act → World → Prop} {a : Act} {w : World} (h : Q .ret a w) : jumps J Q .ret a w := h
theorem hexD_low : ∀ b ∈ hexD.data.toList, b.toNat < 128 := by decide +kernel
theorem hexV_high (r : Int) (h : 128 ≤ r) : hexV r = -1 := by unfold hexV; rw [if_neg (by omega), if_neg (by omega)]
theorem idx_none (S : ByteArray) (a e : Nat) (c : UInt8) (hS : ∀ b ∈ S.data.toList, b.toNat < 128) (h : 128 ≤ c.toNat) (W : World) : Calls Tryz.prog 128 #[.string (S.extract a e), .int .u8 (c.toNat : Int)] W fun e w' => e = .returned (.int .i64 (-1)) ∧ w' = W := by
  have k := idxByte_any (S.extract a e) (c.toNat : Int) W
  have e1 : ((c.toNat : Int)).toNat.toUInt8 = c := by simp
  rw [e1, firstIdx_ascii S a e c hS h] at k
  exact k
theorem cut_rest (s : ByteArray) (k : Nat) (h : k + 1 ≤ s.size) (W : World) : (Instr.slice 9 (.string s) (some (.int .i64 ((k : Int) + 1))) none none).run Tryz.prog W = .ok (.string (s.extract (k + 1) s.size)) W := by
  have e : ((k : Int) + 1).toNat = k + 1 := by omega
  simp [Instr.slice, run_underlying Tryz.underlying9, Instr.sliceBounds, run_sliceBound, e, (by omega : 0 ≤ (k : Int) + 1), (by omega : (k : Int) + 1 ≤ (s.size : Int))]
set_option maxRecDepth 100000 in
set_option maxHeartbeats 3200000 in
theorem idxRune_long (S E : ByteArray) (k : Nat) (r : Int) (w : World) (h0 : 128 ≤ r) (h1 : r ≤ 1114111) (hv : r < 55296 ∨ (¬ r < 55296 ∧ 57343 < r)) (hne : ¬ r = 65533) (hEq : Utf8.encode r = E) (hk : E.size = k + 1) (hk0 : 1 ≤ k) (hk3 : k ≤ 3) (hE : ∀ h : k < E.size, 128 ≤ (E[k]'h).toNat) (hS : S.size = 16) (hl : ∀ b ∈ S.data.toList, b.toNat < 128) : Calls Tryz.prog 117 #[.string S, .int .i32 r] w fun e w' => e = .returned (.int .i64 (-1)) ∧ Below w.heap.size w w' := by
  have n1 : ¬ r < 128 := by omega
  have n2 : (r == 65533) = false := by rw [beq_eq_false_iff_ne]; exact hne
  have n0 : 0 ≤ r := by omega
  have hkE : k < E.size := by omega
  have hkS : k < S.size := by omega
  have hx := hE hkE
  have hSk : S[k].toNat < 128 := hl _ (by simp [ByteArray.getElem_eq_getElem_data])
  have HL : Hid (∀ W, Calls Tryz.prog 128 #[.string (S.extract (k + 1) S.size), .int .u8 (E[k].toNat : Int)] W fun e w' => e = .returned (.int .i64 (-1)) ∧ w' = W) := fun W => idx_none S _ _ _ hl hx W
  have q1 : ((S[k].toNat : Int) != (E[k].toNat : Int)) = true := by rw [bne_iff_ne]; omega
  have q2 : (0 : Int) ≤ (k : Int) := by omega
  have q3 : (k : Int) < (E.size : Int) := by omega
  have q4 : (k : Int) < (S.size : Int) := by omega
  have q5 : (k : Int) + 1 ≤ (S.size : Int) := by omega
  have q6 : (E.size : Int) - 1 = (k : Int) := by omega
  have q7 : wrap64 (k : Int) = (k : Int) := IntWalk.wrap64_in _ (by omega)
  have q8 : wrap64 ((k : Int) + 1) = (k : Int) + 1 := IntWalk.wrap64_in _ (by omega)
  have q9 := fun W => cut_rest S k (by omega) W
  have q10 : (0 : Int) ≤ (k : Int) + 1 := by omega
  have q11 : IntKind.i64.wrap ((k : Int) + 1) = (k : Int) + 1 := by rw [IntWalk.i64_left]; exact q8
  clear hne hl hE hk hS hk0 hk3
  rcases hv with hv | ⟨hv, hv2⟩
  all_goals
    go_enter Tryz.func117, Tryz.ntmps117
    go_wp2
    refine wp_scope_gotos (fun _ _ _ => False) (fun _ _ _ => 0) ?_ (fun _ _ _ h => h.elim)
    go_wp2
    go_loopw [9] (fun i wr => i = .int .i64 (k : Int) ∧ wr = w) (fun _ _ => 0)
    case atStart => exact ⟨by first | rfl | rw [q7] | (simp only [q6, q7]), rfl⟩
    case round =>
      obtain ⟨rfl, rfl⟩ := hrel
      go_wp2
      refine wp_scope_gotos (fun _ _ _ => False) (fun _ _ _ => 0) ?_ (fun _ _ _ h => h.elim)
      go_wp2
      go_region
      go_wp2
      go_region_held3 (fun _ => True) (exact trivial) (first | (go_at_call 128; refine (HL.out _).mono ?_; rintro e x' ⟨rfl, hx'⟩; have hxe := hx'.symm; subst hxe; clear hx'))
      all_goals
        go_wp2
        refine jumps_ret ?_
        (try go_wp2)
        (try refine jumps_ret ?_)
        (try go_wp2)
        first | go_ret | (trace_state; fail)
        exact ⟨rfl, by repeat (first | exact Below.refl _ _ | refine Below.drew ?_)⟩
set_option maxRecDepth 100000 in
set_option maxHeartbeats 3200000 in
theorem idxRune_err (S : ByteArray) (w : World) (hS : S.size = 16) (hl : ∀ b ∈ S.data.toList, b.toNat < 128) : Calls Tryz.prog 117 #[.string S, .int .i32 65533] w fun e w' => e = .returned (.int .i64 (-1)) ∧ Below w.heap.size w w' := by
  have HL : Hid (∀ p, (h : p < S.size) → S[p].toNat < 128) := fun p h => hl _ (by simp [ByteArray.getElem_eq_getElem_data])
  clear hl
  go_enter Tryz.func117, Tryz.ntmps117
  go_wp2
  go_loopw [] (fun wr => ∃ p : Nat, p ≤ S.size ∧ Hid (wr.heap[w.heap.size]? = some (.stringIter S p)) ∧ Hid (Below w.heap.size w wr)) (fun wr => match wr.heap[w.heap.size]? with | some (.stringIter _ p) => S.size - p | _ => 0)
  case atStart => exact ⟨0, by omega, World.iter_heap w S 0, below_new _ _⟩
  case round =>
    obtain ⟨p, hp, HIT, HB⟩ := hrel
    by_cases hlt : p < S.size
    · have hn := fun ty => Lib.run_next_ascii_at (P := Tryz.prog) wr w.heap.size S p ty HIT.out hlt (HL.out p hlt)
      have hc := HL.out p hlt
      have HI2 : Hid (_ = _) := Lib.iterAt_heap wr w.heap.size S p (p + 1) HIT.out
      have HB2 : Hid (Below w.heap.size w _) := iter_below (s := S) (pos := p + 1) HB.out
      have q : ((S[p].toNat : Int) == 65533) = false := by rw [beq_eq_false_iff_ne]; omega
      go_wp2
      go_roundw
      case rel => exact ⟨p + 1, by omega, HI2.out, HB2.out⟩
      case measure => have h1 := HI2.out; have h2 := HIT.out; simp only [h1, h2]; omega
    · have hn := fun ty => Lib.run_next_end_at (P := Tryz.prog) wr w.heap.size S p ty HIT.out hlt
      go_wp2
      go_ret
      exact ⟨rfl, HB.out⟩
theorem idxRune_any (r : Int) (w : World) (h0 : 0 ≤ r) (h1 : r ≤ 1114111) (hv : r < 55296 ∨ (¬ r < 55296 ∧ 57343 < r)) : Calls Tryz.prog 117 #[.string ⟨#[48, 49, 50, 51, 52, 53, 54, 55, 56, 57, 97, 98, 99, 100, 101, 102]⟩, .int .i32 r] w fun e w' => e = .returned (.int .i64 (hexV r)) ∧ Below w.heap.size w w' := by
  by_cases hlo : r < 128
  · refine (idxRune_low r w h0 hlo).mono ?_
    rintro e w' ⟨rfl, rfl⟩
    exact ⟨rfl, Below.refl _ _⟩
  · rw [hexV_high r (by omega)]
    by_cases he : r = 65533
    · subst he
      exact idxRune_err hexD w rfl hexD_low
    · have hval : Utf8.valid r = true := by rw [validRune_eq]; unfold validRune; simp; omega
      obtain ⟨hE2, hE4, hEl⟩ := encode_facts r hval (by omega)
      exact (idxRune_long hexD (Utf8.encode r) ((Utf8.encode r).size - 1) r w (by omega) h1 hv he rfl (by omega) (by omega) (by omega) hEl rfl hexD_low)
end Go.Proofs.YtodjccipfonaiaaGreatDoor
