/- Sources: the laws' helpers over rows of them. -/
import Derived.Test.YtknielpkmablkaaDoorRows
import Derived.WalkKit
import Derived.WalkSpells
import Derived.WalkLawsBesides
import Derived.Outline
import Derived.RegionTactic
import Derived.BigRegion
import Derived.Deep.QuietTactic
import Derived.BigQuiet
import Derived.Deep.RegionHeld3
import Derived.Test.YtknielpkmablkaaDoorBun0
import Derived.Test.YtknielpkmablkaaDoorBun1
import Derived.Test.YtknielpkmablkaaDoorBun4
import Derived.Test.YtknielpkmablkaaDoorBun44
import Derived.ProofKit
import Derived.OpenShut
import Derived.ChangeArms
import Derived.Deep.Slices
namespace Go.Proofs.YtknielpkmablkaaDoor
open Go.RowKit
set_option linter.unusedVariables false

abbrev Src : Type := ByteArray × ByteArray
def srcC (s : Src) : List Value := [.string s.1, .string s.2]
theorem srcC_len (s : Src) : (srcC s).length = 2 := rfl
def fitsS (s : Src) : Prop := s.1.size ≤ 1048576 ∧ s.2.size ≤ 1048576
def SzOut (P : Prop) (w : World) (e : Ending) (w' : World) : Prop := ∃ r : Int, e = .returned (.int .i64 r) ∧ r ≤ 1048576 ∧ (¬ r < 0 → P) ∧ Below w.heap.size w w'
theorem RowTo.set2 {α : Type} {c : α → List Value} {cur : Array Value} {L : List α} {k : Nat} (h : RowTo 2 c cur L k) (hk : k < L.length) {u v : Value} (hu : c L[k] = [u, v]) : RowTo 2 c ((cur.setIfInBounds (k * 2) u).setIfInBounds (k * 2 + 1) v) L (k + 1) := by
  obtain ⟨h1, h2⟩ := h
  refine ⟨by simp [h1], fun i hi hik j hj => ?_⟩
  have hsz : k * 2 + 1 < cur.size := by omega
  rw [Array.getElem?_setIfInBounds, Array.getElem?_setIfInBounds]
  by_cases e : i = k
  · subst e
    rw [hu]
    obtain rfl | rfl : j = 0 ∨ j = 1 := by omega
    · rw [if_neg (by omega), if_pos (by omega), if_pos (by omega)]; rfl
    · rw [if_pos (by omega), if_pos (by simp; omega)]; rfl
  · rw [if_neg (by omega), if_neg (by omega)]
    exact h2 i hi (by omega) j hj
/- Two texts side by side. -/
def Two (w : World) (x : Addr) (m : Nat) (nm tx : ByteArray) : Prop := w.cell? (x.add m) = some (.string nm) ∧ w.cell? ⟨(x.add m).block, (x.add m).off + 1, none⟩ = some (.string tx)
theorem Two.keep {w w' : World} {x : Addr} {m : Nat} {nm tx : ByteArray} (h : Two w x m nm tx) (hx : x.block < w.heap.size) (hb : Below w.heap.size w w') : Two w' x m nm tx :=
  ⟨(hb.cell (by rw [add_blockX]; exact hx)).trans h.1, (hb.cell (p := ⟨(x.add m).block, (x.add m).off + 1, none⟩) (by show (x.add m).block < _; rw [add_blockX]; exact hx)).trans h.2⟩
end Go.Proofs.YtknielpkmablkaaDoor
namespace Go.Proofs.YtknielpkmablkaaDoor
open Go.RowKit
set_option linter.unusedVariables false

theorem ElemAt.keep {w w' : World} {x : Addr} {m : Nat} {l : List Value} (h : ElemAt w x m l) (hx : x.block < w.heap.size) (hb : Below w.heap.size w w') : ElemAt w' x m l := by
  cases l with
  | nil => trivial
  | cons v l => exact ⟨(hb.cell (by rw [add_blockX]; exact hx)).trans h.1, fun j u hu => (hb.cell (p := ⟨(x.add m).block, (x.add m).off + (j + 1), none⟩) (by show (x.add m).block < _; rw [add_blockX]; exact hx)).trans (h.2 j u hu)⟩
theorem RowTo.set3 {α : Type} {c : α → List Value} {cur : Array Value} {L : List α} {k : Nat} (h : RowTo 3 c cur L k) (hk : k < L.length) {u v z : Value} (hu : c L[k] = [u, v, z]) : RowTo 3 c (((cur.setIfInBounds (k * 3) u).setIfInBounds (k * 3 + 1) v).setIfInBounds (k * 3 + 2) z) L (k + 1) := by
  obtain ⟨h1, h2⟩ := h
  refine ⟨by simp [h1], fun i hi hik j hj => ?_⟩
  have hsz : k * 3 + 2 < cur.size := by omega
  rw [Array.getElem?_setIfInBounds, Array.getElem?_setIfInBounds, Array.getElem?_setIfInBounds]
  by_cases e : i = k
  · subst e
    rw [hu]
    obtain rfl | rfl | rfl : j = 0 ∨ j = 1 ∨ j = 2 := by omega
    · rw [if_neg (by omega), if_neg (by omega), if_pos (by omega), if_pos (by omega)]; rfl
    · rw [if_neg (by omega), if_pos (by omega), if_pos (by simp; omega)]; rfl
    · rw [if_pos (by omega), if_pos (by simp; omega)]; rfl
  · rw [if_neg (by omega), if_neg (by omega), if_neg (by omega)]
    exact h2 i hi (by omega) j hj
theorem RowTo.set4 {α : Type} {c : α → List Value} {cur : Array Value} {L : List α} {k : Nat} (h : RowTo 4 c cur L k) (hk : k < L.length) {u v z y : Value} (hu : c L[k] = [u, v, z, y]) : RowTo 4 c ((((cur.setIfInBounds (k * 4) u).setIfInBounds (k * 4 + 1) v).setIfInBounds (k * 4 + 2) z).setIfInBounds (k * 4 + 3) y) L (k + 1) := by
  obtain ⟨h1, h2⟩ := h
  refine ⟨by simp [h1], fun i hi hik j hj => ?_⟩
  have hsz : k * 4 + 3 < cur.size := by omega
  rw [Array.getElem?_setIfInBounds, Array.getElem?_setIfInBounds, Array.getElem?_setIfInBounds, Array.getElem?_setIfInBounds]
  by_cases e : i = k
  · subst e
    rw [hu]
    obtain rfl | rfl | rfl | rfl : j = 0 ∨ j = 1 ∨ j = 2 ∨ j = 3 := by omega
    · rw [if_neg (by omega), if_neg (by omega), if_neg (by omega), if_pos (by omega), if_pos (by omega)]; rfl
    · rw [if_neg (by omega), if_neg (by omega), if_pos (by omega), if_pos (by simp; omega)]; rfl
    · rw [if_neg (by omega), if_pos (by omega), if_pos (by simp; omega)]; rfl
    · rw [if_pos (by omega), if_pos (by simp; omega)]; rfl
  · rw [if_neg (by omega), if_neg (by omega), if_neg (by omega), if_neg (by omega)]
    exact h2 i hi (by omega) j hj
end Go.Proofs.YtknielpkmablkaaDoor
namespace Go.Proofs.YtknielpkmablkaaDoor
open Go.RowKit Go.WideShapes

theorem open_elems {α : Type} [Inhabited α] {H : Type} {enc : TypeId × Value → H} {W : World} {base : Nat} {sp : Nat → Bool} {held : Bool} {t e : TypeId} (n : Nat) (c : α → List Value) (G : α → Prop) (ht : Tryd.prog.underlying t = some (.slice e)) (hn : Tryd.prog.cellsOf e = n) (hp : 0 < n)
    (hel : ∀ fuel cs x, cs.length = n → DataW.trod enc Tryd.prog W base sp held fuel e cs = some x → ∃ s : α, cs = c s ∧ G s) {fuel : Nat} {a : Option Addr} {len cap : Nat} {x : DataW H × List MemPlace} (h : DataW.trod enc Tryd.prog W base sp held fuel t [.slice a len cap] = some x) :
    ∃ L : List α, L.length = len ∧ RowIs n c W a L ∧ len ≤ maxLen ∧ ∀ s ∈ L, G s := by
  rcases Go.Deep.open_slice ht h with ⟨h0, _⟩ | ⟨b, len2, cap2, m, k, D, Pl, hcs, hb, hl, hm, hmm, _, hx⟩
  · simp at h0
    obtain ⟨rfl, rfl, rfl⟩ := h0
    exact ⟨[], rfl, fun h => by simp at h, by unfold maxLen; omega, by simp⟩
  · simp at hcs
    obtain ⟨rfl, rfl, rfl⟩ := hcs
    have hlm : len ≤ m := by rw [hmm]; split <;> omega
    rw [hn] at hx
    obtain ⟨f, hf⟩ := Go.Deep.choose_lt (α := α) (p := fun i s => W.cells? base (b.add (i * n)) n = some (c s) ∧ G s) (fun i hi => by
      obtain ⟨cs', h1, h2⟩ := hx i hi
      obtain ⟨_, hlen, _⟩ := World.cells?_some h1
      obtain ⟨s, rfl, hG⟩ := hel _ _ _ hlen h2
      exact ⟨s, h1, hG⟩)
    refine ⟨(List.range len).map f, by simp, fun hpos => ?_, by omega, fun s hs => ?_⟩
    · have hcell : ∀ i, i < len → ∀ j v, (c (f i))[j]? = some v → W.cell? (b.add (i * n + j)) = some v := fun i hi j v hv => by
        obtain ⟨_, hlen, hc⟩ := World.cells?_some (hf i (by omega)).1
        have hj := (List.getElem?_eq_some_iff.1 hv).1
        have := hc j (by omega)
        rw [Go.Deep.add_add] at this
        rw [this]
        exact hv
      have hlen : 0 < len := by simpa using hpos
      have hc0 := (World.cells?_some (hf 0 (by omega)).1).2.1
      have h00 := hcell 0 hlen 0 _ (List.getElem?_eq_getElem (by omega))
      have hblk := World.block_lt_of_cell? _ _ h00
      rw [add_blockX] at hblk
      refine ⟨b, rfl, hblk, fun i hi j v hv => ?_⟩
      have hi2 : i < len := by simpa using hi
      refine hcell i hi2 j v ?_
      simpa using hv
    · obtain ⟨i, hi, rfl⟩ := List.mem_map.1 hs
      exact (hf i (by have := List.mem_range.1 hi; omega)).2
end Go.Proofs.YtknielpkmablkaaDoor
namespace Go.Proofs.YtknielpkmablkaaDoor
open Go.RowKit Go.WideShapes
set_option linter.unusedVariables false

abbrev rwE : Type := Int × ByteArray
def rwC (s : rwE) : List Value := [.int .i64 s.1, .string s.2]
theorem rwC_len (s : rwE) : (rwC s).length = 2 := rfl
def fitsrw (s : rwE) : Prop := s.2.size ≤ 1048576
def textsrw (s : rwE) : Prop := s.2.size ≤ maxLen ∧ (Lit.int .i64 s.1).wf = true
theorem textsrw_s {L : List rwE} (h : ∀ s ∈ L, textsrw s) : ∀ s ∈ L, s.2.size ≤ maxLen := fun s hs => (h s hs).1
theorem infoRw : (Tryd.prog.info? 34).map (fun i => (i.zero, i.size, i.bytes)) = some (some (.agg #[.int .i64 0, .string ⟨#[]⟩]), 2, 24) := by kernel_rfl
theorem makeRw (n : Nat) (hn : n ≤ 2000000) : ∃ Z : Array Value, Z.size = n * 2 ∧ ∀ w, (Instr.makeSlice 23 (.int .i64 (n : Int)) (.int .i64 (n : Int))).run Tryd.prog w = .ok (.slice (some ⟨w.heap.size, 0, none⟩) n n) (w.alloc (.cells Z 34)) := by
  obtain ⟨i0, hi, hz0, hz1, hz2⟩ := info_parts infoRw
  refine ⟨madeCells (Value.agg #[.int .i64 0, .string ⟨#[]⟩]).cells (n * i0.size), by simp [madeCells, hz1], fun w => ?_⟩
  rw [run_make (P := Tryd.prog) w 23 34 i0 (.agg #[.int .i64 0, .string ⟨#[]⟩]) Tryd.underlying23 hi hz0 .i64 .i64 n n (by omega) (by omega) (by rw [hz2]; omega) (by omega)]
  rw [Int.toNat_natCast]
set_option maxRecDepth 100000 in
set_option maxHeartbeats 1600000 in
theorem eqRow_any (x0 : Int) (x1 : ByteArray) (w : World) : Calls Tryd.prog 19 #[.agg #[.int .i64 x0, .string x1], .agg #[.int .i64 x0, .string x1]] w fun e w' => e = .returned (.bool true) ∧ Below w.heap.size w w' := by
  go_enter Tryd.func19, Tryd.ntmps19
  go_wp2
  go_ret
  exact ⟨rfl, below_more (below_new _ _) _⟩
set_option maxRecDepth 100000 in
set_option maxHeartbeats 1600000 in
theorem eqRowS_any (a b : Option Addr) (L : List rwE) (cap cap2 : Nat) (w : World) (hR : RowIs 2 rwC w a L) (hS : RowIs 2 rwC w b L) (hl : L.length ≤ 2000000) :
    Calls Tryd.prog 8 #[.slice a L.length cap, .slice b L.length cap2] w fun e w' => e = .returned (.bool true) ∧ Below w.heap.size w w' := by
  have HR : Hid (RowIs 2 rwC w a L) := hR
  have HS : Hid (RowIs 2 rwC w b L) := hS
  clear hR hS
  go_enter Tryd.func8, Tryd.ntmps8
  go_wp2
  go_loopw [5] (fun i wr => ∃ k : Nat, k ≤ L.length ∧ i = .int .i64 k ∧ Hid (Below w.heap.size w wr)) (fun i _ => L.length - (intOf i).toNat)
  case atStart => exact ⟨0, by omega, rfl, Below.refl _ _⟩
  case round =>
    obtain ⟨k, hk, rfl, HB⟩ := hrel
    by_cases hlt : k < L.length
    · obtain ⟨x, rfl, hx, hE⟩ := (HR.out.below HB.out).elem k hlt
      obtain ⟨y, rfl, hy, hF⟩ := (HS.out.below HB.out).elem k hlt
      obtain ⟨c0, c1⟩ := ElemAt.two hE
      obtain ⟨d0, d1⟩ := ElemAt.two hF
      have HI : Hid (ElemAt wr x (k * 2) (rwC L[k])) := hE
      have HJ : Hid (ElemAt wr y (k * 2) (rwC L[k])) := hF
      clear hE hF
      generalize L[k] = s at *
      obtain ⟨x0, x1⟩ := s
      dsimp only at *
      have hi0 : (0 : Int) ≤ (k : Int) := by omega
      have hi1 : (k : Int) < (L.length : Int) := by omega
      go_wp2_with fail
      go_region_held3 (fun w' => w'.cell? (x.add (k * 2)) = some (.int .i64 x0) ∧ w'.cell? ⟨(x.add (k * 2)).block, (x.add (k * 2)).off + 1, none⟩ = some (.string x1) ∧ w'.cell? (y.add (k * 2)) = some (.int .i64 x0) ∧ w'.cell? ⟨(y.add (k * 2)).block, (y.add (k * 2)).off + 1, none⟩ = some (.string x1)) (exact ⟨(ElemAt.two HI.out).1, (ElemAt.two HI.out).2, (ElemAt.two HJ.out).1, (ElemAt.two HJ.out).2⟩) (first
        | (go_at_call 19; refine (eqRow_any x0 x1 _).mono ?_; rintro e y5 ⟨rfl, hb⟩; have HB : Hid (Below w.heap.size w y5) := below_call (by repeat (first | with_reducible exact HB.out | with_reducible refine Below.drew ?_)) hb; have HI : Hid (ElemAt y5 x (k * 2) (rwC (x0, x1))) := ElemAt.keep (by exact HI.out) (by exact hx) hb; have HJ : Hid (ElemAt y5 y (k * 2) (rwC (x0, x1))) := ElemAt.keep (by exact HJ.out) (by exact hy) hb; clear hb))
      all_goals
        go_wp2
        go_roundw
        case rel => exact ⟨k + 1, by omega, by go_num, HB.out⟩
        case measure => simp [intOf]; omega
    · go_wp2
      go_ret
      exact ⟨rfl, HB.out⟩
end Go.Proofs.YtknielpkmablkaaDoor
