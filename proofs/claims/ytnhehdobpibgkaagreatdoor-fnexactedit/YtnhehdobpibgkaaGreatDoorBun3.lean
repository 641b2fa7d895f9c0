/- Rows of structs that a call itself makes. -/
import Derived.Test.YtnhehdobpibgkaaGreatDoorRows
import Derived.WalkKit
import Derived.WalkSpells
import Derived.WalkLawsBesides
import Derived.Outline
import Derived.Test.YtnhehdobpibgkaaGreatDoorBun0
import Derived.Test.YtnhehdobpibgkaaGreatDoorBun2
import Derived.RegionTactic
import Derived.BigRegion
import Derived.Deep.QuietTactic
import Derived.BigQuiet
import Derived.Deep.RegionHeld3
import Derived.Test.YtnhehdobpibgkaaGreatDoorBun1
namespace Go.Proofs.YtnhehdobpibgkaaGreatDoor
open Go.RowKit
set_option linter.unusedVariables false

def OwnX {α : Type} (T : TypeId) (n : Nat) (c : α → List Value) (w : World) (B : Nat) (v : Value) (L : List α) : Prop := w.ownsRow B T n v L.length (L.flatMap c)
variable {α : Type} {T : TypeId} {n : Nat} {c : α → List Value}
theorem OwnX.stays {w w' : World} {B : Nat} {v : Value} {L : List α} (h : OwnX T n c w B v L) (hb : ∀ q, q < w.heap.size → v.ownBlock = some q → w'.heap[q]? = w.heap[q]?) : OwnX T n c w' B v L := by
  obtain ⟨h1, h2⟩ := h
  refine ⟨h1, ?_⟩
  rcases h2 with h2 | ⟨g, cap, cur, rfl, hB, hg, rest⟩
  · exact .inl h2
  · exact .inr ⟨g, cap, cur, rfl, hB, (hb g (heap_lt hg) rfl).trans hg, rest⟩
theorem OwnX.call {w w' : World} {B : Nat} {v : Value} {L : List α} (h : OwnX T n c w B v L) (hb : Below w.heap.size w w') : OwnX T n c w' B v L := h.stays fun q hq _ => hb.block q hq
theorem OwnX.alloc {w : World} {B : Nat} {v : Value} {L : List α} (h : OwnX T n c w B v L) (o : Obj) : OwnX T n c (w.alloc o) B v L := h.call (below_new w o)
theorem OwnX.low {w : World} {B B' : Nat} {v : Value} {L : List α} (h : OwnX T n c w B v L) (hB : B' ≤ B) : OwnX T n c w B' v L := by
  obtain ⟨h1, h2⟩ := h
  refine ⟨h1, ?_⟩
  rcases h2 with h2 | ⟨g, cap, cur, hv, hg, rest⟩
  · exact .inl h2
  · exact .inr ⟨g, cap, cur, hv, by omega, rest⟩
theorem OwnX.nil (w : World) (B : Nat) : OwnX T n c w B (.slice none 0 0) ([] : List α) := ⟨by simp, .inl ⟨rfl, rfl⟩⟩
theorem OwnX.form {w : World} {B : Nat} {v : Value} {L : List α} (h : OwnX T n c w B v L) :
    (v = .slice none 0 0 ∧ L = []) ∨ ∃ g cap cur, v = .slice (some ⟨g, 0, none⟩) L.length cap ∧ B ≤ g ∧ w.heap[g]? = some (.cells cur T (0, 0)) ∧ L.length ≤ cap ∧ cap ≤ maxLen ∧ cur.size = cap * n ∧ cur.toList.take (L.length * n) = L.flatMap c := by
  obtain ⟨h1, h2⟩ := h
  rcases h2 with ⟨h2, h3⟩ | ⟨g, cap, cur, hv, hB, hg, h4, h5, h6, h7⟩
  · exact .inl ⟨h2, List.eq_nil_of_length_eq_zero h3⟩
  · exact .inr ⟨g, cap, cur, hv, hB, hg, h4, h5, h6, h7⟩
theorem OwnX.more {w : World} {B : Nat} {v : Value} {L : List α} {a : α} (h : w.ownsRow B T n v (L.length + 1) (L.flatMap c ++ c a)) : OwnX T n c w B v (L ++ [a]) := by
  unfold OwnX
  rw [List.length_append, List.flatMap_append]
  simpa using h
def lenV : Value → Nat
  | .slice _ k _ => k
  | _ => 0
theorem OwnX.len {w : World} {B : Nat} {v : Value} {L : List α} (h : OwnX T n c w B v L) : lenV v = L.length := by
  rcases h.form with ⟨rfl, rfl⟩ | ⟨g, cap, cur, rfl, _⟩ <;> rfl
theorem OwnX.is {w : World} {B : Nat} {v : Value} {L : List α} (hc : ∀ a, (c a).length = n) (h : OwnX T n c w B v L) : ∃ a cap, v = .slice a L.length cap ∧ RowIs n c w a L := by
  rcases h.form with ⟨rfl, rfl⟩ | ⟨g, cap, cur, rfl, hB, hg, h4, h5, h6, h7⟩
  · exact ⟨none, 0, rfl, fun h => absurd h (by simp)⟩
  · refine ⟨_, cap, rfl, fun hl => ⟨_, rfl, heap_lt hg, fun i hi j v hv => ?_⟩⟩
    have hj : j < n := by
      have := (List.getElem?_eq_some_iff.1 hv).1
      rwa [hc] at this
    have hlt : i * n + j < L.length * n := by
      have : (i + 1) * n ≤ L.length * n := Nat.mul_le_mul_right n hi
      rw [Nat.succ_mul] at this; omega
    have e := congrArg (fun l => l[i * n + j]?) h7
    simp only [List.getElem?_take, if_pos hlt] at e
    rw [flat_get n c hc L i j hi hj, hv] at e
    rw [add_zero_block, cell_of_row w g _ _ _ _ hg]
    simpa using e
theorem OwnX.mk {w : World} {B g cap : Nat} {cur : Array Value} {L : List α} (hc : ∀ a, (c a).length = n) (hB : B ≤ g) (hg : w.heap[g]? = some (.cells cur T (0, 0))) (h4 : L.length ≤ cap) (h5 : cap ≤ maxLen) (h6 : cur.size = cap * n) (h7 : ∀ i (hi : i < L.length) j, j < n → cur[i * n + j]? = (c L[i])[j]?) : OwnX T n c w B (.slice (some ⟨g, 0, none⟩) L.length cap) L := by
  refine ⟨flat_len n c hc L, .inr ⟨g, cap, cur, rfl, hB, hg, h4, h5, h6, ?_⟩⟩
  apply List.ext_getElem?
  intro q
  rw [List.getElem?_take]
  by_cases hq : q < L.length * n
  · rw [if_pos hq]
    have hn : 0 < n := by
      rcases Nat.eq_zero_or_pos n with h0 | h0
      · subst h0; omega
      · exact h0
    have e : q = q / n * n + q % n := by rw [Nat.mul_comm]; exact (Nat.div_add_mod q n).symm
    have hi : q / n < L.length := (Nat.div_lt_iff_lt_mul hn).2 hq
    have hj : q % n < n := Nat.mod_lt _ hn
    have := h7 (q / n) hi (q % n) hj
    rw [← flat_get n c hc L (q / n) (q % n) hi hj, ← e] at this
    simpa using this
  · rw [if_neg hq, List.getElem?_eq_none (by rw [flat_len n c hc]; omega)]
theorem newsX (w : World) (l : List Value) (t : TypeId) : ∀ j u, l[j]? = some u → (w.alloc (.cells l.toArray t)).cell? ((⟨w.heap.size, 0, none⟩ : Addr).add j) = some u := by
  intro j u hj
  rw [add_zero_block, cell_of_row _ _ _ _ _ _ (heap_alloc_new w _)]
  simpa using hj
theorem newsY {w : World} {N : Nat} (h : w.heap.size = N) (l : List Value) (t : TypeId) : ∀ j u, l[j]? = some u → (w.alloc (.cells l.toArray t)).cell? ((⟨N, 0, none⟩ : Addr).add j) = some u := by
  subst h; exact newsX w l t
theorem set_size (w : World) (p : Addr) (v : Value) : (w.setCell p v).heap.size = w.heap.size := by simp [World.setCell]
def intC (x : Int) : List Value := [.int .i64 x]
theorem intC_flat (L : List Int) : L.flatMap intC = cellsI L := by
  induction L with
  | nil => rfl
  | cons x L ih => rw [List.flatMap_cons, ih]; rfl
theorem OwnX.ints {w : World} {B : Nat} {v : Value} {L : List Int} (h : OwnX 2 1 intC w B v L) : OwnI w B v L := by
  unfold OwnX at h
  rwa [intC_flat] at h
theorem OwnI.x {w : World} {B : Nat} {v : Value} {L : List Int} (h : OwnI w B v L) : OwnX 2 1 intC w B v L := by
  unfold OwnX
  rwa [intC_flat]
theorem OwnX.blk {w : World} {B : Nat} {v : Value} {L : List α} (h : OwnX T n c w B v L) : ∀ q, v.ownBlock = some q → B ≤ q ∧ q < w.heap.size := fun q hq => by
  rcases h.form with ⟨rfl, _⟩ | ⟨g, cap, cur, rfl, hB, hg, _⟩
  · cases hq
  · have : g = q := by simpa [Value.ownBlock] using hq
    subst this
    exact ⟨hB, heap_lt hg⟩
end Go.Proofs.YtnhehdobpibgkaaGreatDoor
namespace Go.Proofs.YtnhehdobpibgkaaGreatDoor
open Go.RowKit
set_option linter.unusedVariables false

end Go.Proofs.YtnhehdobpibgkaaGreatDoor
namespace Go.Proofs.YtnhehdobpibgkaaGreatDoor
open Go.RowKit
set_option linter.unusedVariables false

abbrev Src : Type := ByteArray × ByteArray
def srcC (s : Src) : List Value := [.string s.1, .string s.2]
theorem srcC_len (s : Src) : (srcC s).length = 2 := rfl
def fitsS (s : Src) : Prop := s.1.size ≤ 1048576 ∧ s.2.size ≤ 1048576
def SzOut (P : Prop) (w : World) (e : Ending) (w' : World) : Prop := ∃ r : Int, e = .returned (.int .i64 r) ∧ r ≤ 1048576 ∧ (¬ r < 0 → P) ∧ Below w.heap.size w w'
theorem infoSrc : (Tryz.prog.info? 74).map (fun i => (i.zero, i.size, i.bytes)) = some (some (.agg #[.string ⟨#[]⟩, .string ⟨#[]⟩]), 2, 32) := by kernel_rfl
theorem makeSrc (n : Nat) (hn : n ≤ 2000000) : ∃ Z : Array Value, Z.size = n * 2 ∧ ∀ w, (Instr.makeSlice 22 (.int .i64 (n : Int)) (.int .i64 (n : Int))).run Tryz.prog w = .ok (.slice (some ⟨w.heap.size, 0, none⟩) n n) (w.alloc (.cells Z 74)) := by
  obtain ⟨i0, hi, hz0, hz1, hz2⟩ := info_parts infoSrc
  refine ⟨madeCells (Value.agg #[.string ⟨#[]⟩, .string ⟨#[]⟩]).cells (n * i0.size), by simp [madeCells, hz1], fun w => ?_⟩
  rw [run_make (P := Tryz.prog) w 22 74 i0 (.agg #[.string ⟨#[]⟩, .string ⟨#[]⟩]) Tryz.underlying22 hi hz0 .i64 .i64 n n (by omega) (by omega) (by rw [hz2]; omega) (by omega)]
  rw [Int.toNat_natCast]
theorem RowTo.set2 {α : Type} {c : α → List Value} {cur : Array Value} {L : List α} {k : Nat} (h : RowTo 2 c cur L k) (hk : k < L.length) {u v : Value} (hu : c L[k] = [u, v]) : RowTo 2 c ((cur.setIfInBounds (k * 2) u).setIfInBounds (k * 2 + 1) v) L (k + 1) := by
  obtain ⟨h1, h2⟩ := h
  refine ⟨by simp [h1], fun i hi hik j hj => ?_⟩
  have hsz : k * 2 + 1 < cur.size := by omega
  rw [Array.getElem?_setIfInBounds, Array.getElem?_setIfInBounds]
  by_cases e : i = k
  · subst e
    rw [hu]
    obtain rfl | rfl : j = 0 ∨ j = 1 := by omega
    · rw [if_neg (by omega), if_pos (by omega), if_pos (by omega)]; rfl
    · rw [if_pos (by omega), if_pos (by simp; omega)]; rfl
  · rw [if_neg (by omega), if_neg (by omega)]
    exact h2 i hi (by omega) j hj
/- Two texts side by side. -/
def Two (w : World) (x : Addr) (m : Nat) (nm tx : ByteArray) : Prop := w.cell? (x.add m) = some (.string nm) ∧ w.cell? ⟨(x.add m).block, (x.add m).off + 1, none⟩ = some (.string tx)
theorem Two.keep {w w' : World} {x : Addr} {m : Nat} {nm tx : ByteArray} (h : Two w x m nm tx) (hx : x.block < w.heap.size) (hb : Below w.heap.size w w') : Two w' x m nm tx :=
  ⟨(hb.cell (by rw [add_blockX]; exact hx)).trans h.1, (hb.cell (p := ⟨(x.add m).block, (x.add m).off + 1, none⟩) (by show (x.add m).block < _; rw [add_blockX]; exact hx)).trans h.2⟩
set_option maxRecDepth 100000 in
set_option maxHeartbeats 1600000 in
theorem eqSource_any (nm tx : ByteArray) (w : World) : Calls Tryz.prog 49 #[.agg #[.string nm, .string tx], .agg #[.string nm, .string tx]] w fun e w' => e = .returned (.bool true) ∧ Below w.heap.size w w' := by
  go_enter Tryz.func49, Tryz.ntmps49
  go_wp2
  go_ret
  exact ⟨rfl, below_more (below_new _ _) _⟩
set_option maxRecDepth 100000 in
set_option maxHeartbeats 1600000 in
theorem eqSourceS_any (a b : Option Addr) (L : List Src) (cap cap2 : Nat) (w : World) (hR : RowIs 2 srcC w a L) (hS : RowIs 2 srcC w b L) (hl : L.length ≤ 2000000) :
    Calls Tryz.prog 28 #[.slice a L.length cap, .slice b L.length cap2] w fun e w' => e = .returned (.bool true) ∧ Below w.heap.size w w' := by
  have HR : Hid (RowIs 2 srcC w a L) := hR
  have HS : Hid (RowIs 2 srcC w b L) := hS
  clear hR hS
  go_enter Tryz.func28, Tryz.ntmps28
  go_wp2
  go_loopw [5] (fun i wr => ∃ k : Nat, k ≤ L.length ∧ i = .int .i64 k ∧ Hid (Below w.heap.size w wr)) (fun i _ => L.length - (intOf i).toNat)
  case atStart => exact ⟨0, by omega, rfl, Below.refl _ _⟩
  case round =>
    obtain ⟨k, hk, rfl, HB⟩ := hrel
    by_cases hlt : k < L.length
    · obtain ⟨x, rfl, hx, hE⟩ := (HR.out.below HB.out).elem k hlt
      obtain ⟨y, rfl, hy, hF⟩ := (HS.out.below HB.out).elem k hlt
      obtain ⟨c0, c1⟩ := ElemAt.two hE
      obtain ⟨d0, d1⟩ := ElemAt.two hF
      clear hE hF
      generalize L[k] = s at *
      obtain ⟨nm, tx⟩ := s
      dsimp only at *
      have hi0 : (0 : Int) ≤ (k : Int) := by omega
      have hi1 : (k : Int) < (L.length : Int) := by omega
      have HI : Hid (Two wr x (k * 2) nm tx) := ⟨c0, c1⟩
      have HJ : Hid (Two wr y (k * 2) nm tx) := ⟨d0, d1⟩
      go_wp2_with fail
      go_region_held3 (fun w' => w'.cell? (x.add (k * 2)) = some (.string nm) ∧ w'.cell? ⟨(x.add (k * 2)).block, (x.add (k * 2)).off + 1, none⟩ = some (.string tx) ∧ w'.cell? (y.add (k * 2)) = some (.string nm) ∧ w'.cell? ⟨(y.add (k * 2)).block, (y.add (k * 2)).off + 1, none⟩ = some (.string tx)) (exact ⟨HI.out.1, HI.out.2, HJ.out.1, HJ.out.2⟩) (first
        | (go_at_call 49; refine (eqSource_any nm tx _).mono ?_; rintro e x5 ⟨rfl, hb⟩; have HB : Hid (Below w.heap.size w x5) := below_call (by repeat (first | with_reducible exact HB.out | with_reducible refine Below.drew ?_)) hb; have HI : Hid (Two x5 x (k * 2) nm tx) := Two.keep (by exact HI.out) (by exact hx) hb; have HJ : Hid (Two x5 y (k * 2) nm tx) := Two.keep (by exact HJ.out) (by exact hy) hb; clear hb))
      all_goals
        go_wp2
        go_roundw
        case rel => exact ⟨k + 1, by omega, by go_num, HB.out⟩
        case measure => simp [intOf]; omega
    · go_wp2
      go_ret
      exact ⟨rfl, HB.out⟩
end Go.Proofs.YtnhehdobpibgkaaGreatDoor
