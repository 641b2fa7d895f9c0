/- A reader: the pieces of a text that are not taken yet; what a call keeps that turns one block alone. -/
import Derived.Test.YtcjpfdlodphkeaaRows
import Derived.WalkKit
import Derived.WalkSpells
import Derived.WalkLawsBesides
import Derived.Outline
import Derived.Test.YtcjpfdlodphkeaaBase
import Derived.Test.YtcjpfdlodphkeaaRes2
import Derived.Test.YtcjpfdlodphkeaaOwnS
import Derived.Test.YtcjpfdlodphkeaaIsa3
namespace Go.Proofs.Ytcjpfdlodphkeaa
open Go.RowKit
set_option linter.unusedVariables false

structure But (b : Nat) (w w' : World) : Prop where
  os : w'.os = w.os
  tape : w'.tape = w.tape
  output : w'.output = w.output
  size : w.heap.size ≤ w'.heap.size
  block : ∀ k, k < w.heap.size → k ≠ b → w'.heap[k]? = w.heap[k]?
theorem But.refl (b : Nat) (w : World) : But b w w := ⟨rfl, rfl, rfl, Nat.le_refl _, fun _ _ _ => rfl⟩
theorem But.trans {b : Nat} {x y z : World} (h : But b x y) (k : But b y z) : But b x z :=
  ⟨k.os.trans h.os, k.tape.trans h.tape, k.output.trans h.output, Nat.le_trans h.size k.size, fun i hi hb => (k.block i (Nat.lt_of_lt_of_le hi h.size) hb).trans (h.block i hi hb)⟩
theorem But.of {b : Nat} {w w' : World} (h : Below w.heap.size w w') : But b w w' := ⟨h.os, h.tape, h.output, h.size, fun k hk _ => h.block k hk⟩
theorem But.call {b : Nat} {x y z : World} (h : But b x y) (hb : Below y.heap.size y z) : But b x z := h.trans (But.of hb)
theorem But.alloc {b : Nat} {x y : World} (h : But b x y) (o : Obj) : But b x (y.alloc o) := h.call (below_new y o)
theorem But.drew {b : Nat} {x y : World} (h : But b x y) : But b x y.drew := ⟨h.os, h.tape, h.output, h.size, h.block⟩
theorem But.setB {b : Nat} {x y : World} (h : But b x y) {p : Addr} (hp : p.block = b) (v : Value) : But b x (y.setCell p v) :=
  h.trans ⟨rfl, rfl, rfl, by simp [World.setCell], fun k _ hk => Below.heap_setCell _ _ _ _ (by rw [hp]; exact hk)⟩
theorem But.setN {b : Nat} {x y : World} (h : But b x y) {p : Addr} (hp : x.heap.size ≤ p.block) (v : Value) : But b x (y.setCell p v) :=
  ⟨h.os, h.tape, h.output, by simpa [World.setCell] using h.size, fun k hk hb => (Below.heap_setCell _ _ _ _ (by omega)).trans (h.block k hk hb)⟩
theorem But.keep {b B : Nat} {w w' : World} {o : Obj} (h : w.heap[B]? = some o) (hb : But b w w') (hne : B ≠ b) : w'.heap[B]? = some o := (hb.block B (heap_lt h) hne).trans h
theorem But.below {b B : Nat} {W w w' : World} (h : Below B W w) (hb : But b w w') (hB : B ≤ b) (hs : B ≤ w.heap.size) : Below B W w' :=
  h.trans ⟨hb.os, hb.tape, hb.output, hb.size, fun k hk => hb.block k (by omega) (by omega)⟩
theorem But.cell {b : Nat} {w w' : World} (h : But b w w') {p : Addr} (hp : p.block < w.heap.size) (hne : p.block ≠ b) : w'.cell? p = w.cell? p := World.cell?_of_block (w := w) (h.block p.block hp hne)
theorem But.frozen {b : Nat} {w w' : World} (h : But b w w') {p : Addr} (hp : p.block < w.heap.size) (hne : p.block ≠ b) : w'.frozen? p = w.frozen? p := World.frozen?_of_block (w := w) (h.block p.block hp hne)
/- The pieces that a slice of texts reads as; their cells lie in block g, which is not b. -/
def ReadP (w : World) (b g : Nat) (a : Option Addr) (L : List ByteArray) : Prop := 0 < L.length → ∃ o : Nat, a = some ⟨g, o, none⟩ ∧ g ≠ b ∧ ∀ i (h : i < L.length), w.cell? ⟨g, o + i, none⟩ = some (.string L[i])
theorem ReadP.but {w w' : World} {b c g : Nat} {a : Option Addr} {L : List ByteArray} (h : ReadP w b g a L) (hb : But c w w') (hg : g < w.heap.size) (hc : b ≠ c → g ≠ c) : ReadP w' b g a L := fun hl => by
  obtain ⟨o, rfl, hne, hcell⟩ := h hl
  refine ⟨o, rfl, hne, fun i hi => (hb.cell (p := ⟨g, o + i, none⟩) hg ?_).trans (hcell i hi)⟩
  by_cases e : b = c
  · exact e ▸ hne
  · exact hc e
theorem ReadP.tail {w : World} {b g o : Nat} {p : ByteArray} {L : List ByteArray} (h : ReadP w b g (some ⟨g, o, none⟩) (p :: L)) : ReadP w b g (some ⟨g, o + 1, none⟩) L := fun hl => by
  obtain ⟨o', e, hne, hc⟩ := h (by simp)
  cases e
  refine ⟨o + 1, rfl, hne, fun i hi => ?_⟩
  have := hc (i + 1) (by simpa using hi)
  rw [show o + (i + 1) = o + 1 + i by omega] at this
  simpa using this
structure Rd (w : World) (b g : Nat) (a : Option Addr) (cap : Nat) (L : List ByteArray) : Prop where
  row : w.heap[b]? = some (.cells #[.slice a L.length cap] 55 (0, 0))
  read : ReadP w b g a L
  at' : g < w.heap.size
  len : L.length ≤ cap
  cap : cap ≤ maxLen
  less : L.length ≤ 9000
  text : ∀ p ∈ L, p.size ≤ 8000
theorem Rd.but {w w' : World} {b c g : Nat} {a : Option Addr} {cap : Nat} {L : List ByteArray} (h : Rd w b g a cap L) (hb : But c w w') (hc : c ≠ b) (hg : g ≠ c) : Rd w' b g a cap L :=
  ⟨But.keep h.row hb (fun e => hc e.symm), h.read.but hb h.at' (fun _ => hg), Nat.lt_of_lt_of_le h.at' hb.size, h.len, h.cap, h.less, h.text⟩
theorem Rd.call {w w' : World} {b g : Nat} {a : Option Addr} {cap : Nat} {L : List ByteArray} (h : Rd w b g a cap L) (hb : Below w.heap.size w w') : Rd w' b g a cap L :=
  ⟨heap_keep h.row hb, h.read.but (But.of (b := b) hb) h.at' (fun e => absurd rfl e), Nat.lt_of_lt_of_le h.at' hb.size, h.len, h.cap, h.less, h.text⟩
theorem Rd.alloc {w : World} {b g : Nat} {a : Option Addr} {cap : Nat} {L : List ByteArray} (h : Rd w b g a cap L) (o : Obj) : Rd (w.alloc o) b g a cap L := h.call (below_new w o)
theorem Rd.setN {w : World} {b g : Nat} {a : Option Addr} {cap : Nat} {L : List ByteArray} {p : Addr} {v : Value} (hp : p.block ≠ b) (hg : g ≠ p.block) (h : Rd w b g a cap L) : Rd (w.setCell p v) b g a cap L :=
  h.but (But.setB (But.refl p.block w) rfl v) hp hg
end Go.Proofs.Ytcjpfdlodphkeaa
