/- What a log tells: the mathematics. -/
import Derived.Test.YtnhehdobpibgkaaGreatDoorRows
import Derived.WalkKit
import Derived.Test.YtnhehdobpibgkaaGreatDoorBun0
import Derived.Test.YtnhehdobpibgkaaGreatDoorBun24
import Derived.Test.YtnhehdobpibgkaaGreatDoorReadMZq
import Derived.Test.YtnhehdobpibgkaaGreatDoorBun7
import Derived.Test.YtnhehdobpibgkaaGreatDoorHexRPZq
import Derived.WalkSpells
import Derived.WalkLawsBesides
import Derived.WalkSmall
import Derived.Test.YtnhehdobpibgkaaGreatDoorBun1
import Derived.Test.YtnhehdobpibgkaaGreatDoorBun3
namespace Go.Proofs.YtnhehdobpibgkaaGreatDoor
open Go.RowKit
set_option linter.unusedVariables false

/- A record's body. -/
def b0 (b : ByteArray) : Int := if h : 0 < b.size then (b[0].toNat : Int) else 0
theorem b0_at {b : ByteArray} (h : 0 < b.size) : b0 b = (b[0].toNat : Int) := dif_pos h
def one1 (b : ByteArray) : Option ByteArray := (pT b 1).bind fun x => if x.2 = (b.size : Int) then some x.1 else none
def two2 (b : ByteArray) : Option Src := (pT b 1).bind fun x => (pT b x.2).bind fun y => if y.2 = (b.size : Int) then some (x.1, y.1) else none
abbrev Told : Type := List Src × ByteArray × Nat
def doB (S : List Src) (im : ByteArray) (n : Nat) (b : ByteArray) : Option Told :=
  if b.size = 0 then none
  else if b0 b = 69 then (two2 b).bind fun x => if srcsB (putR S x) then some (putR S x, im, n) else none
  else if b0 b = 82 then (one1 b).bind fun x => if hasL S x then some (dropR S x, im, n) else none
  else if b0 b = 80 then (one1 b).bind fun x => if rdC x = 0 then some (S, x, n + 1) else none
  else none
abbrev LSt : Type := Told × Nat
def stepL (g : ByteArray) (s : LSt) : Option LSt :=
  (pT g s.2).bind fun x => if unsealC x.1 = 0 then (doB s.1.1 s.1.2.1 s.1.2.2 (unsealT x.1)).bind fun r => some (r, x.2.toNat) else none
def runL (g : ByteArray) : Nat → LSt → LSt
  | 0, s => s
  | f + 1, s => if g.size ≤ s.2 then s else match stepL g s with
    | none => s
    | some t => runL g f t
def stateL (g : ByteArray) : LSt := runL g (g.size + 1) (([], ⟨#[]⟩, 0), 0)
def rightT (T : Told) : Prop := Srt T.1 ∧ T.1.length ≤ 20 ∧ (∀ s ∈ T.1, s.1.size ≤ 8000 ∧ s.2.size ≤ 8000) ∧ T.2.1.size ≤ 8000
theorem pT_bd {s : ByteArray} {p : Nat} {t : ByteArray} {q : Int} (hp : p ≤ s.size) (h : pT s p = some (t, q)) : t.size ≤ 8000 ∧ (p : Int) < q ∧ q ≤ s.size := by
  obtain ⟨h1, h2, h3⟩ := (codecT s).can p t q hp h
  have hf := drop_fits hp h3
  have : 1 ≤ (textLR t).length := by rw [textLR_eq h1, List.length_append]; have := numL_pos (t.size : Int); omega
  refine ⟨h1, by omega, by omega⟩
theorem pT_bdI {s : ByteArray} {p : Int} {t : ByteArray} {q : Int} (h0 : 0 ≤ p) (hp : p ≤ s.size) (h : pT s p = some (t, q)) : t.size ≤ 8000 ∧ p < q ∧ q ≤ s.size := by
  obtain ⟨k, rfl⟩ : ∃ k : Nat, p = (k : Int) := ⟨p.toNat, by omega⟩
  exact pT_bd (by omega) h
theorem one1_bd {b x : ByteArray} (h0 : 0 < b.size) (h : one1 b = some x) : x.size ≤ 8000 := by
  unfold one1 at h
  obtain ⟨y, hy, h⟩ := Option.bind_eq_some_iff.1 h
  have := (pT_bdI (by omega) (by omega) hy).1
  split at h
  · cases h; exact this
  · cases h
theorem two2_bd {b : ByteArray} {x : Src} (h0 : 0 < b.size) (h : two2 b = some x) : x.1.size ≤ 8000 ∧ x.2.size ≤ 8000 := by
  unfold two2 at h
  obtain ⟨y, hy, h⟩ := Option.bind_eq_some_iff.1 h
  obtain ⟨z, hz, h⟩ := Option.bind_eq_some_iff.1 h
  have h1 := pT_bdI (by omega) (by omega) hy
  have h2 := pT_bdI (by omega) (by omega) hz
  split at h
  · cases h; exact ⟨h1.1, h2.1⟩
  · cases h
theorem doB_right {S : List Src} {im : ByteArray} {n : Nat} {b : ByteArray} {r : Told} (hT : rightT (S, im, n)) (h : doB S im n b = some r) : rightT r ∧ r.2.2 ≤ n + 1 := by
  obtain ⟨h1, h2, h3, h4⟩ := hT
  unfold doB at h
  split at h
  · cases h
  · rename_i hz
    have hz0 : 0 < b.size := by omega
    split at h
    · obtain ⟨x, hx, h⟩ := Option.bind_eq_some_iff.1 h
      split at h
      · rename_i hs
        cases h
        have hb := two2_bd hz0 hx
        refine ⟨⟨srt_of hs, (of_decide_eq_true hs).1, fun y hy => ?_, h4⟩, by show n ≤ n + 1; omega⟩
        rcases put_mem hy with rfl | hy
        · exact hb
        · exact h3 y hy
      · cases h
    · split at h
      · obtain ⟨x, hx, h⟩ := Option.bind_eq_some_iff.1 h
        split at h
        · cases h
          exact ⟨⟨srt_drop h1 x, Nat.le_trans (drop_len _ _) h2, fun y hy => h3 y (drop_mem hy), h4⟩, by show n ≤ n + 1; omega⟩
        · cases h
      · split at h
        · obtain ⟨x, hx, h⟩ := Option.bind_eq_some_iff.1 h
          split at h
          · cases h
            exact ⟨⟨h1, h2, h3, one1_bd hz0 hx⟩, Nat.le_refl _⟩
          · cases h
        · cases h
/- What holds of what was told, at each place. -/
def rightS (g : ByteArray) (s : LSt) : Prop := rightT s.1 ∧ s.2 ≤ g.size ∧ s.1.2.2 ≤ s.2
theorem stepL_right {g : ByteArray} {s t : LSt} (h : rightS g s) (hs : stepL g s = some t) : rightS g t ∧ s.2 < t.2 := by
  obtain ⟨⟨S, im, n⟩, p⟩ := s
  obtain ⟨h1, h2, h3⟩ := h
  dsimp only at *
  unfold stepL at hs
  obtain ⟨x, hx, hs⟩ := Option.bind_eq_some_iff.1 hs
  dsimp only at hx hs
  have hb := pT_bd h2 hx
  split at hs
  · obtain ⟨r, hr, hs⟩ := Option.bind_eq_some_iff.1 hs
    cases hs
    have hd := doB_right h1 hr
    refine ⟨⟨hd.1, ?_, ?_⟩, ?_⟩
    · show x.2.toNat ≤ g.size; omega
    · show r.2.2 ≤ x.2.toNat; omega
    · show p < x.2.toNat; omega
  · cases hs
theorem start_right (g : ByteArray) : rightS g (([], ⟨#[]⟩, 0), 0) := ⟨⟨fun i j hi hj => by simp at hj, by simp, by simp, Nat.zero_le _⟩, by simp, by simp⟩
theorem runL_right {g : ByteArray} : ∀ (f : Nat) (s : LSt), rightS g s → rightS g (runL g f s)
  | 0, s, h => h
  | f + 1, s, h => by
    unfold runL
    split
    · exact h
    · cases hs : stepL g s with
      | none => exact h
      | some t => exact runL_right f t (stepL_right h hs).1
theorem stateL_right (g : ByteArray) : rightS g (stateL g) := runL_right _ _ (start_right g)
/- One round of going on, with enough to go. -/
theorem runL_end {g : ByteArray} {f : Nat} {s : LSt} (h : g.size ≤ s.2) : runL g f s = s := by
  cases f with
  | zero => rfl
  | succ f => unfold runL; rw [if_pos h]
theorem runL_stop {g : ByteArray} {f : Nat} {s : LSt} (h : stepL g s = none) : runL g f s = s := by
  cases f with
  | zero => rfl
  | succ f =>
    unfold runL
    split
    · rfl
    · rw [h]
theorem runL_next {g : ByteArray} {f : Nat} {s t : LSt} (h : ¬ g.size ≤ s.2) (hs : stepL g s = some t) : runL g (f + 1) s = runL g f t := by
  show (if g.size ≤ s.2 then s else match stepL g s with | none => s | some t => runL g f t) = _
  rw [if_neg h, hs]
end Go.Proofs.YtnhehdobpibgkaaGreatDoor
namespace Go.Proofs.YtnhehdobpibgkaaGreatDoor
open Go.RowKit
set_option linter.unusedVariables false

def PanV (te : TypeId) (pe : Value) (w : World) : Prop := w.cell? ⟨0, 0, none⟩ = some (.iface te pe)
theorem PanV.lt {te : TypeId} {pe : Value} {w : World} (h : PanV te pe w) : 0 < w.heap.size := World.block_lt_of_cell? _ _ h
theorem PanV.below {te : TypeId} {pe : Value} {w w' : World} (h : PanV te pe w) (hb : Below w.heap.size w w') : PanV te pe w' :=
  (hb.cell (p := ⟨0, 0, none⟩) h.lt).trans h
theorem PanV.alloc {te : TypeId} {pe : Value} {w : World} (h : PanV te pe w) (o : Obj) : PanV te pe (w.alloc o) := h.below (below_new w o)
theorem PanV.but {te : TypeId} {pe : Value} {w w' : World} {b : Nat} (h : PanV te pe w) (hb : But b w w') (hne : 0 ≠ b) : PanV te pe w' :=
  (hb.cell (p := ⟨0, 0, none⟩) h.lt hne).trans h
theorem PanV.set {te : TypeId} {pe : Value} {w : World} {p : Addr} {v : Value} (h : PanV te pe w) (hne : 0 ≠ p.block) : PanV te pe (w.setCell p v) := by
  unfold PanV at h ⊢
  rw [World.cell?_setCell_other _ _ _ _ (by rintro rfl; exact hne rfl)]
  exact h
def panE (te : TypeId) (pe : Value) : Ending := .panicked [{ v := .iface te pe, recovered := false }]
set_option maxRecDepth 100000 in
set_option maxHeartbeats 1600000 in
theorem mustBe_yes (w : World) : Calls Tryz.prog 46 #[.bool true] w fun e w' => e = .returned (.tuple #[]) ∧ w' = w := by
  go_enter Tryz.func46, Tryz.ntmps46
  go_wp2
  go_end0
  exact ⟨rfl, rfl⟩
set_option maxRecDepth 100000 in
set_option maxHeartbeats 1600000 in
theorem mustBe_no (te : TypeId) (pe : Value) (w : World) (h : PanV te pe w) : Calls Tryz.prog 46 #[.bool false] w fun e w' => e = panE te pe ∧ w' = w := by
  unfold PanV at h
  go_enter Tryz.func46, Tryz.ntmps46
  go_wp2
  exact ⟨rfl, rfl, rfl⟩
def LgIs (w : World) (b : Nat) (T : Told) (at_ : Int) : Prop := ∃ v, w.heap[b]? = some (.cells #[v, .string T.2.1, .int .i64 (T.2.2 : Int), .int .i64 at_] 47 (0, 0)) ∧ OwnR w (b + 1) v T.1
theorem LgIs.call {w w' : World} {b : Nat} {T : Told} {at_ : Int} (h : LgIs w b T at_) (hb : Below w.heap.size w w') : LgIs w' b T at_ := by
  obtain ⟨v, h1, h2⟩ := h
  exact ⟨v, heap_keep h1 hb, h2.call hb⟩
def PD (te : TypeId) (pe : Value) (b : Nat) (T : Told) (at_ : Int) (o : Option Told) (w : World) (e : Ending) (w' : World) : Prop :=
  But b w w' ∧ ((∃ r, o = some r ∧ e = .returned (.tuple #[]) ∧ LgIs w' b r at_) ∨ (o = none ∧ e = panE te pe ∧ LgIs w' b T at_))
theorem own_set {w : World} {B b i : Nat} {v z : Value} {L : List Src} (h : OwnR w B v L) (hb : b < B) : OwnR (w.setCell ⟨b, i, none⟩ z) B v L :=
  OwnX.stays h (fun q hq e => Go.heap_setCell_other w ⟨b, i, none⟩ q z (by have := (h.blk q e).1; simp; omega))
theorem cellH {W : World} {b i : Nat} {cs : Array Value} {t : TypeId} {v : Value} (h : W.heap[b]? = some (.cells cs t (0, 0))) (hi : cs[i]? = some v) : W.cell? ⟨b, i, none⟩ = some v := (cell_of_row _ _ _ _ _ _ h).trans hi
theorem row40 {W : World} {b : Nat} {t : TypeId} {v0 v1 v2 v3 : Value} (h : W.heap[b]? = some (.cells #[v0, v1, v2, v3] t (0, 0))) : W.cell? ⟨b, 0, none⟩ = some v0 := cellH h rfl
theorem row20 {W : World} {b : Nat} {t : TypeId} {v0 v1 : Value} (h : W.heap[b]? = some (.cells #[v0, v1] t (0, 0))) : W.cell? ⟨b, 0, none⟩ = some v0 := cellH h rfl
theorem row21 {W : World} {b : Nat} {t : TypeId} {v0 v1 : Value} (h : W.heap[b]? = some (.cells #[v0, v1] t (0, 0))) : W.cell? ⟨b, 1, none⟩ = some v1 := cellH h rfl
/- What a record does, by its kind. -/
def putO (S : List Src) (im : ByteArray) (n : Nat) (s : Src) : Option Told := if srcsB (putR S s) then some (putR S s, im, n) else none
def dropO (S : List Src) (im : ByteArray) (n : Nat) (nm : ByteArray) : Option Told := if hasL S nm then some (dropR S nm, im, n) else none
def pubO (S : List Src) (im : ByteArray) (n : Nat) (x : ByteArray) : Option Told := if rdC x = 0 then some (S, x, n + 1) else none
theorem But.grown {b : Nat} {x y z : World} {o : Obj} {row : Option Nat} (h : But b x y) (hg : (y.alloc o).grownBy z row) (hr : ∀ k, row = some k → x.heap.size ≤ k) : But b x z :=
  ⟨hg.os.trans h.os, hg.tape.trans h.tape, hg.output.trans h.output, Nat.le_trans h.size (Nat.le_trans (by simp) hg.size), fun k hk hne => by
    have h1 := h.size
    have hky : k < (y.alloc o).heap.size := by simp; omega
    refine (hg.block k hky (fun e => by have := hr k e.symm; omega)).trans ((Go.heap_alloc_old y o (by omega)).trans (h.block k hk hne))⟩
end Go.Proofs.YtnhehdobpibgkaaGreatDoor
