/- What a card's listed errors read as. -/
import Derived.Test.YtnhehdobpibgkaaGreatDoorRows
import Derived.WalkKit
import Derived.ProofKit
import Derived.LaidLaws
import Derived.LaidHandle
import Derived.Lib.LaidU8
import Derived.FnData
import Derived.Test.YtnhehdobpibgkaaGreatDoorNumHZq
import Derived.Test.YtnhehdobpibgkaaGreatDoorLawStateZq
import Derived.OpenShut
import Derived.ChangeArms
import Derived.Test.YtnhehdobpibgkaaGreatDoorBun0
import Derived.WalkSpells
import Derived.WalkLawsBesides
import Derived.Test.YtnhehdobpibgkaaGreatDoorBun3
namespace Go.Proofs.YtnhehdobpibgkaaGreatDoor
open Go.RowKit Go.Lib

theorem error_reads {P : Program} {W : World} {n : String} {g t : Nat} {ms : Array (String × TypeId)} {name : String} {d : DataW Unit} (hg : P.globalNamed n = some g) (ht : (P.globals[g]?).map (·.type) = some t) (hi : P.underlying t = some (.interface ms)) (h : VarReads P W n (.iface name d)) : ∃ te pe, W.cell? ⟨g, 0, none⟩ = some (.iface te pe) := by
  obtain ⟨g', t', cs, fuel, p, e1, e2, e3, e4⟩ := h
  obtain rfl := Option.some.inj (hg.symm.trans e1)
  obtain rfl := Option.some.inj (ht.symm.trans e2)
  obtain ⟨_, u, v, hc, _⟩ := iface_of_trod hi e4
  refine ⟨u, v, ?_⟩
  have h0 := World.var?_cell hg e3 0
  rw [h0]
  have : cs = #[.iface u v] := Array.toList_inj.1 hc
  rw [this]; rfl
theorem errv_of_laid {l : List (String × DataW Unit)} {W : World} (h : laidMet Tryz.prog l W) (hm : ("strconv.ErrSyntax", Rows.laid_strconv_ErrSyntax) ∈ l) : ErrV W :=
  error_reads (by kernel_rfl) (by kernel_rfl) Tryz.underlying68 (laidMet.reads h hm)
end Go.Proofs.YtnhehdobpibgkaaGreatDoor
namespace Go.Proofs.YtnhehdobpibgkaaGreatDoor
open Go.RowKit Go.Lib

theorem stv_of_laid {l : List (String × DataW Unit)} {W : World} (h : laidMet Tryz.prog l W) (hm : ("strconv.ErrSyntax", Rows.laid_strconv_ErrSyntax) ∈ l) (hm2 : ("loop.example/g00367/impl.errNoRecord", Rows.laid_loop_example_g00367_impl_errNoRecord) ∈ l) : StV W :=
  ⟨errv_of_laid h hm, error_reads (by kernel_rfl) (by kernel_rfl) Tryz.underlying68 (laidMet.reads h hm2)⟩
end Go.Proofs.YtnhehdobpibgkaaGreatDoor
namespace Go.Proofs.YtnhehdobpibgkaaGreatDoor
open Go.RowKit Go.WideShapes

set_option maxRecDepth 100000 in
theorem open_shop {H : Type} {enc : TypeId × Value → H} {w : World} {b0 : Nat} {sp : Nat → Bool} {held : Bool} {v : Value} {d : DataW H} {p : List MemPlace} (hv : Value.okWide Tryz.prog w .any b0 30 v) (h : DataW.Trod enc Tryz.prog w 0 sp held 30 v d p) :
    ∃ (g : ByteArray) (n : Int), v = .agg #[.string g, .int .i64 n] ∧ g.size ≤ maxLen ∧ (Lit.int .i64 n).wf = true := by
  obtain ⟨cs, rfl, hsz⟩ := okWide_struct Tryz.underlying30 hv
  obtain ⟨l⟩ := cs
  have hsz2 : l.length = 2 := hsz.trans (by kernel_rfl)
  match l, hsz2 with
  | [c0, c1], _ =>
    obtain ⟨fuel, hf⟩ := h
    obtain ⟨xs, k, _, hx, hl, hn, hf⟩ := DataW.trod_struct Tryz.underlying30 hf
    have k1 : Tryz.prog.cellsOf 2 = 1 := by kernel_rfl
    have k3 : Tryz.prog.cellsOf 9 = 1 := by kernel_rfl
    match xs, hn with
    | [x0, x1], _ =>
      have h0 := hf 0 _ rfl
      have h1 := hf 1 _ rfl
      simp [k1, k3, Value.cells] at h0 h1
      obtain ⟨nm, e0, _, w0⟩ := DataW.trod_string Tryz.underlying9 h0
      obtain ⟨n, e1, _, w1⟩ := DataW.trod_int Tryz.underlying2 h1
      simp at e0 e1
      subst e0 e1
      exact ⟨nm, n, rfl, w0, w1⟩
end Go.Proofs.YtnhehdobpibgkaaGreatDoor
namespace Go.Proofs.YtnhehdobpibgkaaGreatDoor
open Go.RowKit
set_option linter.unusedVariables false

set_option maxRecDepth 100000 in
set_option maxHeartbeats 1600000 in
theorem szShop_any (g : ByteArray) (sy left : Int) (w : World) (h1 : g.size ≤ maxLen) (h0 : 0 ≤ left) (hl : left ≤ 1048576) : Calls Tryz.prog 13 #[.agg #[.string g, .int .i64 sy], .int .i64 left] w (SzOut (g.size ≤ 1048576) w) := by
  unfold maxLen at h1
  by_cases k1 : left - (g.size : Int) < 0
  · go_enter Tryz.func13, Tryz.ntmps13
    go_wp2
    go_ret
    exact ⟨-1, rfl, by omega, fun h => by omega, below_new _ _⟩
  · go_enter Tryz.func13, Tryz.ntmps13
    go_wp2
    go_ret
    exact ⟨_, rfl, by omega, fun h => by omega, below_new _ _⟩
set_option maxRecDepth 100000 in
set_option maxHeartbeats 1600000 in
theorem toShop_any (g : ByteArray) (sy : Int) (w : World) : Calls Tryz.prog 15 #[.agg #[.string g, .int .i64 sy]] w fun e w' => e = .returned (.agg #[.string g, .int .i64 sy]) ∧ Below w.heap.size w w' := by
  go_enter Tryz.func15, Tryz.ntmps15
  go_wp2
  exact bodyPost_ret (results_cell_row Tryz.results15 _ _ (w.heap.size + 1) 33 _ (0, 0) _ rfl (heap_more (heap_new2 w _ _) _) Tryz.underlying33 rfl (by kernel_rfl)) rfl ⟨rfl, below_more (below_more (below_new _ _) _) _⟩
set_option maxRecDepth 100000 in
set_option maxHeartbeats 1600000 in
theorem eqShop_any (g : ByteArray) (sy : Int) (w : World) : Calls Tryz.prog 24 #[.agg #[.string g, .int .i64 sy], .agg #[.string g, .int .i64 sy]] w fun e w' => e = .returned (.bool true) ∧ Below w.heap.size w w' := by
  go_enter Tryz.func24, Tryz.ntmps24
  go_wp2
  go_ret
  exact ⟨rfl, below_more (below_new _ _) _⟩
end Go.Proofs.YtnhehdobpibgkaaGreatDoor
