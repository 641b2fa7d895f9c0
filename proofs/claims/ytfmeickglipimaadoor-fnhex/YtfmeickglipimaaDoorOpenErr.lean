/- What a card's listed errors read as. -/
import Derived.Test.YtfmeickglipimaaDoorRows
import Derived.WalkKit
import Derived.ProofKit
import Derived.LaidLaws
import Derived.LaidHandle
import Derived.Lib.LaidU8
import Derived.FnData
import Derived.Test.YtfmeickglipimaaDoorNumH
namespace Go.Proofs.YtfmeickglipimaaDoor
open Go.RowKit Go.Lib

theorem error_reads {P : Program} {W : World} {n : String} {g t : Nat} {ms : Array (String × TypeId)} {name : String} {d : DataW Unit} (hg : P.globalNamed n = some g) (ht : (P.globals[g]?).map (·.type) = some t) (hi : P.underlying t = some (.interface ms)) (h : VarReads P W n (.iface name d)) : ∃ te pe, W.cell? ⟨g, 0, none⟩ = some (.iface te pe) := by
  obtain ⟨g', t', cs, fuel, p, e1, e2, e3, e4⟩ := h
  obtain rfl := Option.some.inj (hg.symm.trans e1)
  obtain rfl := Option.some.inj (ht.symm.trans e2)
  obtain ⟨_, u, v, hc, _⟩ := iface_of_trod hi e4
  refine ⟨u, v, ?_⟩
  have h0 := World.var?_cell hg e3 0
  rw [h0]
  have : cs = #[.iface u v] := Array.toList_inj.1 hc
  rw [this]; rfl
theorem errv_of_laid {l : List (String × DataW Unit)} {W : World} (h : laidMet Tryd.prog l W) (hm : ("strconv.ErrSyntax", Rows.laid_strconv_ErrSyntax) ∈ l) : ErrV W :=
  error_reads (by kernel_rfl) (by kernel_rfl) Tryd.underlying85 (laidMet.reads h hm)
end Go.Proofs.YtfmeickglipimaaDoor
