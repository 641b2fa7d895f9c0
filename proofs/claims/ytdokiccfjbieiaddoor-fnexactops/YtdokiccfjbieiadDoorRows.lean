/-
  NARROWER THAN 'FOR EVERY INPUT', by the rows' own cells (each row's printed sentence says how): FnExactOps: laid.
  DERIVED. THE GIVEN ROWS OF THIS SEAT. 1 by the template 'for every input the law returns true; each argument reads behind the call as it read before'; 0 by the template 'total and deterministic' (their statements: YtdokiccfjbieiadDoorTotals.lean).
  GIVEN WITH THE SEED: the statements are not yours to turn. If you find one false, say at which input.
  Laid BY PROGRAM, IN A SANDBOX (cutbox-rows.mjs): the forced cells as the released guide's own fill.sh prints them over the translation 524f3e96c9231127… (all of the seat's roots in one cut). By AI agents, Wed Nov 11 2026. No macro, syntax, notation, axiom, sorry.
-/
import Derived.Test.YtdokiccfjbieiadDoorChecked
import GoSem.Claim
import GoSem.ClaimJoined
import GoSem.ClaimMapViews
import Derived.JoinedTies
import Derived.KernelRfl
namespace Go.Proofs.YtdokiccfjbieiadDoor
/- THE CELL 'sum', in the pinned program and in every row, IS THE sha256 OF THE DUMP (.gsa) THAT YtdokiccfjbieiadDoorProg.lean LOADS. Nothing in Lean hashes anything: it is a label: what it is worth is what the hold of that sum in a sandbox is worth. -/
noncomputable def Tryd.pinned : Pinned := { name := "ytdokiccfjbieiaddoor", sum := "524f3e96c92311274bc0fe6265b923fba99342c316313e7586fff342591ccb1d", checked := Tryd.checked }
namespace Rows
def none {H : Type} : Left H := { results := [], args := [] }

/- WHAT THE LISTED PACKAGE-LEVEL VARIABLES READ AS WHEN THE CALL BEGINS. Each datum BY PROGRAM (the guide's laid-datum.mjs) off the statement by which the dump's own 'gosem.cut.vars' lays the variable. In a bare row this is a premise. The card (YtdokiccfjbieiadDoorCards.lean) ties it to the program's text. -/
def laid_loop_example_g00367_impl_opNames {H : Type} : DataW H := .agg [.agg [.lit (.string []), .lit (.string []), .lit (.string []), .lit (.string []), .lit (.string [109, 111, 118]), .lit (.string [97, 100, 100]), .lit (.string [97, 100, 100, 99]), .lit (.string [115, 117, 98, 99]), .lit (.string [115, 117, 98]), .lit (.string [99, 109, 112]), .lit (.string [100, 97, 100, 100]), .lit (.string [98, 105, 116]), .lit (.string [98, 105, 99]), .lit (.string [98, 105, 115]), .lit (.string [120, 111, 114]), .lit (.string [97, 110, 100])], .agg [.lit (.string [114, 114, 99]), .lit (.string [115, 119, 112, 98]), .lit (.string [114, 114, 97]), .lit (.string [115, 120, 116]), .lit (.string [112, 117, 115, 104]), .lit (.string [99, 97, 108, 108]), .lit (.string [114, 101, 116, 105]), .lit (.string []), .lit (.string []), .lit (.string []), .lit (.string []), .lit (.string []), .lit (.string []), .lit (.string []), .lit (.string []), .lit (.string [])], .agg [.lit (.string [106, 110, 101]), .lit (.string [106, 101, 113]), .lit (.string [106, 110, 99]), .lit (.string [106, 99]), .lit (.string [106, 110]), .lit (.string [106, 103, 101]), .lit (.string [106, 108]), .lit (.string [106, 109, 112]), .lit (.string []), .lit (.string []), .lit (.string []), .lit (.string []), .lit (.string []), .lit (.string []), .lit (.string []), .lit (.string [])]]

/-- 'laws.FnExactOps': WHATEVER THE INPUT: true; the input reads as it did. -/
def fnExactOpsSpec : ChangeSpec := { name := "fnExactOps", vars := ["loop.example/g00367/impl.opNames"], fn := fun _ => fun
  | [g1] => { results := [.lit (.bool true)], args := [], vars := [g1] }
  | _ => none }
def fnExactOpsRow : OpenClaim := { program := "ytdokiccfjbieiaddoor", sum := "524f3e96c92311274bc0fe6265b923fba99342c316313e7586fff342591ccb1d", func := "loop.example/g00367/laws.FnExactOps", spec := "fnExactOps", named := ["loop.example/g00367/impl.opNames"], apart := false, laid := [("loop.example/g00367/impl.opNames", laid_loop_example_g00367_impl_opNames)] }
def FnExactOpsSaid : Prop := fnExactOpsRow.holds Tryd.pinned (OpenSpec.ofChange fnExactOpsSpec)

/-- ITS FALSE NEIGHBOUR: 'it returns false'. Refute it at one input. -/
def fnExactOpsWrong : ChangeSpec := { name := "fnExactOps", vars := ["loop.example/g00367/impl.opNames"], fn := fun _ => fun
  | [g1] => { results := [.lit (.bool false)], args := [], vars := [g1] }
  | _ => none }
def FnExactOpsWrongFalsely : Prop := fnExactOpsRow.holds Tryd.pinned (OpenSpec.ofChange fnExactOpsWrong)

/- THE SECOND FORM. 'bulk': how many values and letters a reading holds, each counted each time it is reached (what is shared counts as often as it is met; a slice's spare places count too). A statement '..UptoSaid' is the law's where the arguments, and the package variables that the reading takes, are together of bulk at most 1048576: NARROWER than '..Said'. Prove '..Said' where nothing that the law and all that it calls make is longer than what came in: it says more and counts as full. Else prove '..UptoSaid'. A law counts once. -/
mutual
def uptoBulk {H : Type} : DataW H → Nat
  | .lit (.string bytes) => bytes.length + 1
  | .lit _ => 1
  | .nil => 1
  | .ptr d => uptoBulk d + 1
  | .slice elems spare => uptoBulkAll elems + uptoBulkAll spare + 1
  | .agg parts => uptoBulkAll parts + 1
  | .iface _ d => uptoBulk d + 1
  | .map entries => uptoBulkEntries entries + 1
  | .held _ => 1
def uptoBulkAll {H : Type} : List (DataW H) → Nat
  | [] => 0
  | d :: r => uptoBulk d + uptoBulkAll r
def uptoBulkEntries {H : Type} : List (Lit × DataW H) → Nat
  | [] => 0
  | x :: r => uptoBulkEntry x + uptoBulkEntries r
def uptoBulkEntry {H : Type} : Lit × DataW H → Nat
  | (.string bytes, d) => bytes.length + uptoBulk d + 1
  | (_, d) => uptoBulk d + 1
 end
def uptoSmall : (H : Type) → List (DataW H) → Bool := fun _ ds => decide (uptoBulkAll ds ≤ 1048576)
def OpenSpec.upto (s : _root_.Go.ChangeSpec) : _root_.Go.OpenSpec := { _root_.Go.OpenSpec.ofChange s with cond := some uptoSmall }

/-- 'laws.FnExactOps', WHERE WHAT IT READS IS OF BULK AT MOST 1048576: true; the input reads as it did. -/
def fnExactOpsUptoRow : OpenClaim := { program := "ytdokiccfjbieiaddoor", sum := "524f3e96c92311274bc0fe6265b923fba99342c316313e7586fff342591ccb1d", func := "loop.example/g00367/laws.FnExactOps", spec := "fnExactOps", named := ["loop.example/g00367/impl.opNames"], apart := false, laid := [("loop.example/g00367/impl.opNames", laid_loop_example_g00367_impl_opNames)], narrowed := true }
def FnExactOpsUptoSaid : Prop := fnExactOpsUptoRow.holds Tryd.pinned (OpenSpec.upto fnExactOpsSpec)

end Rows
end Go.Proofs.YtdokiccfjbieiadDoor
