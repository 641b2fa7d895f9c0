/-
  No cell of these rows narrows 'for every input' (looked for: loops, veiled, ifaces, maps, wideKeys, modest, calm, conditions, laid).
  DERIVED. THE GIVEN ROWS OF THIS SEAT. 3 by the template 'for every input the law returns true; each argument reads behind the call as it read before'; 0 by the template 'total and deterministic' (their statements: YtcjpfdlodphkeaaTotals.lean).
  GIVEN WITH THE SEED: the statements are not yours to turn. If you find one false, say at which input.
  Laid BY PROGRAM, IN A SANDBOX (cutbox-rows.mjs): the forced cells as the released guide's own fill.sh prints them over the translation 8bd1e9709984ffdd… (all of the seat's roots in one cut). By AI agents, Wed Nov 11 2026. No macro, syntax, notation, axiom, sorry.
-/
import Derived.Test.YtcjpfdlodphkeaaChecked
import GoSem.Claim
import GoSem.ClaimJoined
import GoSem.ClaimMapViews
import Derived.JoinedTies
import Derived.KernelRfl
namespace Go.Proofs.Ytcjpfdlodphkeaa
/- THE CELL 'sum', in the pinned program and in every row, IS THE sha256 OF THE DUMP (.gsa) THAT YtcjpfdlodphkeaaProg.lean LOADS. Nothing in Lean hashes anything: it is a label: what it is worth is what the hold of that sum in a sandbox is worth. -/
noncomputable def Try.pinned : Pinned := { name := "ytcjpfdlodphkeaa", sum := "8bd1e9709984ffdddfecb38f598890db3f8229429451f3be6011c5c094bbf299", checked := Try.checked }
namespace Rows
def none {H : Type} : Left H := { results := [], args := [] }

/-- 'laws.FnExactWordRead': WHATEVER THE INPUT: true; the input reads as it did. -/
def fnExactWordReadSpec : ChangeSpec := { name := "fnExactWordRead", fn := fun _ => fun
  | [d] => { results := [.lit (.bool true)], args := [d] }
  | _ => none }
def fnExactWordReadRow : OpenClaim := { program := "ytcjpfdlodphkeaa", sum := "8bd1e9709984ffdddfecb38f598890db3f8229429451f3be6011c5c094bbf299", func := "loop.example/g00367/laws.FnExactWordRead", spec := "fnExactWordRead", inPlace := ["internal/bytealg.IndexByteString", "internal/bytealg.IndexString"], unfollowed := true, recurses := true, named := ["internal/bytealg.MaxLen"], apart := false }
def FnExactWordReadSaid : Prop := fnExactWordReadRow.holds Try.pinned (OpenSpec.ofChange fnExactWordReadSpec)

/-- ITS FALSE NEIGHBOUR: 'it returns false'. Refute it at one input. -/
def fnExactWordReadWrong : ChangeSpec := { name := "fnExactWordRead", fn := fun _ => fun
  | [d] => { results := [.lit (.bool false)], args := [d] }
  | _ => none }
def FnExactWordReadWrongFalsely : Prop := fnExactWordReadRow.holds Try.pinned (OpenSpec.ofChange fnExactWordReadWrong)

/-- 'laws.FnExactSourcesRight': WHATEVER THE INPUT: true; the input reads as it did. -/
def fnExactSourcesRightSpec : ChangeSpec := { name := "fnExactSourcesRight", fn := fun _ => fun
  | [d] => { results := [.lit (.bool true)], args := [d] }
  | _ => none }
def fnExactSourcesRightRow : OpenClaim := { program := "ytcjpfdlodphkeaa", sum := "8bd1e9709984ffdddfecb38f598890db3f8229429451f3be6011c5c094bbf299", func := "loop.example/g00367/laws.FnExactSourcesRight", spec := "fnExactSourcesRight", apart := false }
def FnExactSourcesRightSaid : Prop := fnExactSourcesRightRow.holds Try.pinned (OpenSpec.ofChange fnExactSourcesRightSpec)

/-- ITS FALSE NEIGHBOUR: 'it returns false'. Refute it at one input. -/
def fnExactSourcesRightWrong : ChangeSpec := { name := "fnExactSourcesRight", fn := fun _ => fun
  | [d] => { results := [.lit (.bool false)], args := [d] }
  | _ => none }
def FnExactSourcesRightWrongFalsely : Prop := fnExactSourcesRightRow.holds Try.pinned (OpenSpec.ofChange fnExactSourcesRightWrong)

/-- 'laws.FnExactObjectRight': WHATEVER THE INPUT: true; the input reads as it did. -/
def fnExactObjectRightSpec : ChangeSpec := { name := "fnExactObjectRight", fn := fun _ => fun
  | [d] => { results := [.lit (.bool true)], args := [d] }
  | _ => none }
def fnExactObjectRightRow : OpenClaim := { program := "ytcjpfdlodphkeaa", sum := "8bd1e9709984ffdddfecb38f598890db3f8229429451f3be6011c5c094bbf299", func := "loop.example/g00367/laws.FnExactObjectRight", spec := "fnExactObjectRight", apart := false }
def FnExactObjectRightSaid : Prop := fnExactObjectRightRow.holds Try.pinned (OpenSpec.ofChange fnExactObjectRightSpec)

/-- ITS FALSE NEIGHBOUR: 'it returns false'. Refute it at one input. -/
def fnExactObjectRightWrong : ChangeSpec := { name := "fnExactObjectRight", fn := fun _ => fun
  | [d] => { results := [.lit (.bool false)], args := [d] }
  | _ => none }
def FnExactObjectRightWrongFalsely : Prop := fnExactObjectRightRow.holds Try.pinned (OpenSpec.ofChange fnExactObjectRightWrong)

/- THE SECOND FORM. 'bulk': how many values and letters a reading holds, each counted each time it is reached (what is shared counts as often as it is met; a slice's spare places count too). A statement '..UptoSaid' is the law's where the arguments, and the package variables that the reading takes, are together of bulk at most 1048576: NARROWER than '..Said'. Prove '..Said' where nothing that the law and all that it calls make is longer than what came in: it says more and counts as full. Else prove '..UptoSaid'. A law counts once. -/
mutual
def uptoBulk {H : Type} : DataW H → Nat
  | .lit (.string bytes) => bytes.length + 1
  | .lit _ => 1
  | .nil => 1
  | .ptr d => uptoBulk d + 1
  | .slice elems spare => uptoBulkAll elems + uptoBulkAll spare + 1
  | .agg parts => uptoBulkAll parts + 1
  | .iface _ d => uptoBulk d + 1
  | .map entries => uptoBulkEntries entries + 1
  | .held _ => 1
def uptoBulkAll {H : Type} : List (DataW H) → Nat
  | [] => 0
  | d :: r => uptoBulk d + uptoBulkAll r
def uptoBulkEntries {H : Type} : List (Lit × DataW H) → Nat
  | [] => 0
  | x :: r => uptoBulkEntry x + uptoBulkEntries r
def uptoBulkEntry {H : Type} : Lit × DataW H → Nat
  | (.string bytes, d) => bytes.length + uptoBulk d + 1
  | (_, d) => uptoBulk d + 1
 end
def uptoSmall : (H : Type) → List (DataW H) → Bool := fun _ ds => decide (uptoBulkAll ds ≤ 1048576)
def OpenSpec.upto (s : _root_.Go.ChangeSpec) : _root_.Go.OpenSpec := { _root_.Go.OpenSpec.ofChange s with cond := some uptoSmall }

/-- 'laws.FnExactWordRead', WHERE WHAT IT READS IS OF BULK AT MOST 1048576: true; the input reads as it did. -/
def fnExactWordReadUptoRow : OpenClaim := { program := "ytcjpfdlodphkeaa", sum := "8bd1e9709984ffdddfecb38f598890db3f8229429451f3be6011c5c094bbf299", func := "loop.example/g00367/laws.FnExactWordRead", spec := "fnExactWordRead", inPlace := ["internal/bytealg.IndexByteString", "internal/bytealg.IndexString"], unfollowed := true, recurses := true, named := ["internal/bytealg.MaxLen"], apart := false, narrowed := true }
def FnExactWordReadUptoSaid : Prop := fnExactWordReadUptoRow.holds Try.pinned (OpenSpec.upto fnExactWordReadSpec)

/-- 'laws.FnExactSourcesRight', WHERE WHAT IT READS IS OF BULK AT MOST 1048576: true; the input reads as it did. -/
def fnExactSourcesRightUptoRow : OpenClaim := { program := "ytcjpfdlodphkeaa", sum := "8bd1e9709984ffdddfecb38f598890db3f8229429451f3be6011c5c094bbf299", func := "loop.example/g00367/laws.FnExactSourcesRight", spec := "fnExactSourcesRight", apart := false, narrowed := true }
def FnExactSourcesRightUptoSaid : Prop := fnExactSourcesRightUptoRow.holds Try.pinned (OpenSpec.upto fnExactSourcesRightSpec)

/-- 'laws.FnExactObjectRight', WHERE WHAT IT READS IS OF BULK AT MOST 1048576: true; the input reads as it did. -/
def fnExactObjectRightUptoRow : OpenClaim := { program := "ytcjpfdlodphkeaa", sum := "8bd1e9709984ffdddfecb38f598890db3f8229429451f3be6011c5c094bbf299", func := "loop.example/g00367/laws.FnExactObjectRight", spec := "fnExactObjectRight", apart := false, narrowed := true }
def FnExactObjectRightUptoSaid : Prop := fnExactObjectRightUptoRow.holds Try.pinned (OpenSpec.upto fnExactObjectRightSpec)

end Rows
end Go.Proofs.Ytcjpfdlodphkeaa
