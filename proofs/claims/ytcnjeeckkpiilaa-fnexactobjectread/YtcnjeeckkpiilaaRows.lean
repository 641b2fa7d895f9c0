/-
  No cell of these rows narrows 'for every input' (looked for: loops, veiled, ifaces, maps, wideKeys, modest, calm, conditions, laid).
  DERIVED. THE GIVEN ROWS OF THIS SEAT. 4 by the template 'for every input the law returns true; each argument reads behind the call as it read before'; 0 by the template 'total and deterministic' (their statements: YtcnjeeckkpiilaaTotals.lean).
  GIVEN WITH THE SEED: the statements are not yours to turn. If you find one false, say at which input.
  Laid BY PROGRAM, IN A SANDBOX (cutbox-rows.mjs): the forced cells as the released guide's own fill.sh prints them over the translation 1756944b1ceb4d27… (all of the seat's roots in one cut). By AI agents, Wed Nov 11 2026. No macro, syntax, notation, axiom, sorry.
-/
import Derived.Test.YtcnjeeckkpiilaaChecked
import GoSem.Claim
import GoSem.ClaimJoined
import GoSem.ClaimMapViews
import Derived.JoinedTies
import Derived.KernelRfl
namespace Go.Proofs.Ytcnjeeckkpiilaa
/- THE CELL 'sum', in the pinned program and in every row, IS THE sha256 OF THE DUMP (.gsa) THAT YtcnjeeckkpiilaaProg.lean LOADS. Nothing in Lean hashes anything: it is a label: what it is worth is what the hold of that sum in a sandbox is worth. -/
noncomputable def Try.pinned : Pinned := { name := "ytcnjeeckkpiilaa", sum := "1756944b1ceb4d27c05523d95035115fe17adfccd128497a64c4437fb5cc226f", checked := Try.checked }
namespace Rows
def none {H : Type} : Left H := { results := [], args := [] }

/-- 'laws.FnExactDigest': WHATEVER THE INPUT: true; the input reads as it did. -/
def fnExactDigestSpec : ChangeSpec := { name := "fnExactDigest", fn := fun _ => fun
  | [d] => { results := [.lit (.bool true)], args := [d] }
  | _ => none }
def fnExactDigestRow : OpenClaim := { program := "ytcnjeeckkpiilaa", sum := "1756944b1ceb4d27c05523d95035115fe17adfccd128497a64c4437fb5cc226f", func := "loop.example/g00367/laws.FnExactDigest", spec := "fnExactDigest", apart := false }
def FnExactDigestSaid : Prop := fnExactDigestRow.holds Try.pinned (OpenSpec.ofChange fnExactDigestSpec)

/-- ITS FALSE NEIGHBOUR: 'it returns false'. Refute it at one input. -/
def fnExactDigestWrong : ChangeSpec := { name := "fnExactDigest", fn := fun _ => fun
  | [d] => { results := [.lit (.bool false)], args := [d] }
  | _ => none }
def FnExactDigestWrongFalsely : Prop := fnExactDigestRow.holds Try.pinned (OpenSpec.ofChange fnExactDigestWrong)

/-- 'laws.FnExactObjectBytes': WHATEVER THE INPUT: true; the input reads as it did. -/
def fnExactObjectBytesSpec : ChangeSpec := { name := "fnExactObjectBytes", fn := fun _ => fun
  | [d] => { results := [.lit (.bool true)], args := [d] }
  | _ => none }
def fnExactObjectBytesRow : OpenClaim := { program := "ytcnjeeckkpiilaa", sum := "1756944b1ceb4d27c05523d95035115fe17adfccd128497a64c4437fb5cc226f", func := "loop.example/g00367/laws.FnExactObjectBytes", spec := "fnExactObjectBytes", unfollowed := true, recurses := true, apart := false }
def FnExactObjectBytesSaid : Prop := fnExactObjectBytesRow.holds Try.pinned (OpenSpec.ofChange fnExactObjectBytesSpec)

/-- ITS FALSE NEIGHBOUR: 'it returns false'. Refute it at one input. -/
def fnExactObjectBytesWrong : ChangeSpec := { name := "fnExactObjectBytes", fn := fun _ => fun
  | [d] => { results := [.lit (.bool false)], args := [d] }
  | _ => none }
def FnExactObjectBytesWrongFalsely : Prop := fnExactObjectBytesRow.holds Try.pinned (OpenSpec.ofChange fnExactObjectBytesWrong)

/-- 'laws.FnExactObjectRead': WHATEVER THE INPUT: true; the input reads as it did. -/
def fnExactObjectReadSpec : ChangeSpec := { name := "fnExactObjectRead", fn := fun _ => fun
  | [d] => { results := [.lit (.bool true)], args := [d] }
  | _ => none }
def fnExactObjectReadRow : OpenClaim := { program := "ytcnjeeckkpiilaa", sum := "1756944b1ceb4d27c05523d95035115fe17adfccd128497a64c4437fb5cc226f", func := "loop.example/g00367/laws.FnExactObjectRead", spec := "fnExactObjectRead", unfollowed := true, recurses := true, apart := false }
def FnExactObjectReadSaid : Prop := fnExactObjectReadRow.holds Try.pinned (OpenSpec.ofChange fnExactObjectReadSpec)

/-- ITS FALSE NEIGHBOUR: 'it returns false'. Refute it at one input. -/
def fnExactObjectReadWrong : ChangeSpec := { name := "fnExactObjectRead", fn := fun _ => fun
  | [d] => { results := [.lit (.bool false)], args := [d] }
  | _ => none }
def FnExactObjectReadWrongFalsely : Prop := fnExactObjectReadRow.holds Try.pinned (OpenSpec.ofChange fnExactObjectReadWrong)

/-- 'laws.FnExactCacheRight': WHATEVER THE INPUT: true; the input reads as it did. -/
def fnExactCacheRightSpec : ChangeSpec := { name := "fnExactCacheRight", fn := fun _ => fun
  | [d] => { results := [.lit (.bool true)], args := [d] }
  | _ => none }
def fnExactCacheRightRow : OpenClaim := { program := "ytcnjeeckkpiilaa", sum := "1756944b1ceb4d27c05523d95035115fe17adfccd128497a64c4437fb5cc226f", func := "loop.example/g00367/laws.FnExactCacheRight", spec := "fnExactCacheRight", unfollowed := true, recurses := true, apart := false }
def FnExactCacheRightSaid : Prop := fnExactCacheRightRow.holds Try.pinned (OpenSpec.ofChange fnExactCacheRightSpec)

/-- ITS FALSE NEIGHBOUR: 'it returns false'. Refute it at one input. -/
def fnExactCacheRightWrong : ChangeSpec := { name := "fnExactCacheRight", fn := fun _ => fun
  | [d] => { results := [.lit (.bool false)], args := [d] }
  | _ => none }
def FnExactCacheRightWrongFalsely : Prop := fnExactCacheRightRow.holds Try.pinned (OpenSpec.ofChange fnExactCacheRightWrong)

/- THE SECOND FORM. 'bulk': how many values and letters a reading holds, each counted each time it is reached (what is shared counts as often as it is met; a slice's spare places count too). A statement '..UptoSaid' is the law's where the arguments, and the package variables that the reading takes, are together of bulk at most 1048576: NARROWER than '..Said'. Prove '..Said' where nothing that the law and all that it calls make is longer than what came in: it says more and counts as full. Else prove '..UptoSaid'. A law counts once. -/
mutual
def uptoBulk {H : Type} : DataW H → Nat
  | .lit (.string bytes) => bytes.length + 1
  | .lit _ => 1
  | .nil => 1
  | .ptr d => uptoBulk d + 1
  | .slice elems spare => uptoBulkAll elems + uptoBulkAll spare + 1
  | .agg parts => uptoBulkAll parts + 1
  | .iface _ d => uptoBulk d + 1
  | .map entries => uptoBulkEntries entries + 1
  | .held _ => 1
def uptoBulkAll {H : Type} : List (DataW H) → Nat
  | [] => 0
  | d :: r => uptoBulk d + uptoBulkAll r
def uptoBulkEntries {H : Type} : List (Lit × DataW H) → Nat
  | [] => 0
  | x :: r => uptoBulkEntry x + uptoBulkEntries r
def uptoBulkEntry {H : Type} : Lit × DataW H → Nat
  | (.string bytes, d) => bytes.length + uptoBulk d + 1
  | (_, d) => uptoBulk d + 1
 end
def uptoSmall : (H : Type) → List (DataW H) → Bool := fun _ ds => decide (uptoBulkAll ds ≤ 1048576)
def OpenSpec.upto (s : _root_.Go.ChangeSpec) : _root_.Go.OpenSpec := { _root_.Go.OpenSpec.ofChange s with cond := some uptoSmall }

/-- 'laws.FnExactDigest', WHERE WHAT IT READS IS OF BULK AT MOST 1048576: true; the input reads as it did. -/
def fnExactDigestUptoRow : OpenClaim := { program := "ytcnjeeckkpiilaa", sum := "1756944b1ceb4d27c05523d95035115fe17adfccd128497a64c4437fb5cc226f", func := "loop.example/g00367/laws.FnExactDigest", spec := "fnExactDigest", apart := false, narrowed := true }
def FnExactDigestUptoSaid : Prop := fnExactDigestUptoRow.holds Try.pinned (OpenSpec.upto fnExactDigestSpec)

/-- 'laws.FnExactObjectBytes', WHERE WHAT IT READS IS OF BULK AT MOST 1048576: true; the input reads as it did. -/
def fnExactObjectBytesUptoRow : OpenClaim := { program := "ytcnjeeckkpiilaa", sum := "1756944b1ceb4d27c05523d95035115fe17adfccd128497a64c4437fb5cc226f", func := "loop.example/g00367/laws.FnExactObjectBytes", spec := "fnExactObjectBytes", unfollowed := true, recurses := true, apart := false, narrowed := true }
def FnExactObjectBytesUptoSaid : Prop := fnExactObjectBytesUptoRow.holds Try.pinned (OpenSpec.upto fnExactObjectBytesSpec)

/-- 'laws.FnExactObjectRead', WHERE WHAT IT READS IS OF BULK AT MOST 1048576: true; the input reads as it did. -/
def fnExactObjectReadUptoRow : OpenClaim := { program := "ytcnjeeckkpiilaa", sum := "1756944b1ceb4d27c05523d95035115fe17adfccd128497a64c4437fb5cc226f", func := "loop.example/g00367/laws.FnExactObjectRead", spec := "fnExactObjectRead", unfollowed := true, recurses := true, apart := false, narrowed := true }
def FnExactObjectReadUptoSaid : Prop := fnExactObjectReadUptoRow.holds Try.pinned (OpenSpec.upto fnExactObjectReadSpec)

/-- 'laws.FnExactCacheRight', WHERE WHAT IT READS IS OF BULK AT MOST 1048576: true; the input reads as it did. -/
def fnExactCacheRightUptoRow : OpenClaim := { program := "ytcnjeeckkpiilaa", sum := "1756944b1ceb4d27c05523d95035115fe17adfccd128497a64c4437fb5cc226f", func := "loop.example/g00367/laws.FnExactCacheRight", spec := "fnExactCacheRight", unfollowed := true, recurses := true, apart := false, narrowed := true }
def FnExactCacheRightUptoSaid : Prop := fnExactCacheRightUptoRow.holds Try.pinned (OpenSpec.upto fnExactCacheRightSpec)

end Rows
end Go.Proofs.Ytcnjeeckkpiilaa
