/-
  No cell of these rows narrows 'for every input' (looked for: loops, veiled, ifaces, maps, wideKeys, modest, calm, conditions, laid).
  DERIVED. THE GIVEN ROWS OF THIS SEAT. 3 by the template 'for every input the law returns true; each argument reads behind the call as it read before'; 0 by the template 'total and deterministic' (their statements: YtidmhpeaehmmhabTotals.lean).
  GIVEN WITH THE SEED: the statements are not yours to turn. If you find one false, say at which input.
  Laid BY PROGRAM, IN A SANDBOX (cutbox-rows.mjs): the forced cells as the released guide's own fill.sh prints them over the translation 359867bb1bdab9b1… (all of the seat's roots in one cut). By AI agents, Wed Nov 11 2026. No macro, syntax, notation, axiom, sorry.
-/
import Derived.Test.YtidmhpeaehmmhabChecked
import GoSem.Claim
import GoSem.ClaimJoined
import GoSem.ClaimMapViews
import Derived.JoinedTies
import Derived.KernelRfl
namespace Go.Proofs.Ytidmhpeaehmmhab
/- THE CELL 'sum', in the pinned program and in every row, IS THE sha256 OF THE DUMP (.gsa) THAT YtidmhpeaehmmhabProg.lean LOADS. Nothing in Lean hashes anything: it is a label: what it is worth is what the hold of that sum in a sandbox is worth. -/
noncomputable def Try.pinned : Pinned := { name := "ytidmhpeaehmmhab", sum := "359867bb1bdab9b1e70ce82d8d88c80481cbb8ae84ce46c8fce60a3919cd0a5c", checked := Try.checked }
namespace Rows
def none {H : Type} : Left H := { results := [], args := [] }

/-- 'laws.FnExactSumOfRows': WHATEVER THE INPUT: true; the input reads as it did. -/
def fnExactSumOfRowsSpec : ChangeSpec := { name := "fnExactSumOfRows", fn := fun _ => fun
  | [d1, d2] => { results := [.lit (.bool true)], args := [d1, d2] }
  | _ => none }
def fnExactSumOfRowsRow : OpenClaim := { program := "ytidmhpeaehmmhab", sum := "359867bb1bdab9b1e70ce82d8d88c80481cbb8ae84ce46c8fce60a3919cd0a5c", func := "loop.example/g03301/laws.FnExactSumOfRows", spec := "fnExactSumOfRows", apart := false }
def FnExactSumOfRowsSaid : Prop := fnExactSumOfRowsRow.holds Try.pinned (OpenSpec.ofChange fnExactSumOfRowsSpec)

/-- ITS FALSE NEIGHBOUR: 'it returns false'. Refute it at one input. -/
def fnExactSumOfRowsWrong : ChangeSpec := { name := "fnExactSumOfRows", fn := fun _ => fun
  | [d1, d2] => { results := [.lit (.bool false)], args := [d1, d2] }
  | _ => none }
def FnExactSumOfRowsWrongFalsely : Prop := fnExactSumOfRowsRow.holds Try.pinned (OpenSpec.ofChange fnExactSumOfRowsWrong)

/-- 'laws.FnExactIsProof': WHATEVER THE INPUT: true; the input reads as it did. -/
def fnExactIsProofSpec : ChangeSpec := { name := "fnExactIsProof", fn := fun _ => fun
  | [d1, d2] => { results := [.lit (.bool true)], args := [d1, d2] }
  | _ => none }
def fnExactIsProofRow : OpenClaim := { program := "ytidmhpeaehmmhab", sum := "359867bb1bdab9b1e70ce82d8d88c80481cbb8ae84ce46c8fce60a3919cd0a5c", func := "loop.example/g03301/laws.FnExactIsProof", spec := "fnExactIsProof", apart := false }
def FnExactIsProofSaid : Prop := fnExactIsProofRow.holds Try.pinned (OpenSpec.ofChange fnExactIsProofSpec)

/-- ITS FALSE NEIGHBOUR: 'it returns false'. Refute it at one input. -/
def fnExactIsProofWrong : ChangeSpec := { name := "fnExactIsProof", fn := fun _ => fun
  | [d1, d2] => { results := [.lit (.bool false)], args := [d1, d2] }
  | _ => none }
def FnExactIsProofWrongFalsely : Prop := fnExactIsProofRow.holds Try.pinned (OpenSpec.ofChange fnExactIsProofWrong)

/-- 'laws.FnExactScaleProof': WHATEVER THE INPUT: true; the input reads as it did. -/
def fnExactScaleProofSpec : ChangeSpec := { name := "fnExactScaleProof", fn := fun _ => fun
  | [d1, d2, d3] => { results := [.lit (.bool true)], args := [d1, d2, d3] }
  | _ => none }
def fnExactScaleProofRow : OpenClaim := { program := "ytidmhpeaehmmhab", sum := "359867bb1bdab9b1e70ce82d8d88c80481cbb8ae84ce46c8fce60a3919cd0a5c", func := "loop.example/g03301/laws.FnExactScaleProof", spec := "fnExactScaleProof", apart := false }
def FnExactScaleProofSaid : Prop := fnExactScaleProofRow.holds Try.pinned (OpenSpec.ofChange fnExactScaleProofSpec)

/-- ITS FALSE NEIGHBOUR: 'it returns false'. Refute it at one input. -/
def fnExactScaleProofWrong : ChangeSpec := { name := "fnExactScaleProof", fn := fun _ => fun
  | [d1, d2, d3] => { results := [.lit (.bool false)], args := [d1, d2, d3] }
  | _ => none }
def FnExactScaleProofWrongFalsely : Prop := fnExactScaleProofRow.holds Try.pinned (OpenSpec.ofChange fnExactScaleProofWrong)

/- THE SECOND FORM. 'bulk': how many values and letters a reading holds, each counted each time it is reached (what is shared counts as often as it is met; a slice's spare places count too). A statement '..UptoSaid' is the law's where the arguments, and the package variables that the reading takes, are together of bulk at most 1048576: NARROWER than '..Said'. Prove '..Said' where nothing that the law and all that it calls make is longer than what came in: it says more and counts as full. Else prove '..UptoSaid'. A law counts once. -/
mutual
def uptoBulk {H : Type} : DataW H → Nat
  | .lit (.string bytes) => bytes.length + 1
  | .lit _ => 1
  | .nil => 1
  | .ptr d => uptoBulk d + 1
  | .slice elems spare => uptoBulkAll elems + uptoBulkAll spare + 1
  | .agg parts => uptoBulkAll parts + 1
  | .iface _ d => uptoBulk d + 1
  | .map entries => uptoBulkEntries entries + 1
  | .held _ => 1
def uptoBulkAll {H : Type} : List (DataW H) → Nat
  | [] => 0
  | d :: r => uptoBulk d + uptoBulkAll r
def uptoBulkEntries {H : Type} : List (Lit × DataW H) → Nat
  | [] => 0
  | x :: r => uptoBulkEntry x + uptoBulkEntries r
def uptoBulkEntry {H : Type} : Lit × DataW H → Nat
  | (.string bytes, d) => bytes.length + uptoBulk d + 1
  | (_, d) => uptoBulk d + 1
 end
def uptoSmall : (H : Type) → List (DataW H) → Bool := fun _ ds => decide (uptoBulkAll ds ≤ 1048576)
def OpenSpec.upto (s : _root_.Go.ChangeSpec) : _root_.Go.OpenSpec := { _root_.Go.OpenSpec.ofChange s with cond := some uptoSmall }

/-- 'laws.FnExactSumOfRows', WHERE WHAT IT READS IS OF BULK AT MOST 1048576: true; the input reads as it did. -/
def fnExactSumOfRowsUptoRow : OpenClaim := { program := "ytidmhpeaehmmhab", sum := "359867bb1bdab9b1e70ce82d8d88c80481cbb8ae84ce46c8fce60a3919cd0a5c", func := "loop.example/g03301/laws.FnExactSumOfRows", spec := "fnExactSumOfRows", apart := false, narrowed := true }
def FnExactSumOfRowsUptoSaid : Prop := fnExactSumOfRowsUptoRow.holds Try.pinned (OpenSpec.upto fnExactSumOfRowsSpec)

/-- 'laws.FnExactIsProof', WHERE WHAT IT READS IS OF BULK AT MOST 1048576: true; the input reads as it did. -/
def fnExactIsProofUptoRow : OpenClaim := { program := "ytidmhpeaehmmhab", sum := "359867bb1bdab9b1e70ce82d8d88c80481cbb8ae84ce46c8fce60a3919cd0a5c", func := "loop.example/g03301/laws.FnExactIsProof", spec := "fnExactIsProof", apart := false, narrowed := true }
def FnExactIsProofUptoSaid : Prop := fnExactIsProofUptoRow.holds Try.pinned (OpenSpec.upto fnExactIsProofSpec)

/-- 'laws.FnExactScaleProof', WHERE WHAT IT READS IS OF BULK AT MOST 1048576: true; the input reads as it did. -/
def fnExactScaleProofUptoRow : OpenClaim := { program := "ytidmhpeaehmmhab", sum := "359867bb1bdab9b1e70ce82d8d88c80481cbb8ae84ce46c8fce60a3919cd0a5c", func := "loop.example/g03301/laws.FnExactScaleProof", spec := "fnExactScaleProof", apart := false, narrowed := true }
def FnExactScaleProofUptoSaid : Prop := fnExactScaleProofUptoRow.holds Try.pinned (OpenSpec.upto fnExactScaleProofSpec)

end Rows
end Go.Proofs.Ytidmhpeaehmmhab
