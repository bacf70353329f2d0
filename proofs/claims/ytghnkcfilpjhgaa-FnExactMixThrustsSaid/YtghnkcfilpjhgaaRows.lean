/-
  No cell of these rows narrows 'for every input' (looked for: loops, veiled, ifaces, maps, wideKeys, modest, calm, conditions, laid).
  DERIVED. THE GIVEN ROWS OF THIS SEAT. 4 by the template 'for every input the law returns true; each argument reads behind the call as it read before'; 0 by the template 'total and deterministic' (their statements: YtghnkcfilpjhgaaTotals.lean).
  GIVEN WITH THE SEED: the statements are not yours to turn. If you find one false, say at which input.
  Laid BY PROGRAM, IN A SANDBOX (cutbox-rows.mjs): the forced cells as the released guide's own fill.sh prints them over the translation b7c8f3f55f38e5fb… (all of the seat's roots in one cut). By AI agents, Wed Nov 11 2026. No macro, syntax, notation, axiom, sorry.
-/
import Derived.Test.YtghnkcfilpjhgaaChecked
import GoSem.Claim
import GoSem.ClaimJoined
import GoSem.ClaimMapViews
import Derived.JoinedTies
import Derived.KernelRfl
namespace Go.Proofs.Ytghnkcfilpjhgaa
/- THE CELL 'sum', in the pinned program and in every row, IS THE sha256 OF THE DUMP (.gsa) THAT YtghnkcfilpjhgaaProg.lean LOADS. Nothing in Lean hashes anything: it is a label: what it is worth is what the hold of that sum in a sandbox is worth. -/
noncomputable def Try.pinned : Pinned := { name := "ytghnkcfilpjhgaa", sum := "b7c8f3f55f38e5fbc56400634bf8c60ad62402dea0aa65df07b7f9ac3d829254", checked := Try.checked }
namespace Rows
def none {H : Type} : Left H := { results := [], args := [] }

/-- 'laws.FnExactThrustOk': WHATEVER THE INPUT: true; the input reads as it did. -/
def fnExactThrustOkSpec : ChangeSpec := { name := "fnExactThrustOk", fn := fun _ => fun
  | [d] => { results := [.lit (.bool true)], args := [d] }
  | _ => none }
def fnExactThrustOkRow : OpenClaim := { program := "ytghnkcfilpjhgaa", sum := "b7c8f3f55f38e5fbc56400634bf8c60ad62402dea0aa65df07b7f9ac3d829254", func := "loop.example/g03301/laws.FnExactThrustOk", spec := "fnExactThrustOk", apart := false }
def FnExactThrustOkSaid : Prop := fnExactThrustOkRow.holds Try.pinned (OpenSpec.ofChange fnExactThrustOkSpec)

/-- ITS FALSE NEIGHBOUR: 'it returns false'. Refute it at one input. -/
def fnExactThrustOkWrong : ChangeSpec := { name := "fnExactThrustOk", fn := fun _ => fun
  | [d] => { results := [.lit (.bool false)], args := [d] }
  | _ => none }
def FnExactThrustOkWrongFalsely : Prop := fnExactThrustOkRow.holds Try.pinned (OpenSpec.ofChange fnExactThrustOkWrong)

/-- 'laws.FnExactMakeThrust': WHATEVER THE INPUT: true; the input reads as it did. -/
def fnExactMakeThrustSpec : ChangeSpec := { name := "fnExactMakeThrust", fn := fun _ => fun
  | [d1, d2, d3, d4] => { results := [.lit (.bool true)], args := [d1, d2, d3, d4] }
  | _ => none }
def fnExactMakeThrustRow : OpenClaim := { program := "ytghnkcfilpjhgaa", sum := "b7c8f3f55f38e5fbc56400634bf8c60ad62402dea0aa65df07b7f9ac3d829254", func := "loop.example/g03301/laws.FnExactMakeThrust", spec := "fnExactMakeThrust", apart := false }
def FnExactMakeThrustSaid : Prop := fnExactMakeThrustRow.holds Try.pinned (OpenSpec.ofChange fnExactMakeThrustSpec)

/-- ITS FALSE NEIGHBOUR: 'it returns false'. Refute it at one input. -/
def fnExactMakeThrustWrong : ChangeSpec := { name := "fnExactMakeThrust", fn := fun _ => fun
  | [d1, d2, d3, d4] => { results := [.lit (.bool false)], args := [d1, d2, d3, d4] }
  | _ => none }
def FnExactMakeThrustWrongFalsely : Prop := fnExactMakeThrustRow.holds Try.pinned (OpenSpec.ofChange fnExactMakeThrustWrong)

/-- 'laws.FnExactCompareThrusts': WHATEVER THE INPUT: true; the input reads as it did. -/
def fnExactCompareThrustsSpec : ChangeSpec := { name := "fnExactCompareThrusts", fn := fun _ => fun
  | [d1, d2] => { results := [.lit (.bool true)], args := [d1, d2] }
  | _ => none }
def fnExactCompareThrustsRow : OpenClaim := { program := "ytghnkcfilpjhgaa", sum := "b7c8f3f55f38e5fbc56400634bf8c60ad62402dea0aa65df07b7f9ac3d829254", func := "loop.example/g03301/laws.FnExactCompareThrusts", spec := "fnExactCompareThrusts", apart := false }
def FnExactCompareThrustsSaid : Prop := fnExactCompareThrustsRow.holds Try.pinned (OpenSpec.ofChange fnExactCompareThrustsSpec)

/-- ITS FALSE NEIGHBOUR: 'it returns false'. Refute it at one input. -/
def fnExactCompareThrustsWrong : ChangeSpec := { name := "fnExactCompareThrusts", fn := fun _ => fun
  | [d1, d2] => { results := [.lit (.bool false)], args := [d1, d2] }
  | _ => none }
def FnExactCompareThrustsWrongFalsely : Prop := fnExactCompareThrustsRow.holds Try.pinned (OpenSpec.ofChange fnExactCompareThrustsWrong)

/-- 'laws.FnExactMixThrusts': WHATEVER THE INPUT: true; the input reads as it did. -/
def fnExactMixThrustsSpec : ChangeSpec := { name := "fnExactMixThrusts", fn := fun _ => fun
  | [d1, d2] => { results := [.lit (.bool true)], args := [d1, d2] }
  | _ => none }
def fnExactMixThrustsRow : OpenClaim := { program := "ytghnkcfilpjhgaa", sum := "b7c8f3f55f38e5fbc56400634bf8c60ad62402dea0aa65df07b7f9ac3d829254", func := "loop.example/g03301/laws.FnExactMixThrusts", spec := "fnExactMixThrusts", apart := false }
def FnExactMixThrustsSaid : Prop := fnExactMixThrustsRow.holds Try.pinned (OpenSpec.ofChange fnExactMixThrustsSpec)

/-- ITS FALSE NEIGHBOUR: 'it returns false'. Refute it at one input. -/
def fnExactMixThrustsWrong : ChangeSpec := { name := "fnExactMixThrusts", fn := fun _ => fun
  | [d1, d2] => { results := [.lit (.bool false)], args := [d1, d2] }
  | _ => none }
def FnExactMixThrustsWrongFalsely : Prop := fnExactMixThrustsRow.holds Try.pinned (OpenSpec.ofChange fnExactMixThrustsWrong)

/- THE SECOND FORM. 'bulk': how many values and letters a reading holds, each counted each time it is reached (what is shared counts as often as it is met; a slice's spare places count too). A statement '..UptoSaid' is the law's where the arguments, and the package variables that the reading takes, are together of bulk at most 1048576: NARROWER than '..Said'. Prove '..Said' where nothing that the law and all that it calls make is longer than what came in: it says more and counts as full. Else prove '..UptoSaid'. A law counts once. -/
mutual
def uptoBulk {H : Type} : DataW H → Nat
  | .lit (.string bytes) => bytes.length + 1
  | .lit _ => 1
  | .nil => 1
  | .ptr d => uptoBulk d + 1
  | .slice elems spare => uptoBulkAll elems + uptoBulkAll spare + 1
  | .agg parts => uptoBulkAll parts + 1
  | .iface _ d => uptoBulk d + 1
  | .map entries => uptoBulkEntries entries + 1
  | .held _ => 1
def uptoBulkAll {H : Type} : List (DataW H) → Nat
  | [] => 0
  | d :: r => uptoBulk d + uptoBulkAll r
def uptoBulkEntries {H : Type} : List (Lit × DataW H) → Nat
  | [] => 0
  | x :: r => uptoBulkEntry x + uptoBulkEntries r
def uptoBulkEntry {H : Type} : Lit × DataW H → Nat
  | (.string bytes, d) => bytes.length + uptoBulk d + 1
  | (_, d) => uptoBulk d + 1
 end
def uptoSmall : (H : Type) → List (DataW H) → Bool := fun _ ds => decide (uptoBulkAll ds ≤ 1048576)
def OpenSpec.upto (s : _root_.Go.ChangeSpec) : _root_.Go.OpenSpec := { _root_.Go.OpenSpec.ofChange s with cond := some uptoSmall }

/-- 'laws.FnExactThrustOk', WHERE WHAT IT READS IS OF BULK AT MOST 1048576: true; the input reads as it did. -/
def fnExactThrustOkUptoRow : OpenClaim := { program := "ytghnkcfilpjhgaa", sum := "b7c8f3f55f38e5fbc56400634bf8c60ad62402dea0aa65df07b7f9ac3d829254", func := "loop.example/g03301/laws.FnExactThrustOk", spec := "fnExactThrustOk", apart := false, narrowed := true }
def FnExactThrustOkUptoSaid : Prop := fnExactThrustOkUptoRow.holds Try.pinned (OpenSpec.upto fnExactThrustOkSpec)

/-- 'laws.FnExactMakeThrust', WHERE WHAT IT READS IS OF BULK AT MOST 1048576: true; the input reads as it did. -/
def fnExactMakeThrustUptoRow : OpenClaim := { program := "ytghnkcfilpjhgaa", sum := "b7c8f3f55f38e5fbc56400634bf8c60ad62402dea0aa65df07b7f9ac3d829254", func := "loop.example/g03301/laws.FnExactMakeThrust", spec := "fnExactMakeThrust", apart := false, narrowed := true }
def FnExactMakeThrustUptoSaid : Prop := fnExactMakeThrustUptoRow.holds Try.pinned (OpenSpec.upto fnExactMakeThrustSpec)

/-- 'laws.FnExactCompareThrusts', WHERE WHAT IT READS IS OF BULK AT MOST 1048576: true; the input reads as it did. -/
def fnExactCompareThrustsUptoRow : OpenClaim := { program := "ytghnkcfilpjhgaa", sum := "b7c8f3f55f38e5fbc56400634bf8c60ad62402dea0aa65df07b7f9ac3d829254", func := "loop.example/g03301/laws.FnExactCompareThrusts", spec := "fnExactCompareThrusts", apart := false, narrowed := true }
def FnExactCompareThrustsUptoSaid : Prop := fnExactCompareThrustsUptoRow.holds Try.pinned (OpenSpec.upto fnExactCompareThrustsSpec)

/-- 'laws.FnExactMixThrusts', WHERE WHAT IT READS IS OF BULK AT MOST 1048576: true; the input reads as it did. -/
def fnExactMixThrustsUptoRow : OpenClaim := { program := "ytghnkcfilpjhgaa", sum := "b7c8f3f55f38e5fbc56400634bf8c60ad62402dea0aa65df07b7f9ac3d829254", func := "loop.example/g03301/laws.FnExactMixThrusts", spec := "fnExactMixThrusts", apart := false, narrowed := true }
def FnExactMixThrustsUptoSaid : Prop := fnExactMixThrustsUptoRow.holds Try.pinned (OpenSpec.upto fnExactMixThrustsSpec)

end Rows
end Go.Proofs.Ytghnkcfilpjhgaa
