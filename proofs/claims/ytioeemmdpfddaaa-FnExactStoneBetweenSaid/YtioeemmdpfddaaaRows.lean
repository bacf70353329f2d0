/-
  No cell of these rows narrows 'for every input' (looked for: loops, veiled, ifaces, maps, wideKeys, modest, calm, conditions, laid).
  DERIVED. THE GIVEN ROWS OF THIS SEAT. 5 by the template 'for every input the law returns true; each argument reads behind the call as it read before'; 0 by the template 'total and deterministic' (their statements: YtioeemmdpfddaaaTotals.lean).
  GIVEN WITH THE SEED: the statements are not yours to turn. If you find one false, say at which input.
  Laid BY PROGRAM, IN A SANDBOX (cutbox-rows.mjs): the forced cells as the released guide's own fill.sh prints them over the translation ed4098db784f819c… (all of the seat's roots in one cut). By AI agents, Wed Nov 11 2026. No macro, syntax, notation, axiom, sorry.
-/
import Derived.Test.YtioeemmdpfddaaaChecked
import GoSem.Claim
import GoSem.ClaimJoined
import GoSem.ClaimMapViews
import Derived.JoinedTies
import Derived.KernelRfl
namespace Go.Proofs.Ytioeemmdpfddaaa
/- THE CELL 'sum', in the pinned program and in every row, IS THE sha256 OF THE DUMP (.gsa) THAT YtioeemmdpfddaaaProg.lean LOADS. Nothing in Lean hashes anything: it is a label: what it is worth is what the hold of that sum in a sandbox is worth. -/
noncomputable def Try.pinned : Pinned := { name := "ytioeemmdpfddaaa", sum := "ed4098db784f819c99b6c99992f23386e09eb78c208fe4d011095441f75051e6", checked := Try.checked }
namespace Rows
def none {H : Type} : Left H := { results := [], args := [] }

/-- 'laws.FnExactJointOk': WHATEVER THE INPUT: true; the input reads as it did. -/
def fnExactJointOkSpec : ChangeSpec := { name := "fnExactJointOk", fn := fun _ => fun
  | [d] => { results := [.lit (.bool true)], args := [d] }
  | _ => none }
def fnExactJointOkRow : OpenClaim := { program := "ytioeemmdpfddaaa", sum := "ed4098db784f819c99b6c99992f23386e09eb78c208fe4d011095441f75051e6", func := "loop.example/g03301/laws.FnExactJointOk", spec := "fnExactJointOk", apart := false }
def FnExactJointOkSaid : Prop := fnExactJointOkRow.holds Try.pinned (OpenSpec.ofChange fnExactJointOkSpec)

/-- ITS FALSE NEIGHBOUR: 'it returns false'. Refute it at one input. -/
def fnExactJointOkWrong : ChangeSpec := { name := "fnExactJointOk", fn := fun _ => fun
  | [d] => { results := [.lit (.bool false)], args := [d] }
  | _ => none }
def FnExactJointOkWrongFalsely : Prop := fnExactJointOkRow.holds Try.pinned (OpenSpec.ofChange fnExactJointOkWrong)

/-- 'laws.FnExactIsOnJoint': WHATEVER THE INPUT: true; the input reads as it did. -/
def fnExactIsOnJointSpec : ChangeSpec := { name := "fnExactIsOnJoint", fn := fun _ => fun
  | [d1, d2] => { results := [.lit (.bool true)], args := [d1, d2] }
  | _ => none }
def fnExactIsOnJointRow : OpenClaim := { program := "ytioeemmdpfddaaa", sum := "ed4098db784f819c99b6c99992f23386e09eb78c208fe4d011095441f75051e6", func := "loop.example/g03301/laws.FnExactIsOnJoint", spec := "fnExactIsOnJoint", apart := false }
def FnExactIsOnJointSaid : Prop := fnExactIsOnJointRow.holds Try.pinned (OpenSpec.ofChange fnExactIsOnJointSpec)

/-- ITS FALSE NEIGHBOUR: 'it returns false'. Refute it at one input. -/
def fnExactIsOnJointWrong : ChangeSpec := { name := "fnExactIsOnJoint", fn := fun _ => fun
  | [d1, d2] => { results := [.lit (.bool false)], args := [d1, d2] }
  | _ => none }
def FnExactIsOnJointWrongFalsely : Prop := fnExactIsOnJointRow.holds Try.pinned (OpenSpec.ofChange fnExactIsOnJointWrong)

/-- 'laws.FnExactMirrorJoint': WHATEVER THE INPUT: true; the input reads as it did. -/
def fnExactMirrorJointSpec : ChangeSpec := { name := "fnExactMirrorJoint", fn := fun _ => fun
  | [d1, d2] => { results := [.lit (.bool true)], args := [d1, d2] }
  | _ => none }
def fnExactMirrorJointRow : OpenClaim := { program := "ytioeemmdpfddaaa", sum := "ed4098db784f819c99b6c99992f23386e09eb78c208fe4d011095441f75051e6", func := "loop.example/g03301/laws.FnExactMirrorJoint", spec := "fnExactMirrorJoint", apart := false }
def FnExactMirrorJointSaid : Prop := fnExactMirrorJointRow.holds Try.pinned (OpenSpec.ofChange fnExactMirrorJointSpec)

/-- ITS FALSE NEIGHBOUR: 'it returns false'. Refute it at one input. -/
def fnExactMirrorJointWrong : ChangeSpec := { name := "fnExactMirrorJoint", fn := fun _ => fun
  | [d1, d2] => { results := [.lit (.bool false)], args := [d1, d2] }
  | _ => none }
def FnExactMirrorJointWrongFalsely : Prop := fnExactMirrorJointRow.holds Try.pinned (OpenSpec.ofChange fnExactMirrorJointWrong)

/-- 'laws.FnExactIsFlat': WHATEVER THE INPUT: true; the input reads as it did. -/
def fnExactIsFlatSpec : ChangeSpec := { name := "fnExactIsFlat", fn := fun _ => fun
  | [d] => { results := [.lit (.bool true)], args := [d] }
  | _ => none }
def fnExactIsFlatRow : OpenClaim := { program := "ytioeemmdpfddaaa", sum := "ed4098db784f819c99b6c99992f23386e09eb78c208fe4d011095441f75051e6", func := "loop.example/g03301/laws.FnExactIsFlat", spec := "fnExactIsFlat", apart := false }
def FnExactIsFlatSaid : Prop := fnExactIsFlatRow.holds Try.pinned (OpenSpec.ofChange fnExactIsFlatSpec)

/-- ITS FALSE NEIGHBOUR: 'it returns false'. Refute it at one input. -/
def fnExactIsFlatWrong : ChangeSpec := { name := "fnExactIsFlat", fn := fun _ => fun
  | [d] => { results := [.lit (.bool false)], args := [d] }
  | _ => none }
def FnExactIsFlatWrongFalsely : Prop := fnExactIsFlatRow.holds Try.pinned (OpenSpec.ofChange fnExactIsFlatWrong)

/-- 'laws.FnExactStoneBetween': WHATEVER THE INPUT: true; the input reads as it did. -/
def fnExactStoneBetweenSpec : ChangeSpec := { name := "fnExactStoneBetween", fn := fun _ => fun
  | [d1, d2] => { results := [.lit (.bool true)], args := [d1, d2] }
  | _ => none }
def fnExactStoneBetweenRow : OpenClaim := { program := "ytioeemmdpfddaaa", sum := "ed4098db784f819c99b6c99992f23386e09eb78c208fe4d011095441f75051e6", func := "loop.example/g03301/laws.FnExactStoneBetween", spec := "fnExactStoneBetween", unfollowed := true, recurses := true, apart := false }
def FnExactStoneBetweenSaid : Prop := fnExactStoneBetweenRow.holds Try.pinned (OpenSpec.ofChange fnExactStoneBetweenSpec)

/-- ITS FALSE NEIGHBOUR: 'it returns false'. Refute it at one input. -/
def fnExactStoneBetweenWrong : ChangeSpec := { name := "fnExactStoneBetween", fn := fun _ => fun
  | [d1, d2] => { results := [.lit (.bool false)], args := [d1, d2] }
  | _ => none }
def FnExactStoneBetweenWrongFalsely : Prop := fnExactStoneBetweenRow.holds Try.pinned (OpenSpec.ofChange fnExactStoneBetweenWrong)

/- THE SECOND FORM. 'bulk': how many values and letters a reading holds, each counted each time it is reached (what is shared counts as often as it is met; a slice's spare places count too). A statement '..UptoSaid' is the law's where the arguments, and the package variables that the reading takes, are together of bulk at most 1048576: NARROWER than '..Said'. Prove '..Said' where nothing that the law and all that it calls make is longer than what came in: it says more and counts as full. Else prove '..UptoSaid'. A law counts once. -/
mutual
def uptoBulk {H : Type} : DataW H → Nat
  | .lit (.string bytes) => bytes.length + 1
  | .lit _ => 1
  | .nil => 1
  | .ptr d => uptoBulk d + 1
  | .slice elems spare => uptoBulkAll elems + uptoBulkAll spare + 1
  | .agg parts => uptoBulkAll parts + 1
  | .iface _ d => uptoBulk d + 1
  | .map entries => uptoBulkEntries entries + 1
  | .held _ => 1
def uptoBulkAll {H : Type} : List (DataW H) → Nat
  | [] => 0
  | d :: r => uptoBulk d + uptoBulkAll r
def uptoBulkEntries {H : Type} : List (Lit × DataW H) → Nat
  | [] => 0
  | x :: r => uptoBulkEntry x + uptoBulkEntries r
def uptoBulkEntry {H : Type} : Lit × DataW H → Nat
  | (.string bytes, d) => bytes.length + uptoBulk d + 1
  | (_, d) => uptoBulk d + 1
 end
def uptoSmall : (H : Type) → List (DataW H) → Bool := fun _ ds => decide (uptoBulkAll ds ≤ 1048576)
def OpenSpec.upto (s : _root_.Go.ChangeSpec) : _root_.Go.OpenSpec := { _root_.Go.OpenSpec.ofChange s with cond := some uptoSmall }

/-- 'laws.FnExactJointOk', WHERE WHAT IT READS IS OF BULK AT MOST 1048576: true; the input reads as it did. -/
def fnExactJointOkUptoRow : OpenClaim := { program := "ytioeemmdpfddaaa", sum := "ed4098db784f819c99b6c99992f23386e09eb78c208fe4d011095441f75051e6", func := "loop.example/g03301/laws.FnExactJointOk", spec := "fnExactJointOk", apart := false, narrowed := true }
def FnExactJointOkUptoSaid : Prop := fnExactJointOkUptoRow.holds Try.pinned (OpenSpec.upto fnExactJointOkSpec)

/-- 'laws.FnExactIsOnJoint', WHERE WHAT IT READS IS OF BULK AT MOST 1048576: true; the input reads as it did. -/
def fnExactIsOnJointUptoRow : OpenClaim := { program := "ytioeemmdpfddaaa", sum := "ed4098db784f819c99b6c99992f23386e09eb78c208fe4d011095441f75051e6", func := "loop.example/g03301/laws.FnExactIsOnJoint", spec := "fnExactIsOnJoint", apart := false, narrowed := true }
def FnExactIsOnJointUptoSaid : Prop := fnExactIsOnJointUptoRow.holds Try.pinned (OpenSpec.upto fnExactIsOnJointSpec)

/-- 'laws.FnExactMirrorJoint', WHERE WHAT IT READS IS OF BULK AT MOST 1048576: true; the input reads as it did. -/
def fnExactMirrorJointUptoRow : OpenClaim := { program := "ytioeemmdpfddaaa", sum := "ed4098db784f819c99b6c99992f23386e09eb78c208fe4d011095441f75051e6", func := "loop.example/g03301/laws.FnExactMirrorJoint", spec := "fnExactMirrorJoint", apart := false, narrowed := true }
def FnExactMirrorJointUptoSaid : Prop := fnExactMirrorJointUptoRow.holds Try.pinned (OpenSpec.upto fnExactMirrorJointSpec)

/-- 'laws.FnExactIsFlat', WHERE WHAT IT READS IS OF BULK AT MOST 1048576: true; the input reads as it did. -/
def fnExactIsFlatUptoRow : OpenClaim := { program := "ytioeemmdpfddaaa", sum := "ed4098db784f819c99b6c99992f23386e09eb78c208fe4d011095441f75051e6", func := "loop.example/g03301/laws.FnExactIsFlat", spec := "fnExactIsFlat", apart := false, narrowed := true }
def FnExactIsFlatUptoSaid : Prop := fnExactIsFlatUptoRow.holds Try.pinned (OpenSpec.upto fnExactIsFlatSpec)

/-- 'laws.FnExactStoneBetween', WHERE WHAT IT READS IS OF BULK AT MOST 1048576: true; the input reads as it did. -/
def fnExactStoneBetweenUptoRow : OpenClaim := { program := "ytioeemmdpfddaaa", sum := "ed4098db784f819c99b6c99992f23386e09eb78c208fe4d011095441f75051e6", func := "loop.example/g03301/laws.FnExactStoneBetween", spec := "fnExactStoneBetween", unfollowed := true, recurses := true, apart := false, narrowed := true }
def FnExactStoneBetweenUptoSaid : Prop := fnExactStoneBetweenUptoRow.holds Try.pinned (OpenSpec.upto fnExactStoneBetweenSpec)

end Rows
end Go.Proofs.Ytioeemmdpfddaaa
