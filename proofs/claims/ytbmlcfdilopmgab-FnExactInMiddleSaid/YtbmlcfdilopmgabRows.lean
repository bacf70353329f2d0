/-
  No cell of these rows narrows 'for every input' (looked for: loops, veiled, ifaces, maps, wideKeys, modest, calm, conditions, laid).
  DERIVED. THE GIVEN ROWS OF THIS SEAT. 4 by the template 'for every input the law returns true; each argument reads behind the call as it read before'; 0 by the template 'total and deterministic' (their statements: YtbmlcfdilopmgabTotals.lean).
  GIVEN WITH THE SEED: the statements are not yours to turn. If you find one false, say at which input.
  Laid BY PROGRAM, IN A SANDBOX (cutbox-rows.mjs): the forced cells as the released guide's own fill.sh prints them over the translation 14f513a451e7ba5a… (all of the seat's roots in one cut). By AI agents, Wed Nov 11 2026. No macro, syntax, notation, axiom, sorry.
-/
import Derived.Test.YtbmlcfdilopmgabChecked
import GoSem.Claim
import GoSem.ClaimJoined
import GoSem.ClaimMapViews
import Derived.JoinedTies
import Derived.KernelRfl
namespace Go.Proofs.Ytbmlcfdilopmgab
/- THE CELL 'sum', in the pinned program and in every row, IS THE sha256 OF THE DUMP (.gsa) THAT YtbmlcfdilopmgabProg.lean LOADS. Nothing in Lean hashes anything: it is a label: what it is worth is what the hold of that sum in a sandbox is worth. -/
noncomputable def Try.pinned : Pinned := { name := "ytbmlcfdilopmgab", sum := "14f513a451e7ba5a8eeecbef5ffea503a50467f8405aeec0e4ea3d94d3ca3aa0", checked := Try.checked }
namespace Rows
def none {H : Type} : Left H := { results := [], args := [] }

/-- 'laws.FnExactMarginOf': WHATEVER THE INPUT: true; the input reads as it did. -/
def fnExactMarginOfSpec : ChangeSpec := { name := "fnExactMarginOf", fn := fun _ => fun
  | [d1, d2, d3] => { results := [.lit (.bool true)], args := [d1, d2, d3] }
  | _ => none }
def fnExactMarginOfRow : OpenClaim := { program := "ytbmlcfdilopmgab", sum := "14f513a451e7ba5a8eeecbef5ffea503a50467f8405aeec0e4ea3d94d3ca3aa0", func := "loop.example/g03301/laws.FnExactMarginOf", spec := "fnExactMarginOf", unfollowed := true, recurses := true, apart := false }
def FnExactMarginOfSaid : Prop := fnExactMarginOfRow.holds Try.pinned (OpenSpec.ofChange fnExactMarginOfSpec)

/-- ITS FALSE NEIGHBOUR: 'it returns false'. Refute it at one input. -/
def fnExactMarginOfWrong : ChangeSpec := { name := "fnExactMarginOf", fn := fun _ => fun
  | [d1, d2, d3] => { results := [.lit (.bool false)], args := [d1, d2, d3] }
  | _ => none }
def FnExactMarginOfWrongFalsely : Prop := fnExactMarginOfRow.holds Try.pinned (OpenSpec.ofChange fnExactMarginOfWrong)

/-- 'laws.FnExactInMiddle': WHATEVER THE INPUT: true; the input reads as it did. -/
def fnExactInMiddleSpec : ChangeSpec := { name := "fnExactInMiddle", fn := fun _ => fun
  | [d1, d2, d3, d4] => { results := [.lit (.bool true)], args := [d1, d2, d3, d4] }
  | _ => none }
def fnExactInMiddleRow : OpenClaim := { program := "ytbmlcfdilopmgab", sum := "14f513a451e7ba5a8eeecbef5ffea503a50467f8405aeec0e4ea3d94d3ca3aa0", func := "loop.example/g03301/laws.FnExactInMiddle", spec := "fnExactInMiddle", unfollowed := true, recurses := true, apart := false }
def FnExactInMiddleSaid : Prop := fnExactInMiddleRow.holds Try.pinned (OpenSpec.ofChange fnExactInMiddleSpec)

/-- ITS FALSE NEIGHBOUR: 'it returns false'. Refute it at one input. -/
def fnExactInMiddleWrong : ChangeSpec := { name := "fnExactInMiddle", fn := fun _ => fun
  | [d1, d2, d3, d4] => { results := [.lit (.bool false)], args := [d1, d2, d3, d4] }
  | _ => none }
def FnExactInMiddleWrongFalsely : Prop := fnExactInMiddleRow.holds Try.pinned (OpenSpec.ofChange fnExactInMiddleWrong)

/-- 'laws.FnExactHighestJoint': WHATEVER THE INPUT: true; the input reads as it did. -/
def fnExactHighestJointSpec : ChangeSpec := { name := "fnExactHighestJoint", fn := fun _ => fun
  | [d1, d2, d3] => { results := [.lit (.bool true)], args := [d1, d2, d3] }
  | _ => none }
def fnExactHighestJointRow : OpenClaim := { program := "ytbmlcfdilopmgab", sum := "14f513a451e7ba5a8eeecbef5ffea503a50467f8405aeec0e4ea3d94d3ca3aa0", func := "loop.example/g03301/laws.FnExactHighestJoint", spec := "fnExactHighestJoint", unfollowed := true, recurses := true, apart := false }
def FnExactHighestJointSaid : Prop := fnExactHighestJointRow.holds Try.pinned (OpenSpec.ofChange fnExactHighestJointSpec)

/-- ITS FALSE NEIGHBOUR: 'it returns false'. Refute it at one input. -/
def fnExactHighestJointWrong : ChangeSpec := { name := "fnExactHighestJoint", fn := fun _ => fun
  | [d1, d2, d3] => { results := [.lit (.bool false)], args := [d1, d2, d3] }
  | _ => none }
def FnExactHighestJointWrongFalsely : Prop := fnExactHighestJointRow.holds Try.pinned (OpenSpec.ofChange fnExactHighestJointWrong)

/-- 'laws.FnExactTouchedJoints': WHATEVER THE INPUT: true; the input reads as it did. -/
def fnExactTouchedJointsSpec : ChangeSpec := { name := "fnExactTouchedJoints", fn := fun _ => fun
  | [d1, d2, d3] => { results := [.lit (.bool true)], args := [d1, d2, d3] }
  | _ => none }
def fnExactTouchedJointsRow : OpenClaim := { program := "ytbmlcfdilopmgab", sum := "14f513a451e7ba5a8eeecbef5ffea503a50467f8405aeec0e4ea3d94d3ca3aa0", func := "loop.example/g03301/laws.FnExactTouchedJoints", spec := "fnExactTouchedJoints", unfollowed := true, recurses := true, apart := false }
def FnExactTouchedJointsSaid : Prop := fnExactTouchedJointsRow.holds Try.pinned (OpenSpec.ofChange fnExactTouchedJointsSpec)

/-- ITS FALSE NEIGHBOUR: 'it returns false'. Refute it at one input. -/
def fnExactTouchedJointsWrong : ChangeSpec := { name := "fnExactTouchedJoints", fn := fun _ => fun
  | [d1, d2, d3] => { results := [.lit (.bool false)], args := [d1, d2, d3] }
  | _ => none }
def FnExactTouchedJointsWrongFalsely : Prop := fnExactTouchedJointsRow.holds Try.pinned (OpenSpec.ofChange fnExactTouchedJointsWrong)

/- THE SECOND FORM. 'bulk': how many values and letters a reading holds, each counted each time it is reached (what is shared counts as often as it is met; a slice's spare places count too). A statement '..UptoSaid' is the law's where the arguments, and the package variables that the reading takes, are together of bulk at most 1048576: NARROWER than '..Said'. Prove '..Said' where nothing that the law and all that it calls make is longer than what came in: it says more and counts as full. Else prove '..UptoSaid'. A law counts once. -/
mutual
def uptoBulk {H : Type} : DataW H → Nat
  | .lit (.string bytes) => bytes.length + 1
  | .lit _ => 1
  | .nil => 1
  | .ptr d => uptoBulk d + 1
  | .slice elems spare => uptoBulkAll elems + uptoBulkAll spare + 1
  | .agg parts => uptoBulkAll parts + 1
  | .iface _ d => uptoBulk d + 1
  | .map entries => uptoBulkEntries entries + 1
  | .held _ => 1
def uptoBulkAll {H : Type} : List (DataW H) → Nat
  | [] => 0
  | d :: r => uptoBulk d + uptoBulkAll r
def uptoBulkEntries {H : Type} : List (Lit × DataW H) → Nat
  | [] => 0
  | x :: r => uptoBulkEntry x + uptoBulkEntries r
def uptoBulkEntry {H : Type} : Lit × DataW H → Nat
  | (.string bytes, d) => bytes.length + uptoBulk d + 1
  | (_, d) => uptoBulk d + 1
 end
def uptoSmall : (H : Type) → List (DataW H) → Bool := fun _ ds => decide (uptoBulkAll ds ≤ 1048576)
def OpenSpec.upto (s : _root_.Go.ChangeSpec) : _root_.Go.OpenSpec := { _root_.Go.OpenSpec.ofChange s with cond := some uptoSmall }

/-- 'laws.FnExactMarginOf', WHERE WHAT IT READS IS OF BULK AT MOST 1048576: true; the input reads as it did. -/
def fnExactMarginOfUptoRow : OpenClaim := { program := "ytbmlcfdilopmgab", sum := "14f513a451e7ba5a8eeecbef5ffea503a50467f8405aeec0e4ea3d94d3ca3aa0", func := "loop.example/g03301/laws.FnExactMarginOf", spec := "fnExactMarginOf", unfollowed := true, recurses := true, apart := false, narrowed := true }
def FnExactMarginOfUptoSaid : Prop := fnExactMarginOfUptoRow.holds Try.pinned (OpenSpec.upto fnExactMarginOfSpec)

/-- 'laws.FnExactInMiddle', WHERE WHAT IT READS IS OF BULK AT MOST 1048576: true; the input reads as it did. -/
def fnExactInMiddleUptoRow : OpenClaim := { program := "ytbmlcfdilopmgab", sum := "14f513a451e7ba5a8eeecbef5ffea503a50467f8405aeec0e4ea3d94d3ca3aa0", func := "loop.example/g03301/laws.FnExactInMiddle", spec := "fnExactInMiddle", unfollowed := true, recurses := true, apart := false, narrowed := true }
def FnExactInMiddleUptoSaid : Prop := fnExactInMiddleUptoRow.holds Try.pinned (OpenSpec.upto fnExactInMiddleSpec)

/-- 'laws.FnExactHighestJoint', WHERE WHAT IT READS IS OF BULK AT MOST 1048576: true; the input reads as it did. -/
def fnExactHighestJointUptoRow : OpenClaim := { program := "ytbmlcfdilopmgab", sum := "14f513a451e7ba5a8eeecbef5ffea503a50467f8405aeec0e4ea3d94d3ca3aa0", func := "loop.example/g03301/laws.FnExactHighestJoint", spec := "fnExactHighestJoint", unfollowed := true, recurses := true, apart := false, narrowed := true }
def FnExactHighestJointUptoSaid : Prop := fnExactHighestJointUptoRow.holds Try.pinned (OpenSpec.upto fnExactHighestJointSpec)

/-- 'laws.FnExactTouchedJoints', WHERE WHAT IT READS IS OF BULK AT MOST 1048576: true; the input reads as it did. -/
def fnExactTouchedJointsUptoRow : OpenClaim := { program := "ytbmlcfdilopmgab", sum := "14f513a451e7ba5a8eeecbef5ffea503a50467f8405aeec0e4ea3d94d3ca3aa0", func := "loop.example/g03301/laws.FnExactTouchedJoints", spec := "fnExactTouchedJoints", unfollowed := true, recurses := true, apart := false, narrowed := true }
def FnExactTouchedJointsUptoSaid : Prop := fnExactTouchedJointsUptoRow.holds Try.pinned (OpenSpec.upto fnExactTouchedJointsSpec)

end Rows
end Go.Proofs.Ytbmlcfdilopmgab
