/-
  No cell of these rows narrows 'for every input' (looked for: loops, veiled, ifaces, maps, wideKeys, modest, calm, conditions, laid).
  DERIVED. THE GIVEN ROWS OF THIS SEAT. 5 by the template 'for every input the law returns true; each argument reads behind the call as it read before'; 0 by the template 'total and deterministic' (their statements: YtkplhljpaflgdaaTotals.lean).
  GIVEN WITH THE SEED: the statements are not yours to turn. If you find one false, say at which input.
  Laid BY PROGRAM, IN A SANDBOX (cutbox-rows.mjs): the forced cells as the released guide's own fill.sh prints them over the translation 8ad41ed351a61518… (all of the seat's roots in one cut). By AI agents, Wed Nov 11 2026. No macro, syntax, notation, axiom, sorry.
-/
import Derived.Test.YtkplhljpaflgdaaChecked
import GoSem.Claim
import GoSem.ClaimJoined
import GoSem.ClaimMapViews
import Derived.JoinedTies
import Derived.KernelRfl
namespace Go.Proofs.Ytkplhljpaflgdaa
/- THE CELL 'sum', in the pinned program and in every row, IS THE sha256 OF THE DUMP (.gsa) THAT YtkplhljpaflgdaaProg.lean LOADS. Nothing in Lean hashes anything: it is a label: what it is worth is what the hold of that sum in a sandbox is worth. -/
noncomputable def Try.pinned : Pinned := { name := "ytkplhljpaflgdaa", sum := "8ad41ed351a61518b9dc8a254455817af30b9a873ac5f426115e32f87bc5b487", checked := Try.checked }
namespace Rows
def none {H : Type} : Left H := { results := [], args := [] }

/-- 'laws.FnExactStoneOk': WHATEVER THE INPUT: true; the input reads as it did. -/
def fnExactStoneOkSpec : ChangeSpec := { name := "fnExactStoneOk", fn := fun _ => fun
  | [d] => { results := [.lit (.bool true)], args := [d] }
  | _ => none }
def fnExactStoneOkRow : OpenClaim := { program := "ytkplhljpaflgdaa", sum := "8ad41ed351a61518b9dc8a254455817af30b9a873ac5f426115e32f87bc5b487", func := "loop.example/g03301/laws.FnExactStoneOk", spec := "fnExactStoneOk", unfollowed := true, recurses := true, apart := false }
def FnExactStoneOkSaid : Prop := fnExactStoneOkRow.holds Try.pinned (OpenSpec.ofChange fnExactStoneOkSpec)

/-- ITS FALSE NEIGHBOUR: 'it returns false'. Refute it at one input. -/
def fnExactStoneOkWrong : ChangeSpec := { name := "fnExactStoneOk", fn := fun _ => fun
  | [d] => { results := [.lit (.bool false)], args := [d] }
  | _ => none }
def FnExactStoneOkWrongFalsely : Prop := fnExactStoneOkRow.holds Try.pinned (OpenSpec.ofChange fnExactStoneOkWrong)

/-- 'laws.FnExactIsInStone': WHATEVER THE INPUT: true; the input reads as it did. -/
def fnExactIsInStoneSpec : ChangeSpec := { name := "fnExactIsInStone", fn := fun _ => fun
  | [d1, d2] => { results := [.lit (.bool true)], args := [d1, d2] }
  | _ => none }
def fnExactIsInStoneRow : OpenClaim := { program := "ytkplhljpaflgdaa", sum := "8ad41ed351a61518b9dc8a254455817af30b9a873ac5f426115e32f87bc5b487", func := "loop.example/g03301/laws.FnExactIsInStone", spec := "fnExactIsInStone", unfollowed := true, recurses := true, apart := false }
def FnExactIsInStoneSaid : Prop := fnExactIsInStoneRow.holds Try.pinned (OpenSpec.ofChange fnExactIsInStoneSpec)

/-- ITS FALSE NEIGHBOUR: 'it returns false'. Refute it at one input. -/
def fnExactIsInStoneWrong : ChangeSpec := { name := "fnExactIsInStone", fn := fun _ => fun
  | [d1, d2] => { results := [.lit (.bool false)], args := [d1, d2] }
  | _ => none }
def FnExactIsInStoneWrongFalsely : Prop := fnExactIsInStoneRow.holds Try.pinned (OpenSpec.ofChange fnExactIsInStoneWrong)

/-- 'laws.FnExactWidestOf': WHATEVER THE INPUT: true; the input reads as it did. -/
def fnExactWidestOfSpec : ChangeSpec := { name := "fnExactWidestOf", fn := fun _ => fun
  | [d] => { results := [.lit (.bool true)], args := [d] }
  | _ => none }
def fnExactWidestOfRow : OpenClaim := { program := "ytkplhljpaflgdaa", sum := "8ad41ed351a61518b9dc8a254455817af30b9a873ac5f426115e32f87bc5b487", func := "loop.example/g03301/laws.FnExactWidestOf", spec := "fnExactWidestOf", unfollowed := true, recurses := true, apart := false }
def FnExactWidestOfSaid : Prop := fnExactWidestOfRow.holds Try.pinned (OpenSpec.ofChange fnExactWidestOfSpec)

/-- ITS FALSE NEIGHBOUR: 'it returns false'. Refute it at one input. -/
def fnExactWidestOfWrong : ChangeSpec := { name := "fnExactWidestOf", fn := fun _ => fun
  | [d] => { results := [.lit (.bool false)], args := [d] }
  | _ => none }
def FnExactWidestOfWrongFalsely : Prop := fnExactWidestOfRow.holds Try.pinned (OpenSpec.ofChange fnExactWidestOfWrong)

/-- 'laws.FnExactBoxOf': WHATEVER THE INPUT: true; the input reads as it did. -/
def fnExactBoxOfSpec : ChangeSpec := { name := "fnExactBoxOf", fn := fun _ => fun
  | [d] => { results := [.lit (.bool true)], args := [d] }
  | _ => none }
def fnExactBoxOfRow : OpenClaim := { program := "ytkplhljpaflgdaa", sum := "8ad41ed351a61518b9dc8a254455817af30b9a873ac5f426115e32f87bc5b487", func := "loop.example/g03301/laws.FnExactBoxOf", spec := "fnExactBoxOf", unfollowed := true, recurses := true, apart := false }
def FnExactBoxOfSaid : Prop := fnExactBoxOfRow.holds Try.pinned (OpenSpec.ofChange fnExactBoxOfSpec)

/-- ITS FALSE NEIGHBOUR: 'it returns false'. Refute it at one input. -/
def fnExactBoxOfWrong : ChangeSpec := { name := "fnExactBoxOf", fn := fun _ => fun
  | [d] => { results := [.lit (.bool false)], args := [d] }
  | _ => none }
def FnExactBoxOfWrongFalsely : Prop := fnExactBoxOfRow.holds Try.pinned (OpenSpec.ofChange fnExactBoxOfWrong)

/-- 'laws.FnExactMirrorStone': WHATEVER THE INPUT: true; the input reads as it did. -/
def fnExactMirrorStoneSpec : ChangeSpec := { name := "fnExactMirrorStone", fn := fun _ => fun
  | [d1, d2] => { results := [.lit (.bool true)], args := [d1, d2] }
  | _ => none }
def fnExactMirrorStoneRow : OpenClaim := { program := "ytkplhljpaflgdaa", sum := "8ad41ed351a61518b9dc8a254455817af30b9a873ac5f426115e32f87bc5b487", func := "loop.example/g03301/laws.FnExactMirrorStone", spec := "fnExactMirrorStone", unfollowed := true, recurses := true, apart := false }
def FnExactMirrorStoneSaid : Prop := fnExactMirrorStoneRow.holds Try.pinned (OpenSpec.ofChange fnExactMirrorStoneSpec)

/-- ITS FALSE NEIGHBOUR: 'it returns false'. Refute it at one input. -/
def fnExactMirrorStoneWrong : ChangeSpec := { name := "fnExactMirrorStone", fn := fun _ => fun
  | [d1, d2] => { results := [.lit (.bool false)], args := [d1, d2] }
  | _ => none }
def FnExactMirrorStoneWrongFalsely : Prop := fnExactMirrorStoneRow.holds Try.pinned (OpenSpec.ofChange fnExactMirrorStoneWrong)

/- THE SECOND FORM. 'bulk': how many values and letters a reading holds, each counted each time it is reached (what is shared counts as often as it is met; a slice's spare places count too). A statement '..UptoSaid' is the law's where the arguments, and the package variables that the reading takes, are together of bulk at most 1048576: NARROWER than '..Said'. Prove '..Said' where nothing that the law and all that it calls make is longer than what came in: it says more and counts as full. Else prove '..UptoSaid'. A law counts once. -/
mutual
def uptoBulk {H : Type} : DataW H → Nat
  | .lit (.string bytes) => bytes.length + 1
  | .lit _ => 1
  | .nil => 1
  | .ptr d => uptoBulk d + 1
  | .slice elems spare => uptoBulkAll elems + uptoBulkAll spare + 1
  | .agg parts => uptoBulkAll parts + 1
  | .iface _ d => uptoBulk d + 1
  | .map entries => uptoBulkEntries entries + 1
  | .held _ => 1
def uptoBulkAll {H : Type} : List (DataW H) → Nat
  | [] => 0
  | d :: r => uptoBulk d + uptoBulkAll r
def uptoBulkEntries {H : Type} : List (Lit × DataW H) → Nat
  | [] => 0
  | x :: r => uptoBulkEntry x + uptoBulkEntries r
def uptoBulkEntry {H : Type} : Lit × DataW H → Nat
  | (.string bytes, d) => bytes.length + uptoBulk d + 1
  | (_, d) => uptoBulk d + 1
 end
def uptoSmall : (H : Type) → List (DataW H) → Bool := fun _ ds => decide (uptoBulkAll ds ≤ 1048576)
def OpenSpec.upto (s : _root_.Go.ChangeSpec) : _root_.Go.OpenSpec := { _root_.Go.OpenSpec.ofChange s with cond := some uptoSmall }

/-- 'laws.FnExactStoneOk', WHERE WHAT IT READS IS OF BULK AT MOST 1048576: true; the input reads as it did. -/
def fnExactStoneOkUptoRow : OpenClaim := { program := "ytkplhljpaflgdaa", sum := "8ad41ed351a61518b9dc8a254455817af30b9a873ac5f426115e32f87bc5b487", func := "loop.example/g03301/laws.FnExactStoneOk", spec := "fnExactStoneOk", unfollowed := true, recurses := true, apart := false, narrowed := true }
def FnExactStoneOkUptoSaid : Prop := fnExactStoneOkUptoRow.holds Try.pinned (OpenSpec.upto fnExactStoneOkSpec)

/-- 'laws.FnExactIsInStone', WHERE WHAT IT READS IS OF BULK AT MOST 1048576: true; the input reads as it did. -/
def fnExactIsInStoneUptoRow : OpenClaim := { program := "ytkplhljpaflgdaa", sum := "8ad41ed351a61518b9dc8a254455817af30b9a873ac5f426115e32f87bc5b487", func := "loop.example/g03301/laws.FnExactIsInStone", spec := "fnExactIsInStone", unfollowed := true, recurses := true, apart := false, narrowed := true }
def FnExactIsInStoneUptoSaid : Prop := fnExactIsInStoneUptoRow.holds Try.pinned (OpenSpec.upto fnExactIsInStoneSpec)

/-- 'laws.FnExactWidestOf', WHERE WHAT IT READS IS OF BULK AT MOST 1048576: true; the input reads as it did. -/
def fnExactWidestOfUptoRow : OpenClaim := { program := "ytkplhljpaflgdaa", sum := "8ad41ed351a61518b9dc8a254455817af30b9a873ac5f426115e32f87bc5b487", func := "loop.example/g03301/laws.FnExactWidestOf", spec := "fnExactWidestOf", unfollowed := true, recurses := true, apart := false, narrowed := true }
def FnExactWidestOfUptoSaid : Prop := fnExactWidestOfUptoRow.holds Try.pinned (OpenSpec.upto fnExactWidestOfSpec)

/-- 'laws.FnExactBoxOf', WHERE WHAT IT READS IS OF BULK AT MOST 1048576: true; the input reads as it did. -/
def fnExactBoxOfUptoRow : OpenClaim := { program := "ytkplhljpaflgdaa", sum := "8ad41ed351a61518b9dc8a254455817af30b9a873ac5f426115e32f87bc5b487", func := "loop.example/g03301/laws.FnExactBoxOf", spec := "fnExactBoxOf", unfollowed := true, recurses := true, apart := false, narrowed := true }
def FnExactBoxOfUptoSaid : Prop := fnExactBoxOfUptoRow.holds Try.pinned (OpenSpec.upto fnExactBoxOfSpec)

/-- 'laws.FnExactMirrorStone', WHERE WHAT IT READS IS OF BULK AT MOST 1048576: true; the input reads as it did. -/
def fnExactMirrorStoneUptoRow : OpenClaim := { program := "ytkplhljpaflgdaa", sum := "8ad41ed351a61518b9dc8a254455817af30b9a873ac5f426115e32f87bc5b487", func := "loop.example/g03301/laws.FnExactMirrorStone", spec := "fnExactMirrorStone", unfollowed := true, recurses := true, apart := false, narrowed := true }
def FnExactMirrorStoneUptoSaid : Prop := fnExactMirrorStoneUptoRow.holds Try.pinned (OpenSpec.upto fnExactMirrorStoneSpec)

end Rows
end Go.Proofs.Ytkplhljpaflgdaa
