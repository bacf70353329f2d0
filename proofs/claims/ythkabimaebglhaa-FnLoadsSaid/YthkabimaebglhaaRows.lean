/-
  No cell of these rows narrows 'for every input' (looked for: loops, veiled, ifaces, maps, wideKeys, modest, calm, conditions, laid).
  DERIVED. THE GIVEN ROWS OF THIS SEAT. 6 by the template 'for every input the law returns true; each argument reads behind the call as it read before'; 0 by the template 'total and deterministic' (their statements: YthkabimaebglhaaTotals.lean).
  GIVEN WITH THE SEED: the statements are not yours to turn. If you find one false, say at which input.
  Laid BY PROGRAM, IN A SANDBOX (cutbox-rows.mjs): the forced cells as the released guide's own fill.sh prints them over the translation 0cc4d4356b829f1b… (all of the seat's roots in one cut). By AI agents, Wed Nov 11 2026. No macro, syntax, notation, axiom, sorry.
-/
import Derived.Test.YthkabimaebglhaaChecked
import GoSem.Claim
import GoSem.ClaimJoined
import GoSem.ClaimMapViews
import Derived.JoinedTies
import Derived.KernelRfl
namespace Go.Proofs.Ythkabimaebglhaa
/- THE CELL 'sum', in the pinned program and in every row, IS THE sha256 OF THE DUMP (.gsa) THAT YthkabimaebglhaaProg.lean LOADS. Nothing in Lean hashes anything: it is a label: what it is worth is what the hold of that sum in a sandbox is worth. -/
noncomputable def Try.pinned : Pinned := { name := "ythkabimaebglhaa", sum := "0cc4d4356b829f1bc22ca4c8005bb1e9dea20bfeaa08393e10d53dfabfa454b6", checked := Try.checked }
namespace Rows
def none {H : Type} : Left H := { results := [], args := [] }

/-- 'laws.FnLoads': WHATEVER THE INPUT: true; the input reads as it did. -/
def fnLoadsSpec : ChangeSpec := { name := "fnLoads", fn := fun _ => fun
  | [d] => { results := [.lit (.bool true)], args := [d] }
  | _ => none }
def fnLoadsRow : OpenClaim := { program := "ythkabimaebglhaa", sum := "0cc4d4356b829f1bc22ca4c8005bb1e9dea20bfeaa08393e10d53dfabfa454b6", func := "loop.example/g03301/laws.FnLoads", spec := "fnLoads", unfollowed := true, recurses := true, apart := false }
def FnLoadsSaid : Prop := fnLoadsRow.holds Try.pinned (OpenSpec.ofChange fnLoadsSpec)

/-- ITS FALSE NEIGHBOUR: 'it returns false'. Refute it at one input. -/
def fnLoadsWrong : ChangeSpec := { name := "fnLoads", fn := fun _ => fun
  | [d] => { results := [.lit (.bool false)], args := [d] }
  | _ => none }
def FnLoadsWrongFalsely : Prop := fnLoadsRow.holds Try.pinned (OpenSpec.ofChange fnLoadsWrong)

/-- 'laws.FnExactLoadsOk': WHATEVER THE INPUT: true; the input reads as it did. -/
def fnExactLoadsOkSpec : ChangeSpec := { name := "fnExactLoadsOk", fn := fun _ => fun
  | [d1, d2] => { results := [.lit (.bool true)], args := [d1, d2] }
  | _ => none }
def fnExactLoadsOkRow : OpenClaim := { program := "ythkabimaebglhaa", sum := "0cc4d4356b829f1bc22ca4c8005bb1e9dea20bfeaa08393e10d53dfabfa454b6", func := "loop.example/g03301/laws.FnExactLoadsOk", spec := "fnExactLoadsOk", unfollowed := true, recurses := true, apart := false }
def FnExactLoadsOkSaid : Prop := fnExactLoadsOkRow.holds Try.pinned (OpenSpec.ofChange fnExactLoadsOkSpec)

/-- ITS FALSE NEIGHBOUR: 'it returns false'. Refute it at one input. -/
def fnExactLoadsOkWrong : ChangeSpec := { name := "fnExactLoadsOk", fn := fun _ => fun
  | [d1, d2] => { results := [.lit (.bool false)], args := [d1, d2] }
  | _ => none }
def FnExactLoadsOkWrongFalsely : Prop := fnExactLoadsOkRow.holds Try.pinned (OpenSpec.ofChange fnExactLoadsOkWrong)

/-- 'laws.FnExactWeightLeft': WHATEVER THE INPUT: true; the input reads as it did. -/
def fnExactWeightLeftSpec : ChangeSpec := { name := "fnExactWeightLeft", fn := fun _ => fun
  | [d1, d2, d3] => { results := [.lit (.bool true)], args := [d1, d2, d3] }
  | _ => none }
def fnExactWeightLeftRow : OpenClaim := { program := "ythkabimaebglhaa", sum := "0cc4d4356b829f1bc22ca4c8005bb1e9dea20bfeaa08393e10d53dfabfa454b6", func := "loop.example/g03301/laws.FnExactWeightLeft", spec := "fnExactWeightLeft", unfollowed := true, recurses := true, apart := false }
def FnExactWeightLeftSaid : Prop := fnExactWeightLeftRow.holds Try.pinned (OpenSpec.ofChange fnExactWeightLeftSpec)

/-- ITS FALSE NEIGHBOUR: 'it returns false'. Refute it at one input. -/
def fnExactWeightLeftWrong : ChangeSpec := { name := "fnExactWeightLeft", fn := fun _ => fun
  | [d1, d2, d3] => { results := [.lit (.bool false)], args := [d1, d2, d3] }
  | _ => none }
def FnExactWeightLeftWrongFalsely : Prop := fnExactWeightLeftRow.holds Try.pinned (OpenSpec.ofChange fnExactWeightLeftWrong)

/-- 'laws.FnExactMomentLeft': WHATEVER THE INPUT: true; the input reads as it did. -/
def fnExactMomentLeftSpec : ChangeSpec := { name := "fnExactMomentLeft", fn := fun _ => fun
  | [d1, d2, d3] => { results := [.lit (.bool true)], args := [d1, d2, d3] }
  | _ => none }
def fnExactMomentLeftRow : OpenClaim := { program := "ythkabimaebglhaa", sum := "0cc4d4356b829f1bc22ca4c8005bb1e9dea20bfeaa08393e10d53dfabfa454b6", func := "loop.example/g03301/laws.FnExactMomentLeft", spec := "fnExactMomentLeft", unfollowed := true, recurses := true, apart := false }
def FnExactMomentLeftSaid : Prop := fnExactMomentLeftRow.holds Try.pinned (OpenSpec.ofChange fnExactMomentLeftSpec)

/-- ITS FALSE NEIGHBOUR: 'it returns false'. Refute it at one input. -/
def fnExactMomentLeftWrong : ChangeSpec := { name := "fnExactMomentLeft", fn := fun _ => fun
  | [d1, d2, d3] => { results := [.lit (.bool false)], args := [d1, d2, d3] }
  | _ => none }
def FnExactMomentLeftWrongFalsely : Prop := fnExactMomentLeftRow.holds Try.pinned (OpenSpec.ofChange fnExactMomentLeftWrong)

/-- 'laws.FnExactTotalOf': WHATEVER THE INPUT: true; the input reads as it did. -/
def fnExactTotalOfSpec : ChangeSpec := { name := "fnExactTotalOf", fn := fun _ => fun
  | [d1, d2] => { results := [.lit (.bool true)], args := [d1, d2] }
  | _ => none }
def fnExactTotalOfRow : OpenClaim := { program := "ythkabimaebglhaa", sum := "0cc4d4356b829f1bc22ca4c8005bb1e9dea20bfeaa08393e10d53dfabfa454b6", func := "loop.example/g03301/laws.FnExactTotalOf", spec := "fnExactTotalOf", unfollowed := true, recurses := true, apart := false }
def FnExactTotalOfSaid : Prop := fnExactTotalOfRow.holds Try.pinned (OpenSpec.ofChange fnExactTotalOfSpec)

/-- ITS FALSE NEIGHBOUR: 'it returns false'. Refute it at one input. -/
def fnExactTotalOfWrong : ChangeSpec := { name := "fnExactTotalOf", fn := fun _ => fun
  | [d1, d2] => { results := [.lit (.bool false)], args := [d1, d2] }
  | _ => none }
def FnExactTotalOfWrongFalsely : Prop := fnExactTotalOfRow.holds Try.pinned (OpenSpec.ofChange fnExactTotalOfWrong)

/-- 'laws.FnExactScaleLoads': WHATEVER THE INPUT: true; the input reads as it did. -/
def fnExactScaleLoadsSpec : ChangeSpec := { name := "fnExactScaleLoads", fn := fun _ => fun
  | [d1, d2] => { results := [.lit (.bool true)], args := [d1, d2] }
  | _ => none }
def fnExactScaleLoadsRow : OpenClaim := { program := "ythkabimaebglhaa", sum := "0cc4d4356b829f1bc22ca4c8005bb1e9dea20bfeaa08393e10d53dfabfa454b6", func := "loop.example/g03301/laws.FnExactScaleLoads", spec := "fnExactScaleLoads", apart := false }
def FnExactScaleLoadsSaid : Prop := fnExactScaleLoadsRow.holds Try.pinned (OpenSpec.ofChange fnExactScaleLoadsSpec)

/-- ITS FALSE NEIGHBOUR: 'it returns false'. Refute it at one input. -/
def fnExactScaleLoadsWrong : ChangeSpec := { name := "fnExactScaleLoads", fn := fun _ => fun
  | [d1, d2] => { results := [.lit (.bool false)], args := [d1, d2] }
  | _ => none }
def FnExactScaleLoadsWrongFalsely : Prop := fnExactScaleLoadsRow.holds Try.pinned (OpenSpec.ofChange fnExactScaleLoadsWrong)

/- THE SECOND FORM. 'bulk': how many values and letters a reading holds, each counted each time it is reached (what is shared counts as often as it is met; a slice's spare places count too). A statement '..UptoSaid' is the law's where the arguments, and the package variables that the reading takes, are together of bulk at most 1048576: NARROWER than '..Said'. Prove '..Said' where nothing that the law and all that it calls make is longer than what came in: it says more and counts as full. Else prove '..UptoSaid'. A law counts once. -/
mutual
def uptoBulk {H : Type} : DataW H → Nat
  | .lit (.string bytes) => bytes.length + 1
  | .lit _ => 1
  | .nil => 1
  | .ptr d => uptoBulk d + 1
  | .slice elems spare => uptoBulkAll elems + uptoBulkAll spare + 1
  | .agg parts => uptoBulkAll parts + 1
  | .iface _ d => uptoBulk d + 1
  | .map entries => uptoBulkEntries entries + 1
  | .held _ => 1
def uptoBulkAll {H : Type} : List (DataW H) → Nat
  | [] => 0
  | d :: r => uptoBulk d + uptoBulkAll r
def uptoBulkEntries {H : Type} : List (Lit × DataW H) → Nat
  | [] => 0
  | x :: r => uptoBulkEntry x + uptoBulkEntries r
def uptoBulkEntry {H : Type} : Lit × DataW H → Nat
  | (.string bytes, d) => bytes.length + uptoBulk d + 1
  | (_, d) => uptoBulk d + 1
 end
def uptoSmall : (H : Type) → List (DataW H) → Bool := fun _ ds => decide (uptoBulkAll ds ≤ 1048576)
def OpenSpec.upto (s : _root_.Go.ChangeSpec) : _root_.Go.OpenSpec := { _root_.Go.OpenSpec.ofChange s with cond := some uptoSmall }

/-- 'laws.FnLoads', WHERE WHAT IT READS IS OF BULK AT MOST 1048576: true; the input reads as it did. -/
def fnLoadsUptoRow : OpenClaim := { program := "ythkabimaebglhaa", sum := "0cc4d4356b829f1bc22ca4c8005bb1e9dea20bfeaa08393e10d53dfabfa454b6", func := "loop.example/g03301/laws.FnLoads", spec := "fnLoads", unfollowed := true, recurses := true, apart := false, narrowed := true }
def FnLoadsUptoSaid : Prop := fnLoadsUptoRow.holds Try.pinned (OpenSpec.upto fnLoadsSpec)

/-- 'laws.FnExactLoadsOk', WHERE WHAT IT READS IS OF BULK AT MOST 1048576: true; the input reads as it did. -/
def fnExactLoadsOkUptoRow : OpenClaim := { program := "ythkabimaebglhaa", sum := "0cc4d4356b829f1bc22ca4c8005bb1e9dea20bfeaa08393e10d53dfabfa454b6", func := "loop.example/g03301/laws.FnExactLoadsOk", spec := "fnExactLoadsOk", unfollowed := true, recurses := true, apart := false, narrowed := true }
def FnExactLoadsOkUptoSaid : Prop := fnExactLoadsOkUptoRow.holds Try.pinned (OpenSpec.upto fnExactLoadsOkSpec)

/-- 'laws.FnExactWeightLeft', WHERE WHAT IT READS IS OF BULK AT MOST 1048576: true; the input reads as it did. -/
def fnExactWeightLeftUptoRow : OpenClaim := { program := "ythkabimaebglhaa", sum := "0cc4d4356b829f1bc22ca4c8005bb1e9dea20bfeaa08393e10d53dfabfa454b6", func := "loop.example/g03301/laws.FnExactWeightLeft", spec := "fnExactWeightLeft", unfollowed := true, recurses := true, apart := false, narrowed := true }
def FnExactWeightLeftUptoSaid : Prop := fnExactWeightLeftUptoRow.holds Try.pinned (OpenSpec.upto fnExactWeightLeftSpec)

/-- 'laws.FnExactMomentLeft', WHERE WHAT IT READS IS OF BULK AT MOST 1048576: true; the input reads as it did. -/
def fnExactMomentLeftUptoRow : OpenClaim := { program := "ythkabimaebglhaa", sum := "0cc4d4356b829f1bc22ca4c8005bb1e9dea20bfeaa08393e10d53dfabfa454b6", func := "loop.example/g03301/laws.FnExactMomentLeft", spec := "fnExactMomentLeft", unfollowed := true, recurses := true, apart := false, narrowed := true }
def FnExactMomentLeftUptoSaid : Prop := fnExactMomentLeftUptoRow.holds Try.pinned (OpenSpec.upto fnExactMomentLeftSpec)

/-- 'laws.FnExactTotalOf', WHERE WHAT IT READS IS OF BULK AT MOST 1048576: true; the input reads as it did. -/
def fnExactTotalOfUptoRow : OpenClaim := { program := "ythkabimaebglhaa", sum := "0cc4d4356b829f1bc22ca4c8005bb1e9dea20bfeaa08393e10d53dfabfa454b6", func := "loop.example/g03301/laws.FnExactTotalOf", spec := "fnExactTotalOf", unfollowed := true, recurses := true, apart := false, narrowed := true }
def FnExactTotalOfUptoSaid : Prop := fnExactTotalOfUptoRow.holds Try.pinned (OpenSpec.upto fnExactTotalOfSpec)

/-- 'laws.FnExactScaleLoads', WHERE WHAT IT READS IS OF BULK AT MOST 1048576: true; the input reads as it did. -/
def fnExactScaleLoadsUptoRow : OpenClaim := { program := "ythkabimaebglhaa", sum := "0cc4d4356b829f1bc22ca4c8005bb1e9dea20bfeaa08393e10d53dfabfa454b6", func := "loop.example/g03301/laws.FnExactScaleLoads", spec := "fnExactScaleLoads", apart := false, narrowed := true }
def FnExactScaleLoadsUptoSaid : Prop := fnExactScaleLoadsUptoRow.holds Try.pinned (OpenSpec.upto fnExactScaleLoadsSpec)

end Rows
end Go.Proofs.Ythkabimaebglhaa
