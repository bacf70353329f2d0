/-
  No cell of these rows narrows 'for every input' (looked for: loops, veiled, ifaces, maps, wideKeys, modest, calm, conditions, laid).
  DERIVED. THE GIVEN ROWS OF THIS SEAT. 6 by the template 'for every input the law returns true; each argument reads behind the call as it read before'; 0 by the template 'total and deterministic' (their statements: YtggkodhfhhjihaaTotals.lean).
  GIVEN WITH THE SEED: the statements are not yours to turn. If you find one false, say at which input.
  Laid BY PROGRAM, IN A SANDBOX (cutbox-rows.mjs): the forced cells as the released guide's own fill.sh prints them over the translation 89dc82c303045fb0… (all of the seat's roots in one cut). By AI agents, Wed Nov 11 2026. No macro, syntax, notation, axiom, sorry.
-/
import Derived.Test.YtggkodhfhhjihaaChecked
import GoSem.Claim
import GoSem.ClaimJoined
import GoSem.ClaimMapViews
import Derived.JoinedTies
import Derived.KernelRfl
namespace Go.Proofs.Ytggkodhfhhjihaa
/- THE CELL 'sum', in the pinned program and in every row, IS THE sha256 OF THE DUMP (.gsa) THAT YtggkodhfhhjihaaProg.lean LOADS. Nothing in Lean hashes anything: it is a label: what it is worth is what the hold of that sum in a sandbox is worth. -/
noncomputable def Try.pinned : Pinned := { name := "ytggkodhfhhjihaa", sum := "89dc82c303045fb0f87592371b79c5db160c44a230f0a7fc0df9aca79ebce945", checked := Try.checked }
namespace Rows
def none {H : Type} : Left H := { results := [], args := [] }

/-- 'laws.FnExactArchOk': WHATEVER THE INPUT: true; the input reads as it did. -/
def fnExactArchOkSpec : ChangeSpec := { name := "fnExactArchOk", fn := fun _ => fun
  | [d] => { results := [.lit (.bool true)], args := [d] }
  | _ => none }
def fnExactArchOkRow : OpenClaim := { program := "ytggkodhfhhjihaa", sum := "89dc82c303045fb0f87592371b79c5db160c44a230f0a7fc0df9aca79ebce945", func := "loop.example/g03301/laws.FnExactArchOk", spec := "fnExactArchOk", unfollowed := true, recurses := true, apart := false }
def FnExactArchOkSaid : Prop := fnExactArchOkRow.holds Try.pinned (OpenSpec.ofChange fnExactArchOkSpec)

/-- ITS FALSE NEIGHBOUR: 'it returns false'. Refute it at one input. -/
def fnExactArchOkWrong : ChangeSpec := { name := "fnExactArchOk", fn := fun _ => fun
  | [d] => { results := [.lit (.bool false)], args := [d] }
  | _ => none }
def FnExactArchOkWrongFalsely : Prop := fnExactArchOkRow.holds Try.pinned (OpenSpec.ofChange fnExactArchOkWrong)

/-- 'laws.FnExactCountStones': WHATEVER THE INPUT: true; the input reads as it did. -/
def fnExactCountStonesSpec : ChangeSpec := { name := "fnExactCountStones", fn := fun _ => fun
  | [d] => { results := [.lit (.bool true)], args := [d] }
  | _ => none }
def fnExactCountStonesRow : OpenClaim := { program := "ytggkodhfhhjihaa", sum := "89dc82c303045fb0f87592371b79c5db160c44a230f0a7fc0df9aca79ebce945", func := "loop.example/g03301/laws.FnExactCountStones", spec := "fnExactCountStones", unfollowed := true, recurses := true, apart := false }
def FnExactCountStonesSaid : Prop := fnExactCountStonesRow.holds Try.pinned (OpenSpec.ofChange fnExactCountStonesSpec)

/-- ITS FALSE NEIGHBOUR: 'it returns false'. Refute it at one input. -/
def fnExactCountStonesWrong : ChangeSpec := { name := "fnExactCountStones", fn := fun _ => fun
  | [d] => { results := [.lit (.bool false)], args := [d] }
  | _ => none }
def FnExactCountStonesWrongFalsely : Prop := fnExactCountStonesRow.holds Try.pinned (OpenSpec.ofChange fnExactCountStonesWrong)

/-- 'laws.FnExactStoneOf': WHATEVER THE INPUT: true; the input reads as it did. -/
def fnExactStoneOfSpec : ChangeSpec := { name := "fnExactStoneOf", fn := fun _ => fun
  | [d1, d2] => { results := [.lit (.bool true)], args := [d1, d2] }
  | _ => none }
def fnExactStoneOfRow : OpenClaim := { program := "ytggkodhfhhjihaa", sum := "89dc82c303045fb0f87592371b79c5db160c44a230f0a7fc0df9aca79ebce945", func := "loop.example/g03301/laws.FnExactStoneOf", spec := "fnExactStoneOf", unfollowed := true, recurses := true, apart := false }
def FnExactStoneOfSaid : Prop := fnExactStoneOfRow.holds Try.pinned (OpenSpec.ofChange fnExactStoneOfSpec)

/-- ITS FALSE NEIGHBOUR: 'it returns false'. Refute it at one input. -/
def fnExactStoneOfWrong : ChangeSpec := { name := "fnExactStoneOf", fn := fun _ => fun
  | [d1, d2] => { results := [.lit (.bool false)], args := [d1, d2] }
  | _ => none }
def FnExactStoneOfWrongFalsely : Prop := fnExactStoneOfRow.holds Try.pinned (OpenSpec.ofChange fnExactStoneOfWrong)

/-- 'laws.FnExactSpanOf': WHATEVER THE INPUT: true; the input reads as it did. -/
def fnExactSpanOfSpec : ChangeSpec := { name := "fnExactSpanOf", fn := fun _ => fun
  | [d] => { results := [.lit (.bool true)], args := [d] }
  | _ => none }
def fnExactSpanOfRow : OpenClaim := { program := "ytggkodhfhhjihaa", sum := "89dc82c303045fb0f87592371b79c5db160c44a230f0a7fc0df9aca79ebce945", func := "loop.example/g03301/laws.FnExactSpanOf", spec := "fnExactSpanOf", unfollowed := true, recurses := true, apart := false }
def FnExactSpanOfSaid : Prop := fnExactSpanOfRow.holds Try.pinned (OpenSpec.ofChange fnExactSpanOfSpec)

/-- ITS FALSE NEIGHBOUR: 'it returns false'. Refute it at one input. -/
def fnExactSpanOfWrong : ChangeSpec := { name := "fnExactSpanOf", fn := fun _ => fun
  | [d] => { results := [.lit (.bool false)], args := [d] }
  | _ => none }
def FnExactSpanOfWrongFalsely : Prop := fnExactSpanOfRow.holds Try.pinned (OpenSpec.ofChange fnExactSpanOfWrong)

/-- 'laws.FnExactRiseOf': WHATEVER THE INPUT: true; the input reads as it did. -/
def fnExactRiseOfSpec : ChangeSpec := { name := "fnExactRiseOf", fn := fun _ => fun
  | [d] => { results := [.lit (.bool true)], args := [d] }
  | _ => none }
def fnExactRiseOfRow : OpenClaim := { program := "ytggkodhfhhjihaa", sum := "89dc82c303045fb0f87592371b79c5db160c44a230f0a7fc0df9aca79ebce945", func := "loop.example/g03301/laws.FnExactRiseOf", spec := "fnExactRiseOf", unfollowed := true, recurses := true, apart := false }
def FnExactRiseOfSaid : Prop := fnExactRiseOfRow.holds Try.pinned (OpenSpec.ofChange fnExactRiseOfSpec)

/-- ITS FALSE NEIGHBOUR: 'it returns false'. Refute it at one input. -/
def fnExactRiseOfWrong : ChangeSpec := { name := "fnExactRiseOf", fn := fun _ => fun
  | [d] => { results := [.lit (.bool false)], args := [d] }
  | _ => none }
def FnExactRiseOfWrongFalsely : Prop := fnExactRiseOfRow.holds Try.pinned (OpenSpec.ofChange fnExactRiseOfWrong)

/-- 'laws.FnExactMirrorArch': WHATEVER THE INPUT: true; the input reads as it did. -/
def fnExactMirrorArchSpec : ChangeSpec := { name := "fnExactMirrorArch", fn := fun _ => fun
  | [d1, d2] => { results := [.lit (.bool true)], args := [d1, d2] }
  | _ => none }
def fnExactMirrorArchRow : OpenClaim := { program := "ytggkodhfhhjihaa", sum := "89dc82c303045fb0f87592371b79c5db160c44a230f0a7fc0df9aca79ebce945", func := "loop.example/g03301/laws.FnExactMirrorArch", spec := "fnExactMirrorArch", unfollowed := true, recurses := true, apart := false }
def FnExactMirrorArchSaid : Prop := fnExactMirrorArchRow.holds Try.pinned (OpenSpec.ofChange fnExactMirrorArchSpec)

/-- ITS FALSE NEIGHBOUR: 'it returns false'. Refute it at one input. -/
def fnExactMirrorArchWrong : ChangeSpec := { name := "fnExactMirrorArch", fn := fun _ => fun
  | [d1, d2] => { results := [.lit (.bool false)], args := [d1, d2] }
  | _ => none }
def FnExactMirrorArchWrongFalsely : Prop := fnExactMirrorArchRow.holds Try.pinned (OpenSpec.ofChange fnExactMirrorArchWrong)

/- THE SECOND FORM. 'bulk': how many values and letters a reading holds, each counted each time it is reached (what is shared counts as often as it is met; a slice's spare places count too). A statement '..UptoSaid' is the law's where the arguments, and the package variables that the reading takes, are together of bulk at most 1048576: NARROWER than '..Said'. Prove '..Said' where nothing that the law and all that it calls make is longer than what came in: it says more and counts as full. Else prove '..UptoSaid'. A law counts once. -/
mutual
def uptoBulk {H : Type} : DataW H → Nat
  | .lit (.string bytes) => bytes.length + 1
  | .lit _ => 1
  | .nil => 1
  | .ptr d => uptoBulk d + 1
  | .slice elems spare => uptoBulkAll elems + uptoBulkAll spare + 1
  | .agg parts => uptoBulkAll parts + 1
  | .iface _ d => uptoBulk d + 1
  | .map entries => uptoBulkEntries entries + 1
  | .held _ => 1
def uptoBulkAll {H : Type} : List (DataW H) → Nat
  | [] => 0
  | d :: r => uptoBulk d + uptoBulkAll r
def uptoBulkEntries {H : Type} : List (Lit × DataW H) → Nat
  | [] => 0
  | x :: r => uptoBulkEntry x + uptoBulkEntries r
def uptoBulkEntry {H : Type} : Lit × DataW H → Nat
  | (.string bytes, d) => bytes.length + uptoBulk d + 1
  | (_, d) => uptoBulk d + 1
 end
def uptoSmall : (H : Type) → List (DataW H) → Bool := fun _ ds => decide (uptoBulkAll ds ≤ 1048576)
def OpenSpec.upto (s : _root_.Go.ChangeSpec) : _root_.Go.OpenSpec := { _root_.Go.OpenSpec.ofChange s with cond := some uptoSmall }

/-- 'laws.FnExactArchOk', WHERE WHAT IT READS IS OF BULK AT MOST 1048576: true; the input reads as it did. -/
def fnExactArchOkUptoRow : OpenClaim := { program := "ytggkodhfhhjihaa", sum := "89dc82c303045fb0f87592371b79c5db160c44a230f0a7fc0df9aca79ebce945", func := "loop.example/g03301/laws.FnExactArchOk", spec := "fnExactArchOk", unfollowed := true, recurses := true, apart := false, narrowed := true }
def FnExactArchOkUptoSaid : Prop := fnExactArchOkUptoRow.holds Try.pinned (OpenSpec.upto fnExactArchOkSpec)

/-- 'laws.FnExactCountStones', WHERE WHAT IT READS IS OF BULK AT MOST 1048576: true; the input reads as it did. -/
def fnExactCountStonesUptoRow : OpenClaim := { program := "ytggkodhfhhjihaa", sum := "89dc82c303045fb0f87592371b79c5db160c44a230f0a7fc0df9aca79ebce945", func := "loop.example/g03301/laws.FnExactCountStones", spec := "fnExactCountStones", unfollowed := true, recurses := true, apart := false, narrowed := true }
def FnExactCountStonesUptoSaid : Prop := fnExactCountStonesUptoRow.holds Try.pinned (OpenSpec.upto fnExactCountStonesSpec)

/-- 'laws.FnExactStoneOf', WHERE WHAT IT READS IS OF BULK AT MOST 1048576: true; the input reads as it did. -/
def fnExactStoneOfUptoRow : OpenClaim := { program := "ytggkodhfhhjihaa", sum := "89dc82c303045fb0f87592371b79c5db160c44a230f0a7fc0df9aca79ebce945", func := "loop.example/g03301/laws.FnExactStoneOf", spec := "fnExactStoneOf", unfollowed := true, recurses := true, apart := false, narrowed := true }
def FnExactStoneOfUptoSaid : Prop := fnExactStoneOfUptoRow.holds Try.pinned (OpenSpec.upto fnExactStoneOfSpec)

/-- 'laws.FnExactSpanOf', WHERE WHAT IT READS IS OF BULK AT MOST 1048576: true; the input reads as it did. -/
def fnExactSpanOfUptoRow : OpenClaim := { program := "ytggkodhfhhjihaa", sum := "89dc82c303045fb0f87592371b79c5db160c44a230f0a7fc0df9aca79ebce945", func := "loop.example/g03301/laws.FnExactSpanOf", spec := "fnExactSpanOf", unfollowed := true, recurses := true, apart := false, narrowed := true }
def FnExactSpanOfUptoSaid : Prop := fnExactSpanOfUptoRow.holds Try.pinned (OpenSpec.upto fnExactSpanOfSpec)

/-- 'laws.FnExactRiseOf', WHERE WHAT IT READS IS OF BULK AT MOST 1048576: true; the input reads as it did. -/
def fnExactRiseOfUptoRow : OpenClaim := { program := "ytggkodhfhhjihaa", sum := "89dc82c303045fb0f87592371b79c5db160c44a230f0a7fc0df9aca79ebce945", func := "loop.example/g03301/laws.FnExactRiseOf", spec := "fnExactRiseOf", unfollowed := true, recurses := true, apart := false, narrowed := true }
def FnExactRiseOfUptoSaid : Prop := fnExactRiseOfUptoRow.holds Try.pinned (OpenSpec.upto fnExactRiseOfSpec)

/-- 'laws.FnExactMirrorArch', WHERE WHAT IT READS IS OF BULK AT MOST 1048576: true; the input reads as it did. -/
def fnExactMirrorArchUptoRow : OpenClaim := { program := "ytggkodhfhhjihaa", sum := "89dc82c303045fb0f87592371b79c5db160c44a230f0a7fc0df9aca79ebce945", func := "loop.example/g03301/laws.FnExactMirrorArch", spec := "fnExactMirrorArch", unfollowed := true, recurses := true, apart := false, narrowed := true }
def FnExactMirrorArchUptoSaid : Prop := fnExactMirrorArchUptoRow.holds Try.pinned (OpenSpec.upto fnExactMirrorArchSpec)

end Rows
end Go.Proofs.Ytggkodhfhhjihaa
