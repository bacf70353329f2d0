/-
  No cell of these rows narrows 'for every input' (looked for: loops, veiled, ifaces, maps, wideKeys, modest, calm, conditions, laid).
  DERIVED. THE GIVEN ROWS OF THIS SEAT. 4 by the template 'for every input the law returns true; each argument reads behind the call as it read before'; 0 by the template 'total and deterministic' (their statements: YtkafkghiahljpaaTotals.lean).
  GIVEN WITH THE SEED: the statements are not yours to turn. If you find one false, say at which input.
  Laid BY PROGRAM, IN A SANDBOX (cutbox-rows.mjs): the forced cells as the released guide's own fill.sh prints them over the translation ddc1598d525e4c24… (all of the seat's roots in one cut). By AI agents, Wed Nov 11 2026. No macro, syntax, notation, axiom, sorry.
-/
import Derived.Test.YtkafkghiahljpaaChecked
import GoSem.Claim
import GoSem.ClaimJoined
import GoSem.ClaimMapViews
import Derived.JoinedTies
import Derived.KernelRfl
namespace Go.Proofs.Ytkafkghiahljpaa
/- THE CELL 'sum', in the pinned program and in every row, IS THE sha256 OF THE DUMP (.gsa) THAT YtkafkghiahljpaaProg.lean LOADS. Nothing in Lean hashes anything: it is a label: what it is worth is what the hold of that sum in a sandbox is worth. -/
noncomputable def Try.pinned : Pinned := { name := "ytkafkghiahljpaa", sum := "ddc1598d525e4c241df859b25618961a848c732fc31df37fd509aa91d4cee022", checked := Try.checked }
namespace Rows
def none {H : Type} : Left H := { results := [], args := [] }

/-- 'laws.FnExactPushAt': WHATEVER THE INPUT: true; the input reads as it did. -/
def fnExactPushAtSpec : ChangeSpec := { name := "fnExactPushAt", fn := fun _ => fun
  | [d1, d2, d3, d4] => { results := [.lit (.bool true)], args := [d1, d2, d3, d4] }
  | _ => none }
def fnExactPushAtRow : OpenClaim := { program := "ytkafkghiahljpaa", sum := "ddc1598d525e4c241df859b25618961a848c732fc31df37fd509aa91d4cee022", func := "loop.example/g03301/laws.FnExactPushAt", spec := "fnExactPushAt", unfollowed := true, recurses := true, apart := false }
def FnExactPushAtSaid : Prop := fnExactPushAtRow.holds Try.pinned (OpenSpec.ofChange fnExactPushAtSpec)

/-- ITS FALSE NEIGHBOUR: 'it returns false'. Refute it at one input. -/
def fnExactPushAtWrong : ChangeSpec := { name := "fnExactPushAt", fn := fun _ => fun
  | [d1, d2, d3, d4] => { results := [.lit (.bool false)], args := [d1, d2, d3, d4] }
  | _ => none }
def FnExactPushAtWrongFalsely : Prop := fnExactPushAtRow.holds Try.pinned (OpenSpec.ofChange fnExactPushAtWrong)

/-- 'laws.FnExactMomentsAt': WHATEVER THE INPUT: true; the input reads as it did. -/
def fnExactMomentsAtSpec : ChangeSpec := { name := "fnExactMomentsAt", fn := fun _ => fun
  | [d1, d2, d3, d4] => { results := [.lit (.bool true)], args := [d1, d2, d3, d4] }
  | _ => none }
def fnExactMomentsAtRow : OpenClaim := { program := "ytkafkghiahljpaa", sum := "ddc1598d525e4c241df859b25618961a848c732fc31df37fd509aa91d4cee022", func := "loop.example/g03301/laws.FnExactMomentsAt", spec := "fnExactMomentsAt", unfollowed := true, recurses := true, apart := false }
def FnExactMomentsAtSaid : Prop := fnExactMomentsAtRow.holds Try.pinned (OpenSpec.ofChange fnExactMomentsAtSpec)

/-- ITS FALSE NEIGHBOUR: 'it returns false'. Refute it at one input. -/
def fnExactMomentsAtWrong : ChangeSpec := { name := "fnExactMomentsAt", fn := fun _ => fun
  | [d1, d2, d3, d4] => { results := [.lit (.bool false)], args := [d1, d2, d3, d4] }
  | _ => none }
def FnExactMomentsAtWrongFalsely : Prop := fnExactMomentsAtRow.holds Try.pinned (OpenSpec.ofChange fnExactMomentsAtWrong)

/-- 'laws.FnExactIsInside': WHATEVER THE INPUT: true; the input reads as it did. -/
def fnExactIsInsideSpec : ChangeSpec := { name := "fnExactIsInside", fn := fun _ => fun
  | [d1, d2, d3, d4] => { results := [.lit (.bool true)], args := [d1, d2, d3, d4] }
  | _ => none }
def fnExactIsInsideRow : OpenClaim := { program := "ytkafkghiahljpaa", sum := "ddc1598d525e4c241df859b25618961a848c732fc31df37fd509aa91d4cee022", func := "loop.example/g03301/laws.FnExactIsInside", spec := "fnExactIsInside", unfollowed := true, recurses := true, apart := false }
def FnExactIsInsideSaid : Prop := fnExactIsInsideRow.holds Try.pinned (OpenSpec.ofChange fnExactIsInsideSpec)

/-- ITS FALSE NEIGHBOUR: 'it returns false'. Refute it at one input. -/
def fnExactIsInsideWrong : ChangeSpec := { name := "fnExactIsInside", fn := fun _ => fun
  | [d1, d2, d3, d4] => { results := [.lit (.bool false)], args := [d1, d2, d3, d4] }
  | _ => none }
def FnExactIsInsideWrongFalsely : Prop := fnExactIsInsideRow.holds Try.pinned (OpenSpec.ofChange fnExactIsInsideWrong)

/-- 'laws.FnExactPlaceAt': WHATEVER THE INPUT: true; the input reads as it did. -/
def fnExactPlaceAtSpec : ChangeSpec := { name := "fnExactPlaceAt", fn := fun _ => fun
  | [d1, d2, d3, d4] => { results := [.lit (.bool true)], args := [d1, d2, d3, d4] }
  | _ => none }
def fnExactPlaceAtRow : OpenClaim := { program := "ytkafkghiahljpaa", sum := "ddc1598d525e4c241df859b25618961a848c732fc31df37fd509aa91d4cee022", func := "loop.example/g03301/laws.FnExactPlaceAt", spec := "fnExactPlaceAt", unfollowed := true, recurses := true, apart := false }
def FnExactPlaceAtSaid : Prop := fnExactPlaceAtRow.holds Try.pinned (OpenSpec.ofChange fnExactPlaceAtSpec)

/-- ITS FALSE NEIGHBOUR: 'it returns false'. Refute it at one input. -/
def fnExactPlaceAtWrong : ChangeSpec := { name := "fnExactPlaceAt", fn := fun _ => fun
  | [d1, d2, d3, d4] => { results := [.lit (.bool false)], args := [d1, d2, d3, d4] }
  | _ => none }
def FnExactPlaceAtWrongFalsely : Prop := fnExactPlaceAtRow.holds Try.pinned (OpenSpec.ofChange fnExactPlaceAtWrong)

/- THE SECOND FORM. 'bulk': how many values and letters a reading holds, each counted each time it is reached (what is shared counts as often as it is met; a slice's spare places count too). A statement '..UptoSaid' is the law's where the arguments, and the package variables that the reading takes, are together of bulk at most 1048576: NARROWER than '..Said'. Prove '..Said' where nothing that the law and all that it calls make is longer than what came in: it says more and counts as full. Else prove '..UptoSaid'. A law counts once. -/
mutual
def uptoBulk {H : Type} : DataW H → Nat
  | .lit (.string bytes) => bytes.length + 1
  | .lit _ => 1
  | .nil => 1
  | .ptr d => uptoBulk d + 1
  | .slice elems spare => uptoBulkAll elems + uptoBulkAll spare + 1
  | .agg parts => uptoBulkAll parts + 1
  | .iface _ d => uptoBulk d + 1
  | .map entries => uptoBulkEntries entries + 1
  | .held _ => 1
def uptoBulkAll {H : Type} : List (DataW H) → Nat
  | [] => 0
  | d :: r => uptoBulk d + uptoBulkAll r
def uptoBulkEntries {H : Type} : List (Lit × DataW H) → Nat
  | [] => 0
  | x :: r => uptoBulkEntry x + uptoBulkEntries r
def uptoBulkEntry {H : Type} : Lit × DataW H → Nat
  | (.string bytes, d) => bytes.length + uptoBulk d + 1
  | (_, d) => uptoBulk d + 1
 end
def uptoSmall : (H : Type) → List (DataW H) → Bool := fun _ ds => decide (uptoBulkAll ds ≤ 1048576)
def OpenSpec.upto (s : _root_.Go.ChangeSpec) : _root_.Go.OpenSpec := { _root_.Go.OpenSpec.ofChange s with cond := some uptoSmall }

/-- 'laws.FnExactPushAt', WHERE WHAT IT READS IS OF BULK AT MOST 1048576: true; the input reads as it did. -/
def fnExactPushAtUptoRow : OpenClaim := { program := "ytkafkghiahljpaa", sum := "ddc1598d525e4c241df859b25618961a848c732fc31df37fd509aa91d4cee022", func := "loop.example/g03301/laws.FnExactPushAt", spec := "fnExactPushAt", unfollowed := true, recurses := true, apart := false, narrowed := true }
def FnExactPushAtUptoSaid : Prop := fnExactPushAtUptoRow.holds Try.pinned (OpenSpec.upto fnExactPushAtSpec)

/-- 'laws.FnExactMomentsAt', WHERE WHAT IT READS IS OF BULK AT MOST 1048576: true; the input reads as it did. -/
def fnExactMomentsAtUptoRow : OpenClaim := { program := "ytkafkghiahljpaa", sum := "ddc1598d525e4c241df859b25618961a848c732fc31df37fd509aa91d4cee022", func := "loop.example/g03301/laws.FnExactMomentsAt", spec := "fnExactMomentsAt", unfollowed := true, recurses := true, apart := false, narrowed := true }
def FnExactMomentsAtUptoSaid : Prop := fnExactMomentsAtUptoRow.holds Try.pinned (OpenSpec.upto fnExactMomentsAtSpec)

/-- 'laws.FnExactIsInside', WHERE WHAT IT READS IS OF BULK AT MOST 1048576: true; the input reads as it did. -/
def fnExactIsInsideUptoRow : OpenClaim := { program := "ytkafkghiahljpaa", sum := "ddc1598d525e4c241df859b25618961a848c732fc31df37fd509aa91d4cee022", func := "loop.example/g03301/laws.FnExactIsInside", spec := "fnExactIsInside", unfollowed := true, recurses := true, apart := false, narrowed := true }
def FnExactIsInsideUptoSaid : Prop := fnExactIsInsideUptoRow.holds Try.pinned (OpenSpec.upto fnExactIsInsideSpec)

/-- 'laws.FnExactPlaceAt', WHERE WHAT IT READS IS OF BULK AT MOST 1048576: true; the input reads as it did. -/
def fnExactPlaceAtUptoRow : OpenClaim := { program := "ytkafkghiahljpaa", sum := "ddc1598d525e4c241df859b25618961a848c732fc31df37fd509aa91d4cee022", func := "loop.example/g03301/laws.FnExactPlaceAt", spec := "fnExactPlaceAt", unfollowed := true, recurses := true, apart := false, narrowed := true }
def FnExactPlaceAtUptoSaid : Prop := fnExactPlaceAtUptoRow.holds Try.pinned (OpenSpec.upto fnExactPlaceAtSpec)

end Rows
end Go.Proofs.Ytkafkghiahljpaa
