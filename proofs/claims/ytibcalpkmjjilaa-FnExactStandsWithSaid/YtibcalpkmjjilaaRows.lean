/-
  No cell of these rows narrows 'for every input' (looked for: loops, veiled, ifaces, maps, wideKeys, modest, calm, conditions, laid).
  DERIVED. THE GIVEN ROWS OF THIS SEAT. 3 by the template 'for every input the law returns true; each argument reads behind the call as it read before'; 0 by the template 'total and deterministic' (their statements: YtibcalpkmjjilaaTotals.lean).
  GIVEN WITH THE SEED: the statements are not yours to turn. If you find one false, say at which input.
  Laid BY PROGRAM, IN A SANDBOX (cutbox-rows.mjs): the forced cells as the released guide's own fill.sh prints them over the translation ed9bf750066c2590… (all of the seat's roots in one cut). By AI agents, Wed Nov 11 2026. No macro, syntax, notation, axiom, sorry.
-/
import Derived.Test.YtibcalpkmjjilaaChecked
import GoSem.Claim
import GoSem.ClaimJoined
import GoSem.ClaimMapViews
import Derived.JoinedTies
import Derived.KernelRfl
namespace Go.Proofs.Ytibcalpkmjjilaa
/- THE CELL 'sum', in the pinned program and in every row, IS THE sha256 OF THE DUMP (.gsa) THAT YtibcalpkmjjilaaProg.lean LOADS. Nothing in Lean hashes anything: it is a label: what it is worth is what the hold of that sum in a sandbox is worth. -/
noncomputable def Try.pinned : Pinned := { name := "ytibcalpkmjjilaa", sum := "ed9bf750066c2590e8c7f144aa01e4b5ed94593f8c43b3273a520a28a43fea4d", checked := Try.checked }
namespace Rows
def none {H : Type} : Left H := { results := [], args := [] }

/-- 'laws.FnThreeRows': WHATEVER THE INPUT: true; the input reads as it did. -/
def fnThreeRowsSpec : ChangeSpec := { name := "fnThreeRows", fn := fun _ => fun
  | [d] => { results := [.lit (.bool true)], args := [d] }
  | _ => none }
def fnThreeRowsRow : OpenClaim := { program := "ytibcalpkmjjilaa", sum := "ed9bf750066c2590e8c7f144aa01e4b5ed94593f8c43b3273a520a28a43fea4d", func := "loop.example/g03301/laws.FnThreeRows", spec := "fnThreeRows", apart := false }
def FnThreeRowsSaid : Prop := fnThreeRowsRow.holds Try.pinned (OpenSpec.ofChange fnThreeRowsSpec)

/-- ITS FALSE NEIGHBOUR: 'it returns false'. Refute it at one input. -/
def fnThreeRowsWrong : ChangeSpec := { name := "fnThreeRows", fn := fun _ => fun
  | [d] => { results := [.lit (.bool false)], args := [d] }
  | _ => none }
def FnThreeRowsWrongFalsely : Prop := fnThreeRowsRow.holds Try.pinned (OpenSpec.ofChange fnThreeRowsWrong)

/-- 'laws.FnExactCornersOf': WHATEVER THE INPUT: true; the input reads as it did. -/
def fnExactCornersOfSpec : ChangeSpec := { name := "fnExactCornersOf", fn := fun _ => fun
  | [d] => { results := [.lit (.bool true)], args := [d] }
  | _ => none }
def fnExactCornersOfRow : OpenClaim := { program := "ytibcalpkmjjilaa", sum := "ed9bf750066c2590e8c7f144aa01e4b5ed94593f8c43b3273a520a28a43fea4d", func := "loop.example/g03301/laws.FnExactCornersOf", spec := "fnExactCornersOf", apart := false }
def FnExactCornersOfSaid : Prop := fnExactCornersOfRow.holds Try.pinned (OpenSpec.ofChange fnExactCornersOfSpec)

/-- ITS FALSE NEIGHBOUR: 'it returns false'. Refute it at one input. -/
def fnExactCornersOfWrong : ChangeSpec := { name := "fnExactCornersOf", fn := fun _ => fun
  | [d] => { results := [.lit (.bool false)], args := [d] }
  | _ => none }
def FnExactCornersOfWrongFalsely : Prop := fnExactCornersOfRow.holds Try.pinned (OpenSpec.ofChange fnExactCornersOfWrong)

/-- 'laws.FnExactStandsWith': WHATEVER THE INPUT: true; the input reads as it did. -/
def fnExactStandsWithSpec : ChangeSpec := { name := "fnExactStandsWith", fn := fun _ => fun
  | [d1, d2, d3] => { results := [.lit (.bool true)], args := [d1, d2, d3] }
  | _ => none }
def fnExactStandsWithRow : OpenClaim := { program := "ytibcalpkmjjilaa", sum := "ed9bf750066c2590e8c7f144aa01e4b5ed94593f8c43b3273a520a28a43fea4d", func := "loop.example/g03301/laws.FnExactStandsWith", spec := "fnExactStandsWith", unfollowed := true, recurses := true, apart := false }
def FnExactStandsWithSaid : Prop := fnExactStandsWithRow.holds Try.pinned (OpenSpec.ofChange fnExactStandsWithSpec)

/-- ITS FALSE NEIGHBOUR: 'it returns false'. Refute it at one input. -/
def fnExactStandsWithWrong : ChangeSpec := { name := "fnExactStandsWith", fn := fun _ => fun
  | [d1, d2, d3] => { results := [.lit (.bool false)], args := [d1, d2, d3] }
  | _ => none }
def FnExactStandsWithWrongFalsely : Prop := fnExactStandsWithRow.holds Try.pinned (OpenSpec.ofChange fnExactStandsWithWrong)

/- THE SECOND FORM. 'bulk': how many values and letters a reading holds, each counted each time it is reached (what is shared counts as often as it is met; a slice's spare places count too). A statement '..UptoSaid' is the law's where the arguments, and the package variables that the reading takes, are together of bulk at most 1048576: NARROWER than '..Said'. Prove '..Said' where nothing that the law and all that it calls make is longer than what came in: it says more and counts as full. Else prove '..UptoSaid'. A law counts once. -/
mutual
def uptoBulk {H : Type} : DataW H → Nat
  | .lit (.string bytes) => bytes.length + 1
  | .lit _ => 1
  | .nil => 1
  | .ptr d => uptoBulk d + 1
  | .slice elems spare => uptoBulkAll elems + uptoBulkAll spare + 1
  | .agg parts => uptoBulkAll parts + 1
  | .iface _ d => uptoBulk d + 1
  | .map entries => uptoBulkEntries entries + 1
  | .held _ => 1
def uptoBulkAll {H : Type} : List (DataW H) → Nat
  | [] => 0
  | d :: r => uptoBulk d + uptoBulkAll r
def uptoBulkEntries {H : Type} : List (Lit × DataW H) → Nat
  | [] => 0
  | x :: r => uptoBulkEntry x + uptoBulkEntries r
def uptoBulkEntry {H : Type} : Lit × DataW H → Nat
  | (.string bytes, d) => bytes.length + uptoBulk d + 1
  | (_, d) => uptoBulk d + 1
 end
def uptoSmall : (H : Type) → List (DataW H) → Bool := fun _ ds => decide (uptoBulkAll ds ≤ 1048576)
def OpenSpec.upto (s : _root_.Go.ChangeSpec) : _root_.Go.OpenSpec := { _root_.Go.OpenSpec.ofChange s with cond := some uptoSmall }

/-- 'laws.FnThreeRows', WHERE WHAT IT READS IS OF BULK AT MOST 1048576: true; the input reads as it did. -/
def fnThreeRowsUptoRow : OpenClaim := { program := "ytibcalpkmjjilaa", sum := "ed9bf750066c2590e8c7f144aa01e4b5ed94593f8c43b3273a520a28a43fea4d", func := "loop.example/g03301/laws.FnThreeRows", spec := "fnThreeRows", apart := false, narrowed := true }
def FnThreeRowsUptoSaid : Prop := fnThreeRowsUptoRow.holds Try.pinned (OpenSpec.upto fnThreeRowsSpec)

/-- 'laws.FnExactCornersOf', WHERE WHAT IT READS IS OF BULK AT MOST 1048576: true; the input reads as it did. -/
def fnExactCornersOfUptoRow : OpenClaim := { program := "ytibcalpkmjjilaa", sum := "ed9bf750066c2590e8c7f144aa01e4b5ed94593f8c43b3273a520a28a43fea4d", func := "loop.example/g03301/laws.FnExactCornersOf", spec := "fnExactCornersOf", apart := false, narrowed := true }
def FnExactCornersOfUptoSaid : Prop := fnExactCornersOfUptoRow.holds Try.pinned (OpenSpec.upto fnExactCornersOfSpec)

/-- 'laws.FnExactStandsWith', WHERE WHAT IT READS IS OF BULK AT MOST 1048576: true; the input reads as it did. -/
def fnExactStandsWithUptoRow : OpenClaim := { program := "ytibcalpkmjjilaa", sum := "ed9bf750066c2590e8c7f144aa01e4b5ed94593f8c43b3273a520a28a43fea4d", func := "loop.example/g03301/laws.FnExactStandsWith", spec := "fnExactStandsWith", unfollowed := true, recurses := true, apart := false, narrowed := true }
def FnExactStandsWithUptoSaid : Prop := fnExactStandsWithUptoRow.holds Try.pinned (OpenSpec.upto fnExactStandsWithSpec)

end Rows
end Go.Proofs.Ytibcalpkmjjilaa
