/-
  No cell of these rows narrows 'for every input' (looked for: loops, veiled, ifaces, maps, wideKeys, modest, calm, conditions, laid).
  DERIVED. THE GIVEN ROWS OF THIS SEAT. 6 by the template 'for every input the law returns true; each argument reads behind the call as it read before'; 0 by the template 'total and deterministic' (their statements: YtdaiffaedejnbaaTotals.lean).
  GIVEN WITH THE SEED: the statements are not yours to turn. If you find one false, say at which input.
  Laid BY PROGRAM, IN A SANDBOX (cutbox-rows.mjs): the forced cells as the released guide's own fill.sh prints them over the translation 9d791f5ba1f3ca25… (all of the seat's roots in one cut). By AI agents, Wed Nov 11 2026. No macro, syntax, notation, axiom, sorry.
-/
import Derived.Test.YtdaiffaedejnbaaChecked
import GoSem.Claim
import GoSem.ClaimJoined
import GoSem.ClaimMapViews
import Derived.JoinedTies
import Derived.KernelRfl
namespace Go.Proofs.Ytdaiffaedejnbaa
/- THE CELL 'sum', in the pinned program and in every row, IS THE sha256 OF THE DUMP (.gsa) THAT YtdaiffaedejnbaaProg.lean LOADS. Nothing in Lean hashes anything: it is a label: what it is worth is what the hold of that sum in a sandbox is worth. -/
noncomputable def Try.pinned : Pinned := { name := "ytdaiffaedejnbaa", sum := "9d791f5ba1f3ca252ac3ed7043f655afc894a4ec94dbfe651544d90bc74664f6", checked := Try.checked }
namespace Rows
def none {H : Type} : Left H := { results := [], args := [] }

/-- 'laws.FnThreeRows': WHATEVER THE INPUT: true; the input reads as it did. -/
def fnThreeRowsSpec : ChangeSpec := { name := "fnThreeRows", fn := fun _ => fun
  | [d] => { results := [.lit (.bool true)], args := [d] }
  | _ => none }
def fnThreeRowsRow : OpenClaim := { program := "ytdaiffaedejnbaa", sum := "9d791f5ba1f3ca252ac3ed7043f655afc894a4ec94dbfe651544d90bc74664f6", func := "loop.example/g03301/laws.FnThreeRows", spec := "fnThreeRows", apart := false }
def FnThreeRowsSaid : Prop := fnThreeRowsRow.holds Try.pinned (OpenSpec.ofChange fnThreeRowsSpec)

/-- ITS FALSE NEIGHBOUR: 'it returns false'. Refute it at one input. -/
def fnThreeRowsWrong : ChangeSpec := { name := "fnThreeRows", fn := fun _ => fun
  | [d] => { results := [.lit (.bool false)], args := [d] }
  | _ => none }
def FnThreeRowsWrongFalsely : Prop := fnThreeRowsRow.holds Try.pinned (OpenSpec.ofChange fnThreeRowsWrong)

/-- 'laws.FnExactDetOfRows': WHATEVER THE INPUT: true; the input reads as it did. -/
def fnExactDetOfRowsSpec : ChangeSpec := { name := "fnExactDetOfRows", fn := fun _ => fun
  | [d1, d2, d3] => { results := [.lit (.bool true)], args := [d1, d2, d3] }
  | _ => none }
def fnExactDetOfRowsRow : OpenClaim := { program := "ytdaiffaedejnbaa", sum := "9d791f5ba1f3ca252ac3ed7043f655afc894a4ec94dbfe651544d90bc74664f6", func := "loop.example/g03301/laws.FnExactDetOfRows", spec := "fnExactDetOfRows", apart := false }
def FnExactDetOfRowsSaid : Prop := fnExactDetOfRowsRow.holds Try.pinned (OpenSpec.ofChange fnExactDetOfRowsSpec)

/-- ITS FALSE NEIGHBOUR: 'it returns false'. Refute it at one input. -/
def fnExactDetOfRowsWrong : ChangeSpec := { name := "fnExactDetOfRows", fn := fun _ => fun
  | [d1, d2, d3] => { results := [.lit (.bool false)], args := [d1, d2, d3] }
  | _ => none }
def FnExactDetOfRowsWrongFalsely : Prop := fnExactDetOfRowsRow.holds Try.pinned (OpenSpec.ofChange fnExactDetOfRowsWrong)

/-- 'laws.FnExactSolveRows': WHATEVER THE INPUT: true; the input reads as it did. -/
def fnExactSolveRowsSpec : ChangeSpec := { name := "fnExactSolveRows", fn := fun _ => fun
  | [d1, d2, d3] => { results := [.lit (.bool true)], args := [d1, d2, d3] }
  | _ => none }
def fnExactSolveRowsRow : OpenClaim := { program := "ytdaiffaedejnbaa", sum := "9d791f5ba1f3ca252ac3ed7043f655afc894a4ec94dbfe651544d90bc74664f6", func := "loop.example/g03301/laws.FnExactSolveRows", spec := "fnExactSolveRows", apart := false }
def FnExactSolveRowsSaid : Prop := fnExactSolveRowsRow.holds Try.pinned (OpenSpec.ofChange fnExactSolveRowsSpec)

/-- ITS FALSE NEIGHBOUR: 'it returns false'. Refute it at one input. -/
def fnExactSolveRowsWrong : ChangeSpec := { name := "fnExactSolveRows", fn := fun _ => fun
  | [d1, d2, d3] => { results := [.lit (.bool false)], args := [d1, d2, d3] }
  | _ => none }
def FnExactSolveRowsWrongFalsely : Prop := fnExactSolveRowsRow.holds Try.pinned (OpenSpec.ofChange fnExactSolveRowsWrong)

/-- 'laws.FnExactIsJustMet': WHATEVER THE INPUT: true; the input reads as it did. -/
def fnExactIsJustMetSpec : ChangeSpec := { name := "fnExactIsJustMet", fn := fun _ => fun
  | [d1, d2] => { results := [.lit (.bool true)], args := [d1, d2] }
  | _ => none }
def fnExactIsJustMetRow : OpenClaim := { program := "ytdaiffaedejnbaa", sum := "9d791f5ba1f3ca252ac3ed7043f655afc894a4ec94dbfe651544d90bc74664f6", func := "loop.example/g03301/laws.FnExactIsJustMet", spec := "fnExactIsJustMet", apart := false }
def FnExactIsJustMetSaid : Prop := fnExactIsJustMetRow.holds Try.pinned (OpenSpec.ofChange fnExactIsJustMetSpec)

/-- ITS FALSE NEIGHBOUR: 'it returns false'. Refute it at one input. -/
def fnExactIsJustMetWrong : ChangeSpec := { name := "fnExactIsJustMet", fn := fun _ => fun
  | [d1, d2] => { results := [.lit (.bool false)], args := [d1, d2] }
  | _ => none }
def FnExactIsJustMetWrongFalsely : Prop := fnExactIsJustMetRow.holds Try.pinned (OpenSpec.ofChange fnExactIsJustMetWrong)

/-- 'laws.FnExactCornersOf': WHATEVER THE INPUT: true; the input reads as it did. -/
def fnExactCornersOfSpec : ChangeSpec := { name := "fnExactCornersOf", fn := fun _ => fun
  | [d] => { results := [.lit (.bool true)], args := [d] }
  | _ => none }
def fnExactCornersOfRow : OpenClaim := { program := "ytdaiffaedejnbaa", sum := "9d791f5ba1f3ca252ac3ed7043f655afc894a4ec94dbfe651544d90bc74664f6", func := "loop.example/g03301/laws.FnExactCornersOf", spec := "fnExactCornersOf", apart := false }
def FnExactCornersOfSaid : Prop := fnExactCornersOfRow.holds Try.pinned (OpenSpec.ofChange fnExactCornersOfSpec)

/-- ITS FALSE NEIGHBOUR: 'it returns false'. Refute it at one input. -/
def fnExactCornersOfWrong : ChangeSpec := { name := "fnExactCornersOf", fn := fun _ => fun
  | [d] => { results := [.lit (.bool false)], args := [d] }
  | _ => none }
def FnExactCornersOfWrongFalsely : Prop := fnExactCornersOfRow.holds Try.pinned (OpenSpec.ofChange fnExactCornersOfWrong)

/-- 'laws.FnExactJustMetBy': WHATEVER THE INPUT: true; the input reads as it did. -/
def fnExactJustMetBySpec : ChangeSpec := { name := "fnExactJustMetBy", fn := fun _ => fun
  | [d1, d2] => { results := [.lit (.bool true)], args := [d1, d2] }
  | _ => none }
def fnExactJustMetByRow : OpenClaim := { program := "ytdaiffaedejnbaa", sum := "9d791f5ba1f3ca252ac3ed7043f655afc894a4ec94dbfe651544d90bc74664f6", func := "loop.example/g03301/laws.FnExactJustMetBy", spec := "fnExactJustMetBy", apart := false }
def FnExactJustMetBySaid : Prop := fnExactJustMetByRow.holds Try.pinned (OpenSpec.ofChange fnExactJustMetBySpec)

/-- ITS FALSE NEIGHBOUR: 'it returns false'. Refute it at one input. -/
def fnExactJustMetByWrong : ChangeSpec := { name := "fnExactJustMetBy", fn := fun _ => fun
  | [d1, d2] => { results := [.lit (.bool false)], args := [d1, d2] }
  | _ => none }
def FnExactJustMetByWrongFalsely : Prop := fnExactJustMetByRow.holds Try.pinned (OpenSpec.ofChange fnExactJustMetByWrong)

/- THE SECOND FORM. 'bulk': how many values and letters a reading holds, each counted each time it is reached (what is shared counts as often as it is met; a slice's spare places count too). A statement '..UptoSaid' is the law's where the arguments, and the package variables that the reading takes, are together of bulk at most 1048576: NARROWER than '..Said'. Prove '..Said' where nothing that the law and all that it calls make is longer than what came in: it says more and counts as full. Else prove '..UptoSaid'. A law counts once. -/
mutual
def uptoBulk {H : Type} : DataW H → Nat
  | .lit (.string bytes) => bytes.length + 1
  | .lit _ => 1
  | .nil => 1
  | .ptr d => uptoBulk d + 1
  | .slice elems spare => uptoBulkAll elems + uptoBulkAll spare + 1
  | .agg parts => uptoBulkAll parts + 1
  | .iface _ d => uptoBulk d + 1
  | .map entries => uptoBulkEntries entries + 1
  | .held _ => 1
def uptoBulkAll {H : Type} : List (DataW H) → Nat
  | [] => 0
  | d :: r => uptoBulk d + uptoBulkAll r
def uptoBulkEntries {H : Type} : List (Lit × DataW H) → Nat
  | [] => 0
  | x :: r => uptoBulkEntry x + uptoBulkEntries r
def uptoBulkEntry {H : Type} : Lit × DataW H → Nat
  | (.string bytes, d) => bytes.length + uptoBulk d + 1
  | (_, d) => uptoBulk d + 1
 end
def uptoSmall : (H : Type) → List (DataW H) → Bool := fun _ ds => decide (uptoBulkAll ds ≤ 1048576)
def OpenSpec.upto (s : _root_.Go.ChangeSpec) : _root_.Go.OpenSpec := { _root_.Go.OpenSpec.ofChange s with cond := some uptoSmall }

/-- 'laws.FnThreeRows', WHERE WHAT IT READS IS OF BULK AT MOST 1048576: true; the input reads as it did. -/
def fnThreeRowsUptoRow : OpenClaim := { program := "ytdaiffaedejnbaa", sum := "9d791f5ba1f3ca252ac3ed7043f655afc894a4ec94dbfe651544d90bc74664f6", func := "loop.example/g03301/laws.FnThreeRows", spec := "fnThreeRows", apart := false, narrowed := true }
def FnThreeRowsUptoSaid : Prop := fnThreeRowsUptoRow.holds Try.pinned (OpenSpec.upto fnThreeRowsSpec)

/-- 'laws.FnExactDetOfRows', WHERE WHAT IT READS IS OF BULK AT MOST 1048576: true; the input reads as it did. -/
def fnExactDetOfRowsUptoRow : OpenClaim := { program := "ytdaiffaedejnbaa", sum := "9d791f5ba1f3ca252ac3ed7043f655afc894a4ec94dbfe651544d90bc74664f6", func := "loop.example/g03301/laws.FnExactDetOfRows", spec := "fnExactDetOfRows", apart := false, narrowed := true }
def FnExactDetOfRowsUptoSaid : Prop := fnExactDetOfRowsUptoRow.holds Try.pinned (OpenSpec.upto fnExactDetOfRowsSpec)

/-- 'laws.FnExactSolveRows', WHERE WHAT IT READS IS OF BULK AT MOST 1048576: true; the input reads as it did. -/
def fnExactSolveRowsUptoRow : OpenClaim := { program := "ytdaiffaedejnbaa", sum := "9d791f5ba1f3ca252ac3ed7043f655afc894a4ec94dbfe651544d90bc74664f6", func := "loop.example/g03301/laws.FnExactSolveRows", spec := "fnExactSolveRows", apart := false, narrowed := true }
def FnExactSolveRowsUptoSaid : Prop := fnExactSolveRowsUptoRow.holds Try.pinned (OpenSpec.upto fnExactSolveRowsSpec)

/-- 'laws.FnExactIsJustMet', WHERE WHAT IT READS IS OF BULK AT MOST 1048576: true; the input reads as it did. -/
def fnExactIsJustMetUptoRow : OpenClaim := { program := "ytdaiffaedejnbaa", sum := "9d791f5ba1f3ca252ac3ed7043f655afc894a4ec94dbfe651544d90bc74664f6", func := "loop.example/g03301/laws.FnExactIsJustMet", spec := "fnExactIsJustMet", apart := false, narrowed := true }
def FnExactIsJustMetUptoSaid : Prop := fnExactIsJustMetUptoRow.holds Try.pinned (OpenSpec.upto fnExactIsJustMetSpec)

/-- 'laws.FnExactCornersOf', WHERE WHAT IT READS IS OF BULK AT MOST 1048576: true; the input reads as it did. -/
def fnExactCornersOfUptoRow : OpenClaim := { program := "ytdaiffaedejnbaa", sum := "9d791f5ba1f3ca252ac3ed7043f655afc894a4ec94dbfe651544d90bc74664f6", func := "loop.example/g03301/laws.FnExactCornersOf", spec := "fnExactCornersOf", apart := false, narrowed := true }
def FnExactCornersOfUptoSaid : Prop := fnExactCornersOfUptoRow.holds Try.pinned (OpenSpec.upto fnExactCornersOfSpec)

/-- 'laws.FnExactJustMetBy', WHERE WHAT IT READS IS OF BULK AT MOST 1048576: true; the input reads as it did. -/
def fnExactJustMetByUptoRow : OpenClaim := { program := "ytdaiffaedejnbaa", sum := "9d791f5ba1f3ca252ac3ed7043f655afc894a4ec94dbfe651544d90bc74664f6", func := "loop.example/g03301/laws.FnExactJustMetBy", spec := "fnExactJustMetBy", apart := false, narrowed := true }
def FnExactJustMetByUptoSaid : Prop := fnExactJustMetByUptoRow.holds Try.pinned (OpenSpec.upto fnExactJustMetBySpec)

end Rows
end Go.Proofs.Ytdaiffaedejnbaa
