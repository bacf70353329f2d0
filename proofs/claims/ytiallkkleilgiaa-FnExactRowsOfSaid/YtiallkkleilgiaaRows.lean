/-
  No cell of these rows narrows 'for every input' (looked for: loops, veiled, ifaces, maps, wideKeys, modest, calm, conditions, laid).
  DERIVED. THE GIVEN ROWS OF THIS SEAT. 5 by the template 'for every input the law returns true; each argument reads behind the call as it read before'; 0 by the template 'total and deterministic' (their statements: YtiallkkleilgiaaTotals.lean).
  GIVEN WITH THE SEED: the statements are not yours to turn. If you find one false, say at which input.
  Laid BY PROGRAM, IN A SANDBOX (cutbox-rows.mjs): the forced cells as the released guide's own fill.sh prints them over the translation a653d413322bcbd3… (all of the seat's roots in one cut). By AI agents, Wed Nov 11 2026. No macro, syntax, notation, axiom, sorry.
-/
import Derived.Test.YtiallkkleilgiaaChecked
import GoSem.Claim
import GoSem.ClaimJoined
import GoSem.ClaimMapViews
import Derived.JoinedTies
import Derived.KernelRfl
namespace Go.Proofs.Ytiallkkleilgiaa
/- THE CELL 'sum', in the pinned program and in every row, IS THE sha256 OF THE DUMP (.gsa) THAT YtiallkkleilgiaaProg.lean LOADS. Nothing in Lean hashes anything: it is a label: what it is worth is what the hold of that sum in a sandbox is worth. -/
noncomputable def Try.pinned : Pinned := { name := "ytiallkkleilgiaa", sum := "a653d413322bcbd3d8de729ac262de381e6e1ac49371b43f3a5a11a4233bf1c5", checked := Try.checked }
namespace Rows
def none {H : Type} : Left H := { results := [], args := [] }

/-- 'laws.FnExactRowOk': WHATEVER THE INPUT: true; the input reads as it did. -/
def fnExactRowOkSpec : ChangeSpec := { name := "fnExactRowOk", fn := fun _ => fun
  | [d] => { results := [.lit (.bool true)], args := [d] }
  | _ => none }
def fnExactRowOkRow : OpenClaim := { program := "ytiallkkleilgiaa", sum := "a653d413322bcbd3d8de729ac262de381e6e1ac49371b43f3a5a11a4233bf1c5", func := "loop.example/g03301/laws.FnExactRowOk", spec := "fnExactRowOk", apart := false }
def FnExactRowOkSaid : Prop := fnExactRowOkRow.holds Try.pinned (OpenSpec.ofChange fnExactRowOkSpec)

/-- ITS FALSE NEIGHBOUR: 'it returns false'. Refute it at one input. -/
def fnExactRowOkWrong : ChangeSpec := { name := "fnExactRowOk", fn := fun _ => fun
  | [d] => { results := [.lit (.bool false)], args := [d] }
  | _ => none }
def FnExactRowOkWrongFalsely : Prop := fnExactRowOkRow.holds Try.pinned (OpenSpec.ofChange fnExactRowOkWrong)

/-- 'laws.FnExactFulfills': WHATEVER THE INPUT: true; the input reads as it did. -/
def fnExactFulfillsSpec : ChangeSpec := { name := "fnExactFulfills", fn := fun _ => fun
  | [d1, d2] => { results := [.lit (.bool true)], args := [d1, d2] }
  | _ => none }
def fnExactFulfillsRow : OpenClaim := { program := "ytiallkkleilgiaa", sum := "a653d413322bcbd3d8de729ac262de381e6e1ac49371b43f3a5a11a4233bf1c5", func := "loop.example/g03301/laws.FnExactFulfills", spec := "fnExactFulfills", apart := false }
def FnExactFulfillsSaid : Prop := fnExactFulfillsRow.holds Try.pinned (OpenSpec.ofChange fnExactFulfillsSpec)

/-- ITS FALSE NEIGHBOUR: 'it returns false'. Refute it at one input. -/
def fnExactFulfillsWrong : ChangeSpec := { name := "fnExactFulfills", fn := fun _ => fun
  | [d1, d2] => { results := [.lit (.bool false)], args := [d1, d2] }
  | _ => none }
def FnExactFulfillsWrongFalsely : Prop := fnExactFulfillsRow.holds Try.pinned (OpenSpec.ofChange fnExactFulfillsWrong)

/-- 'laws.FnExactRowsOf': WHATEVER THE INPUT: true; the input reads as it did. -/
def fnExactRowsOfSpec : ChangeSpec := { name := "fnExactRowsOf", fn := fun _ => fun
  | [d1, d2] => { results := [.lit (.bool true)], args := [d1, d2] }
  | _ => none }
def fnExactRowsOfRow : OpenClaim := { program := "ytiallkkleilgiaa", sum := "a653d413322bcbd3d8de729ac262de381e6e1ac49371b43f3a5a11a4233bf1c5", func := "loop.example/g03301/laws.FnExactRowsOf", spec := "fnExactRowsOf", unfollowed := true, recurses := true, apart := false }
def FnExactRowsOfSaid : Prop := fnExactRowsOfRow.holds Try.pinned (OpenSpec.ofChange fnExactRowsOfSpec)

/-- ITS FALSE NEIGHBOUR: 'it returns false'. Refute it at one input. -/
def fnExactRowsOfWrong : ChangeSpec := { name := "fnExactRowsOf", fn := fun _ => fun
  | [d1, d2] => { results := [.lit (.bool false)], args := [d1, d2] }
  | _ => none }
def FnExactRowsOfWrongFalsely : Prop := fnExactRowsOfRow.holds Try.pinned (OpenSpec.ofChange fnExactRowsOfWrong)

/-- 'laws.FnExactFulfillsAll': WHATEVER THE INPUT: true; the input reads as it did. -/
def fnExactFulfillsAllSpec : ChangeSpec := { name := "fnExactFulfillsAll", fn := fun _ => fun
  | [d1, d2] => { results := [.lit (.bool true)], args := [d1, d2] }
  | _ => none }
def fnExactFulfillsAllRow : OpenClaim := { program := "ytiallkkleilgiaa", sum := "a653d413322bcbd3d8de729ac262de381e6e1ac49371b43f3a5a11a4233bf1c5", func := "loop.example/g03301/laws.FnExactFulfillsAll", spec := "fnExactFulfillsAll", apart := false }
def FnExactFulfillsAllSaid : Prop := fnExactFulfillsAllRow.holds Try.pinned (OpenSpec.ofChange fnExactFulfillsAllSpec)

/-- ITS FALSE NEIGHBOUR: 'it returns false'. Refute it at one input. -/
def fnExactFulfillsAllWrong : ChangeSpec := { name := "fnExactFulfillsAll", fn := fun _ => fun
  | [d1, d2] => { results := [.lit (.bool false)], args := [d1, d2] }
  | _ => none }
def FnExactFulfillsAllWrongFalsely : Prop := fnExactFulfillsAllRow.holds Try.pinned (OpenSpec.ofChange fnExactFulfillsAllWrong)

/-- 'laws.FnExactCountBroken': WHATEVER THE INPUT: true; the input reads as it did. -/
def fnExactCountBrokenSpec : ChangeSpec := { name := "fnExactCountBroken", fn := fun _ => fun
  | [d1, d2] => { results := [.lit (.bool true)], args := [d1, d2] }
  | _ => none }
def fnExactCountBrokenRow : OpenClaim := { program := "ytiallkkleilgiaa", sum := "a653d413322bcbd3d8de729ac262de381e6e1ac49371b43f3a5a11a4233bf1c5", func := "loop.example/g03301/laws.FnExactCountBroken", spec := "fnExactCountBroken", apart := false }
def FnExactCountBrokenSaid : Prop := fnExactCountBrokenRow.holds Try.pinned (OpenSpec.ofChange fnExactCountBrokenSpec)

/-- ITS FALSE NEIGHBOUR: 'it returns false'. Refute it at one input. -/
def fnExactCountBrokenWrong : ChangeSpec := { name := "fnExactCountBroken", fn := fun _ => fun
  | [d1, d2] => { results := [.lit (.bool false)], args := [d1, d2] }
  | _ => none }
def FnExactCountBrokenWrongFalsely : Prop := fnExactCountBrokenRow.holds Try.pinned (OpenSpec.ofChange fnExactCountBrokenWrong)

/- THE SECOND FORM. 'bulk': how many values and letters a reading holds, each counted each time it is reached (what is shared counts as often as it is met; a slice's spare places count too). A statement '..UptoSaid' is the law's where the arguments, and the package variables that the reading takes, are together of bulk at most 1048576: NARROWER than '..Said'. Prove '..Said' where nothing that the law and all that it calls make is longer than what came in: it says more and counts as full. Else prove '..UptoSaid'. A law counts once. -/
mutual
def uptoBulk {H : Type} : DataW H → Nat
  | .lit (.string bytes) => bytes.length + 1
  | .lit _ => 1
  | .nil => 1
  | .ptr d => uptoBulk d + 1
  | .slice elems spare => uptoBulkAll elems + uptoBulkAll spare + 1
  | .agg parts => uptoBulkAll parts + 1
  | .iface _ d => uptoBulk d + 1
  | .map entries => uptoBulkEntries entries + 1
  | .held _ => 1
def uptoBulkAll {H : Type} : List (DataW H) → Nat
  | [] => 0
  | d :: r => uptoBulk d + uptoBulkAll r
def uptoBulkEntries {H : Type} : List (Lit × DataW H) → Nat
  | [] => 0
  | x :: r => uptoBulkEntry x + uptoBulkEntries r
def uptoBulkEntry {H : Type} : Lit × DataW H → Nat
  | (.string bytes, d) => bytes.length + uptoBulk d + 1
  | (_, d) => uptoBulk d + 1
 end
def uptoSmall : (H : Type) → List (DataW H) → Bool := fun _ ds => decide (uptoBulkAll ds ≤ 1048576)
def OpenSpec.upto (s : _root_.Go.ChangeSpec) : _root_.Go.OpenSpec := { _root_.Go.OpenSpec.ofChange s with cond := some uptoSmall }

/-- 'laws.FnExactRowOk', WHERE WHAT IT READS IS OF BULK AT MOST 1048576: true; the input reads as it did. -/
def fnExactRowOkUptoRow : OpenClaim := { program := "ytiallkkleilgiaa", sum := "a653d413322bcbd3d8de729ac262de381e6e1ac49371b43f3a5a11a4233bf1c5", func := "loop.example/g03301/laws.FnExactRowOk", spec := "fnExactRowOk", apart := false, narrowed := true }
def FnExactRowOkUptoSaid : Prop := fnExactRowOkUptoRow.holds Try.pinned (OpenSpec.upto fnExactRowOkSpec)

/-- 'laws.FnExactFulfills', WHERE WHAT IT READS IS OF BULK AT MOST 1048576: true; the input reads as it did. -/
def fnExactFulfillsUptoRow : OpenClaim := { program := "ytiallkkleilgiaa", sum := "a653d413322bcbd3d8de729ac262de381e6e1ac49371b43f3a5a11a4233bf1c5", func := "loop.example/g03301/laws.FnExactFulfills", spec := "fnExactFulfills", apart := false, narrowed := true }
def FnExactFulfillsUptoSaid : Prop := fnExactFulfillsUptoRow.holds Try.pinned (OpenSpec.upto fnExactFulfillsSpec)

/-- 'laws.FnExactRowsOf', WHERE WHAT IT READS IS OF BULK AT MOST 1048576: true; the input reads as it did. -/
def fnExactRowsOfUptoRow : OpenClaim := { program := "ytiallkkleilgiaa", sum := "a653d413322bcbd3d8de729ac262de381e6e1ac49371b43f3a5a11a4233bf1c5", func := "loop.example/g03301/laws.FnExactRowsOf", spec := "fnExactRowsOf", unfollowed := true, recurses := true, apart := false, narrowed := true }
def FnExactRowsOfUptoSaid : Prop := fnExactRowsOfUptoRow.holds Try.pinned (OpenSpec.upto fnExactRowsOfSpec)

/-- 'laws.FnExactFulfillsAll', WHERE WHAT IT READS IS OF BULK AT MOST 1048576: true; the input reads as it did. -/
def fnExactFulfillsAllUptoRow : OpenClaim := { program := "ytiallkkleilgiaa", sum := "a653d413322bcbd3d8de729ac262de381e6e1ac49371b43f3a5a11a4233bf1c5", func := "loop.example/g03301/laws.FnExactFulfillsAll", spec := "fnExactFulfillsAll", apart := false, narrowed := true }
def FnExactFulfillsAllUptoSaid : Prop := fnExactFulfillsAllUptoRow.holds Try.pinned (OpenSpec.upto fnExactFulfillsAllSpec)

/-- 'laws.FnExactCountBroken', WHERE WHAT IT READS IS OF BULK AT MOST 1048576: true; the input reads as it did. -/
def fnExactCountBrokenUptoRow : OpenClaim := { program := "ytiallkkleilgiaa", sum := "a653d413322bcbd3d8de729ac262de381e6e1ac49371b43f3a5a11a4233bf1c5", func := "loop.example/g03301/laws.FnExactCountBroken", spec := "fnExactCountBroken", apart := false, narrowed := true }
def FnExactCountBrokenUptoSaid : Prop := fnExactCountBrokenUptoRow.holds Try.pinned (OpenSpec.upto fnExactCountBrokenSpec)

end Rows
end Go.Proofs.Ytiallkkleilgiaa
