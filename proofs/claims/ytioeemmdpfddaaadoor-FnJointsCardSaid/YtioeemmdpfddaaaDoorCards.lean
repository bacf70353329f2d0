/-
  DERIVED. GIVEN WITH THE SEED: THE CARDS: each row of YtioeemmdpfddaaaDoorRows.lean that lists a variable, with what it lists TIED to the program's text (the seventh form; the later family's looks); each row that meets fmt, with fmt's text TOLD by the authors' own Lean function (tested against real Go, not proved from fmt's source: count such statements apart). THE CARD IS WHAT COUNTS. Prove the row's statement (the work); the ties are given (YtioeemmdpfddaaaDoorTie.lean); close each card by the builder's one call (the guide's Derived/Test/ToyasCard.lean, 'card_holds'). Laid BY PROGRAM, IN A SANDBOX (cutbox-door.mjs). By AI agents, Wed Nov 11 2026. No macro, syntax, notation, axiom, sorry.
-/
import Derived.Test.YtioeemmdpfddaaaDoorRows
import GoSem.ClaimSeven
namespace Go.Proofs.YtioeemmdpfddaaaDoor
namespace Rows

/-- THE TIED CARD OF 'laws.FnJoints'. -/
def fnJointsCard : Claim7 := { stood := { row := fnJointsRow, standIns := [], harness := (true, "253773167f561af482ae0022ebcab6cc2c934458e2e7ca756f5bdd39a78e8c6b"), looks := false }, kinds := [], alts := [], laidByText := true, laidKinds := [.data, .data, .data], laidTests := true, laidLooks := .later }
def FnJointsCardSaid : Prop := Claim7.holds Tryd.pinned (.plain (OpenSpec.ofChange fnJointsSpec)) fnJointsCard

/-- THE TIED CARD OF 'laws.FnExactJointText'. -/
def fnExactJointTextCard : Claim7 := { stood := { row := fnExactJointTextRow, standIns := [], harness := (true, "253773167f561af482ae0022ebcab6cc2c934458e2e7ca756f5bdd39a78e8c6b"), looks := false }, kinds := [], alts := [], laidByText := true, laidKinds := [.data, .data, .data], laidTests := true, laidLooks := .later }
def FnExactJointTextCardSaid : Prop := Claim7.holds Tryd.pinned (.plain (OpenSpec.ofChange fnExactJointTextSpec)) fnExactJointTextCard

/-- THE SECOND FORM's CARD OF 'laws.FnJoints'. -/
def fnJointsUptoCard : Claim7 := { stood := { row := fnJointsUptoRow, standIns := [], harness := (true, "253773167f561af482ae0022ebcab6cc2c934458e2e7ca756f5bdd39a78e8c6b"), looks := false }, kinds := [], alts := [], laidByText := true, laidKinds := [.data, .data, .data], laidTests := true, laidLooks := .later }
def FnJointsUptoCardSaid : Prop := Claim7.holds Tryd.pinned (.plain (OpenSpec.upto fnJointsSpec)) fnJointsUptoCard

/-- THE SECOND FORM's CARD OF 'laws.FnExactJointText'. -/
def fnExactJointTextUptoCard : Claim7 := { stood := { row := fnExactJointTextUptoRow, standIns := [], harness := (true, "253773167f561af482ae0022ebcab6cc2c934458e2e7ca756f5bdd39a78e8c6b"), looks := false }, kinds := [], alts := [], laidByText := true, laidKinds := [.data, .data, .data], laidTests := true, laidLooks := .later }
def FnExactJointTextUptoCardSaid : Prop := Claim7.holds Tryd.pinned (.plain (OpenSpec.upto fnExactJointTextSpec)) fnExactJointTextUptoCard
end Rows
end Go.Proofs.YtioeemmdpfddaaaDoor
