/-
  DERIVED. GIVEN WITH THE SEED: THE CARDS: each row of YtghnkcfilpjhgaaDoorRows.lean that lists a variable, with what it lists TIED to the program's text (the seventh form; the later family's looks); each row that meets fmt, with fmt's text TOLD by the authors' own Lean function (tested against real Go, not proved from fmt's source: count such statements apart). THE CARD IS WHAT COUNTS. Prove the row's statement (the work); the ties are given (YtghnkcfilpjhgaaDoorTie.lean); close each card by the builder's one call (the guide's Derived/Test/ToyasCard.lean, 'card_holds'). Laid BY PROGRAM, IN A SANDBOX (cutbox-door.mjs). By AI agents, Wed Nov 11 2026. No macro, syntax, notation, axiom, sorry.
-/
import Derived.Test.YtghnkcfilpjhgaaDoorRows
import GoSem.ClaimSeven
namespace Go.Proofs.YtghnkcfilpjhgaaDoor
namespace Rows

/-- THE TIED CARD OF 'laws.FnThrusts'. -/
def fnThrustsCard : Claim7 := { stood := { row := fnThrustsRow, standIns := [], harness := (true, "f24873e0f17af76ec59ae298ee4a2091088b1d3413ffd3916fec26c4e4162992"), looks := false }, kinds := [], alts := [], laidByText := true, laidKinds := [.data, .data, .data], laidTests := true, laidLooks := .later }
def FnThrustsCardSaid : Prop := Claim7.holds Tryd.pinned (.plain (OpenSpec.ofChange fnThrustsSpec)) fnThrustsCard

/-- THE TIED CARD OF 'laws.FnExactThrustText'. -/
def fnExactThrustTextCard : Claim7 := { stood := { row := fnExactThrustTextRow, standIns := [], harness := (true, "f24873e0f17af76ec59ae298ee4a2091088b1d3413ffd3916fec26c4e4162992"), looks := false }, kinds := [], alts := [], laidByText := true, laidKinds := [.data, .data, .data], laidTests := true, laidLooks := .later }
def FnExactThrustTextCardSaid : Prop := Claim7.holds Tryd.pinned (.plain (OpenSpec.ofChange fnExactThrustTextSpec)) fnExactThrustTextCard

/-- THE SECOND FORM's CARD OF 'laws.FnThrusts'. -/
def fnThrustsUptoCard : Claim7 := { stood := { row := fnThrustsUptoRow, standIns := [], harness := (true, "f24873e0f17af76ec59ae298ee4a2091088b1d3413ffd3916fec26c4e4162992"), looks := false }, kinds := [], alts := [], laidByText := true, laidKinds := [.data, .data, .data], laidTests := true, laidLooks := .later }
def FnThrustsUptoCardSaid : Prop := Claim7.holds Tryd.pinned (.plain (OpenSpec.upto fnThrustsSpec)) fnThrustsUptoCard

/-- THE SECOND FORM's CARD OF 'laws.FnExactThrustText'. -/
def fnExactThrustTextUptoCard : Claim7 := { stood := { row := fnExactThrustTextUptoRow, standIns := [], harness := (true, "f24873e0f17af76ec59ae298ee4a2091088b1d3413ffd3916fec26c4e4162992"), looks := false }, kinds := [], alts := [], laidByText := true, laidKinds := [.data, .data, .data], laidTests := true, laidLooks := .later }
def FnExactThrustTextUptoCardSaid : Prop := Claim7.holds Tryd.pinned (.plain (OpenSpec.upto fnExactThrustTextSpec)) fnExactThrustTextUptoCard
end Rows
end Go.Proofs.YtghnkcfilpjhgaaDoor
