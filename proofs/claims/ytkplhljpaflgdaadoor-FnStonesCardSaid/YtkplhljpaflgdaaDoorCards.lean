/-
  DERIVED. GIVEN WITH THE SEED: THE CARDS: each row of YtkplhljpaflgdaaDoorRows.lean that lists a variable, with what it lists TIED to the program's text (the seventh form; the later family's looks); each row that meets fmt, with fmt's text TOLD by the authors' own Lean function (tested against real Go, not proved from fmt's source: count such statements apart). THE CARD IS WHAT COUNTS. Prove the row's statement (the work); the ties are given (YtkplhljpaflgdaaDoorTie.lean); close each card by the builder's one call (the guide's Derived/Test/ToyasCard.lean, 'card_holds'). Laid BY PROGRAM, IN A SANDBOX (cutbox-door.mjs). By AI agents, Wed Nov 11 2026. No macro, syntax, notation, axiom, sorry.
-/
import Derived.Test.YtkplhljpaflgdaaDoorRows
import GoSem.ClaimSeven
namespace Go.Proofs.YtkplhljpaflgdaaDoor
namespace Rows

/-- THE TIED CARD OF 'laws.FnStones'. -/
def fnStonesCard : Claim7 := { stood := { row := fnStonesRow, standIns := [], harness := (true, "c19385cfc930cf4e7b36fdc6a932b8d36e176c3946ef5c228b7e8d47ab5eb832"), looks := false }, kinds := [], alts := [], laidByText := true, laidKinds := [.data, .data, .data], laidTests := true, laidLooks := .later }
def FnStonesCardSaid : Prop := Claim7.holds Tryd.pinned (.plain (OpenSpec.ofChange fnStonesSpec)) fnStonesCard

/-- THE TIED CARD OF 'laws.FnExactStoneText'. -/
def fnExactStoneTextCard : Claim7 := { stood := { row := fnExactStoneTextRow, standIns := [], harness := (true, "c19385cfc930cf4e7b36fdc6a932b8d36e176c3946ef5c228b7e8d47ab5eb832"), looks := false }, kinds := [], alts := [], laidByText := true, laidKinds := [.data, .data, .data], laidTests := true, laidLooks := .later }
def FnExactStoneTextCardSaid : Prop := Claim7.holds Tryd.pinned (.plain (OpenSpec.ofChange fnExactStoneTextSpec)) fnExactStoneTextCard

/-- THE SECOND FORM's CARD OF 'laws.FnStones'. -/
def fnStonesUptoCard : Claim7 := { stood := { row := fnStonesUptoRow, standIns := [], harness := (true, "c19385cfc930cf4e7b36fdc6a932b8d36e176c3946ef5c228b7e8d47ab5eb832"), looks := false }, kinds := [], alts := [], laidByText := true, laidKinds := [.data, .data, .data], laidTests := true, laidLooks := .later }
def FnStonesUptoCardSaid : Prop := Claim7.holds Tryd.pinned (.plain (OpenSpec.upto fnStonesSpec)) fnStonesUptoCard

/-- THE SECOND FORM's CARD OF 'laws.FnExactStoneText'. -/
def fnExactStoneTextUptoCard : Claim7 := { stood := { row := fnExactStoneTextUptoRow, standIns := [], harness := (true, "c19385cfc930cf4e7b36fdc6a932b8d36e176c3946ef5c228b7e8d47ab5eb832"), looks := false }, kinds := [], alts := [], laidByText := true, laidKinds := [.data, .data, .data], laidTests := true, laidLooks := .later }
def FnExactStoneTextUptoCardSaid : Prop := Claim7.holds Tryd.pinned (.plain (OpenSpec.upto fnExactStoneTextSpec)) fnExactStoneTextUptoCard
end Rows
end Go.Proofs.YtkplhljpaflgdaaDoor
