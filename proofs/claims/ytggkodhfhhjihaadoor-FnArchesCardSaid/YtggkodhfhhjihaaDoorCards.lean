/-
  DERIVED. GIVEN WITH THE SEED: THE CARDS: each row of YtggkodhfhhjihaaDoorRows.lean that lists a variable, with what it lists TIED to the program's text (the seventh form; the later family's looks); each row that meets fmt, with fmt's text TOLD by the authors' own Lean function (tested against real Go, not proved from fmt's source: count such statements apart). THE CARD IS WHAT COUNTS. Prove the row's statement (the work); the ties are given (YtggkodhfhhjihaaDoorTie.lean); close each card by the builder's one call (the guide's Derived/Test/ToyasCard.lean, 'card_holds'). Laid BY PROGRAM, IN A SANDBOX (cutbox-door.mjs). By AI agents, Wed Nov 11 2026. No macro, syntax, notation, axiom, sorry.
-/
import Derived.Test.YtggkodhfhhjihaaDoorRows
import GoSem.ClaimSeven
namespace Go.Proofs.YtggkodhfhhjihaaDoor
namespace Rows

/-- THE TIED CARD OF 'laws.FnArches'. -/
def fnArchesCard : Claim7 := { stood := { row := fnArchesRow, standIns := [], harness := (true, "64df1cb1ea6108cc02b526d122d65966c037f555878a32d4f6b761c2a6583bff"), looks := false }, kinds := [], alts := [], laidByText := true, laidKinds := [.data, .data, .data], laidTests := true, laidLooks := .later }
def FnArchesCardSaid : Prop := Claim7.holds Tryd.pinned (.plain (OpenSpec.ofChange fnArchesSpec)) fnArchesCard

/-- THE TIED CARD OF 'laws.FnExactArchText'. -/
def fnExactArchTextCard : Claim7 := { stood := { row := fnExactArchTextRow, standIns := [], harness := (true, "64df1cb1ea6108cc02b526d122d65966c037f555878a32d4f6b761c2a6583bff"), looks := false }, kinds := [], alts := [], laidByText := true, laidKinds := [.data, .data, .data], laidTests := true, laidLooks := .later }
def FnExactArchTextCardSaid : Prop := Claim7.holds Tryd.pinned (.plain (OpenSpec.ofChange fnExactArchTextSpec)) fnExactArchTextCard

/-- THE SECOND FORM's CARD OF 'laws.FnArches'. -/
def fnArchesUptoCard : Claim7 := { stood := { row := fnArchesUptoRow, standIns := [], harness := (true, "64df1cb1ea6108cc02b526d122d65966c037f555878a32d4f6b761c2a6583bff"), looks := false }, kinds := [], alts := [], laidByText := true, laidKinds := [.data, .data, .data], laidTests := true, laidLooks := .later }
def FnArchesUptoCardSaid : Prop := Claim7.holds Tryd.pinned (.plain (OpenSpec.upto fnArchesSpec)) fnArchesUptoCard

/-- THE SECOND FORM's CARD OF 'laws.FnExactArchText'. -/
def fnExactArchTextUptoCard : Claim7 := { stood := { row := fnExactArchTextUptoRow, standIns := [], harness := (true, "64df1cb1ea6108cc02b526d122d65966c037f555878a32d4f6b761c2a6583bff"), looks := false }, kinds := [], alts := [], laidByText := true, laidKinds := [.data, .data, .data], laidTests := true, laidLooks := .later }
def FnExactArchTextUptoCardSaid : Prop := Claim7.holds Tryd.pinned (.plain (OpenSpec.upto fnExactArchTextSpec)) fnExactArchTextUptoCard
end Rows
end Go.Proofs.YtggkodhfhhjihaaDoor
