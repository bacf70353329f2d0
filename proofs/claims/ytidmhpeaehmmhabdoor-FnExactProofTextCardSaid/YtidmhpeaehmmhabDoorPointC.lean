/- Points: the struct as it comes in, and the contracts of the functions that tell a valid one. -/
import Derived.Test.YtidmhpeaehmmhabDoorBaseC
import Derived.Lib.SmallJoins
namespace Go.Proofs.YtidmhpeaehmmhabDoor
set_option maxRecDepth 100000
open Go.ChangeShapes Go.WideShapes Go.ChangeAt Go.RowKit Go.Joins

/-- A coordinate in its range. -/
def inP (n : Int) : Bool := decide (-60 ≤ n ∧ n ≤ 60)
/-- A valid point. -/
def okP (x y : Int) : Bool := inP x && inP y
theorem inP_iff {n : Int} : inP n = true ↔ -60 ≤ n ∧ n ≤ 60 := by unfold inP; simp
theorem inP_no {n : Int} : inP n = false ↔ ¬ (-60 ≤ n ∧ n ≤ 60) := by unfold inP; simp
theorem okP_iff {x y : Int} : okP x y = true ↔ (-60 ≤ x ∧ x ≤ 60) ∧ -60 ≤ y ∧ y ≤ 60 := by unfold okP; rw [Bool.and_eq_true, inP_iff, inP_iff]

end Go.Proofs.YtidmhpeaehmmhabDoor
