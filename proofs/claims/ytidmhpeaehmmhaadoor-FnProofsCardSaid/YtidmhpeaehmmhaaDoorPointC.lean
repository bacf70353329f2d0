/- Points: the struct as it comes in, and the contracts of the functions that tell a valid one. -/
import Derived.Test.YtidmhpeaehmmhaaDoorBaseC
import Derived.Lib.SmallJoins
namespace Go.Proofs.YtidmhpeaehmmhaaDoor
set_option maxRecDepth 100000
open Go.ChangeShapes Go.WideShapes Go.ChangeAt Go.RowKit Go.Joins

/-- A coordinate in its range. -/
def inP (n : Int) : Bool := decide (-60 ≤ n ∧ n ≤ 60)
/-- A valid point. -/
def okP (x y : Int) : Bool := inP x && inP y
theorem inP_iff {n : Int} : inP n = true ↔ -60 ≤ n ∧ n ≤ 60 := by unfold inP; simp
theorem inP_no {n : Int} : inP n = false ↔ ¬ (-60 ≤ n ∧ n ≤ 60) := by unfold inP; simp
theorem okP_iff {x y : Int} : okP x y = true ↔ (-60 ≤ x ∧ x ≤ 60) ∧ -60 ≤ y ∧ y ≤ 60 := by unfold okP; rw [Bool.and_eq_true, inP_iff, inP_iff]


theorem l01In60 (n : Int) (w : World) :
    Calls Tryd.prog 34 #[.int .i64 n, .int .i64 (-60), .int .i64 60] w fun e w' => e = .returned (.bool (inP n)) ∧ w = w' := by
  by_cases h : n < -60
  · go_enter Tryd.func34, Tryd.ntmps34
    go_wp2
    go_ret
    exact ⟨ret_bool (by unfold inP; simp; omega), rfl⟩
  · go_enter Tryd.func34, Tryd.ntmps34
    go_wp2
    go_ret
    exact ⟨ret_bool (by unfold inP; simp; omega), rfl⟩

end Go.Proofs.YtidmhpeaehmmhaaDoor
