/- The contracts of WidestOf, the program's and the model's. -/
import Derived.Test.YtikdjcmdeapikaaStoneI
import Derived.Test.YtikdjcmdeapikaaStoneS
namespace Go.Proofs.Ytikdjcmdeapikaa
open Go.ChangeShapes Go.WideShapes Go.ChangeAt Go.RowKit

/-- SquareOf two points. -/
def sqp (a b : Int × Int) : Int := sqV a.1 a.2 b.1 b.2
theorem sqp_comm (a b : Int × Int) : sqp a b = sqp b a := by
  unfold sqp sqV
  rw [Bool.and_comm]
  split
  · grind
  · rfl
theorem sqp_bd (a b : Int × Int) : -1 ≤ sqp a b ∧ sqp a b ≤ 28800 := sqV_bd _ _ _ _
theorem imax (a b : Int) : (if a < b then b else a) = max a b := by rw [Int.max_def]; split <;> split <;> omega
/-- The greatest of m and the squares of corner k and the first i ones. -/
def widIn (cs : List (Int × Int)) (k : Nat) : Nat → Int → Int
  | 0, m => m
  | i + 1, m => max (widIn cs k i m) (sqp (pt cs i) (pt cs k))
/-- The greatest square of two of the first k corners. -/
def widTo (cs : List (Int × Int)) : Nat → Int
  | 0 => 0
  | k + 1 => widIn cs k k (widTo cs k)
/-- What WidestOf answers. -/
def widV (cs : List (Int × Int)) : Int := if stoneV cs then widTo cs cs.length else -1

end Go.Proofs.Ytikdjcmdeapikaa
