/- Points, plainly, more: mirrors, turned triangles, squares that are 0. -/
import Derived.Test.YtikdjcmdeapikaaPtP
namespace Go.Proofs.Ytikdjcmdeapikaa

theorem side_mirror (ax ay bx by_ cx cy x : Int) : (2 * x - bx - (2 * x - ax)) * (cy - ay) - (by_ - ay) * (2 * x - cx - (2 * x - ax)) = -((bx - ax) * (cy - ay) - (by_ - ay) * (cx - ax)) := by grind
theorem side_turn (ax ay bx by_ cx cy : Int) : (cx - bx) * (ay - by_) - (cy - by_) * (ax - bx) = (bx - ax) * (cy - ay) - (by_ - ay) * (cx - ax) := by grind
theorem side_swap (ax ay bx by_ cx cy : Int) : (ax - bx) * (cy - by_) - (ay - by_) * (cx - bx) = -((bx - ax) * (cy - ay) - (by_ - ay) * (cx - ax)) := by grind
theorem side_same (ax ay bx by_ : Int) : (bx - ax) * (by_ - ay) - (by_ - ay) * (bx - ax) = 0 := by grind
theorem sq_mirror (ax ay bx by_ x : Int) : (2 * x - bx - (2 * x - ax)) * (2 * x - bx - (2 * x - ax)) + (by_ - ay) * (by_ - ay) = (bx - ax) * (bx - ax) + (by_ - ay) * (by_ - ay) := by grind
theorem sq_swap (ax ay bx by_ : Int) : (ax - bx) * (ax - bx) + (ay - by_) * (ay - by_) = (bx - ax) * (bx - ax) + (by_ - ay) * (by_ - ay) := by grind
theorem sq_pos {z : Int} (h : z ≠ 0) : 0 < z * z := by
  rcases Int.lt_or_lt_of_ne h with h | h
  · exact Int.mul_pos_of_neg_of_neg h h
  · exact Int.mul_pos h h
theorem sq_nonneg (z : Int) : 0 ≤ z * z := by
  by_cases h0 : z = 0
  · subst h0; omega
  · exact Int.le_of_lt (sq_pos h0)
theorem sq_zero {z u : Int} (h : z * z + u * u = 0) : z = 0 ∧ u = 0 := by
  have h1 := sq_nonneg z
  have h2 := sq_nonneg u
  refine ⟨Classical.byContradiction fun hz => ?_, Classical.byContradiction fun hu => ?_⟩
  · have := sq_pos hz
    omega
  · have := sq_pos hu
    omega
end Go.Proofs.Ytikdjcmdeapikaa
