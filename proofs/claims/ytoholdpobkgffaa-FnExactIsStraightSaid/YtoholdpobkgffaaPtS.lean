/- The contracts of the model's functions on points: SideOf, MiddleTwice, SquareOf, MirrorPoint; the comparison of points. -/
import Derived.Test.YtoholdpobkgffaaPtP
namespace Go.Proofs.Ytoholdpobkgffaa
set_option maxRecDepth 100000
open Go.ChangeShapes Go.WideShapes Go.ChangeAt Go.RowKit

/-- Equal points are told equal. -/
theorem eqPoint_same (x y : Int) (w : World) :
    Calls Try.prog 30 #[.agg #[.int .i64 x, .int .i64 y], .agg #[.int .i64 x, .int .i64 y]] w fun e w' => e = .returned (.bool true) ∧ Below w.heap.size w w' := by
  go_enter Try.func30, Try.ntmps30
  go_wp2
  go_ret
  exact ⟨rfl, by repeat (first | exact Below.refl _ _ | refine Below.alloc ?_ (by simp <;> omega) _)⟩

theorem l02Side (ax ay bx by_ cx cy : Int) (w : World) (ha : okP ax ay = true) (hb : okP bx by_ = true) (hc : okP cx cy = true) :
    Calls Try.prog 11 #[.agg #[.int .i64 ax, .int .i64 ay], .agg #[.int .i64 bx, .int .i64 by_], .agg #[.int .i64 cx, .int .i64 cy]] w fun e w' => e = .returned (.int .i64 ((bx - ax) * (cy - ay) - (by_ - ay) * (cx - ax))) ∧ Below w.heap.size w w' := by
  obtain ⟨s1, s2⟩ := side_bd ha hb hc
  obtain ⟨⟨a0, a1⟩, a2, a3⟩ := okP_iff.1 ha
  obtain ⟨⟨b0, b1⟩, b2, b3⟩ := okP_iff.1 hb
  obtain ⟨⟨c0, c1⟩, c2, c3⟩ := okP_iff.1 hc
  clear ha hb hc
  go_enter Try.func11, Try.ntmps11
  go_wp2
  go_ret
  exact ⟨rfl, by repeat (first | exact Below.refl _ _ | refine Below.alloc ?_ (by simp <;> omega) _)⟩

end Go.Proofs.Ytoholdpobkgffaa
