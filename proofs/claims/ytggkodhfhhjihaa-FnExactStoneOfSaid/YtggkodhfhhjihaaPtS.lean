/- The contracts of the model's functions on points: SideOf, MiddleTwice, SquareOf, MirrorPoint; the comparison of points. -/
import Derived.Test.YtggkodhfhhjihaaPtP
namespace Go.Proofs.Ytggkodhfhhjihaa
open Go.ChangeShapes Go.WideShapes Go.ChangeAt Go.RowKit

/-- Equal points are told equal. -/
theorem eqPoint_same (x y : Int) (w : World) :
    Calls Try.prog 50 #[.agg #[.int .i64 x, .int .i64 y], .agg #[.int .i64 x, .int .i64 y]] w fun e w' => e = .returned (.bool true) ∧ Below w.heap.size w w' := by
  go_enter Try.func50, Try.ntmps50
  go_wp2
  go_ret
  exact ⟨rfl, by repeat (first | exact Below.refl _ _ | refine Below.alloc ?_ (by simp <;> omega) _)⟩

theorem l02Side (ax ay bx by_ cx cy : Int) (w : World) (ha : okP ax ay = true) (hb : okP bx by_ = true) (hc : okP cx cy = true) :
    Calls Try.prog 54 #[.agg #[.int .i64 ax, .int .i64 ay], .agg #[.int .i64 bx, .int .i64 by_], .agg #[.int .i64 cx, .int .i64 cy]] w fun e w' => e = .returned (.int .i64 ((bx - ax) * (cy - ay) - (by_ - ay) * (cx - ax))) ∧ Below w.heap.size w w' := by
  obtain ⟨s1, s2⟩ := side_bd ha hb hc
  obtain ⟨⟨a0, a1⟩, a2, a3⟩ := okP_iff.1 ha
  obtain ⟨⟨b0, b1⟩, b2, b3⟩ := okP_iff.1 hb
  obtain ⟨⟨c0, c1⟩, c2, c3⟩ := okP_iff.1 hc
  clear ha hb hc
  go_enter Try.func54, Try.ntmps54
  go_wp2
  go_ret
  exact ⟨rfl, by repeat (first | exact Below.refl _ _ | refine Below.alloc ?_ (by simp <;> omega) _)⟩



theorem specMirrorPoint (px py x : Int) (w : World) :
    Calls Try.prog 51 #[.agg #[.int .i64 px, .int .i64 py], .int .i64 x] w fun e w' => e = .returned (.agg #[.int .i64 (mirX px py x), .int .i64 py]) ∧ Below w.heap.size w w' := by
  cases hp : okP px py
  · have HV := Lib.hid (mirX_p (x := x) hp)
    go_enter Try.func51, Try.ntmps51
    go_wp2_with fail
    refine (specPointOk _ _ _).mono ?_
    rintro e w1 ⟨rfl, hb1⟩
    obtain ⟨hc1, hf1⟩ := bcell hb1
    have hz : w.heap.size + 1 < w1.heap.size := by have := hb1.size; simp at this; omega
    go_wp2_with fail
    rw [HV.out]
    refine bodyPost_ret (v := .agg #[.int .i64 px, .int .i64 py]) (by simp [results, Try.results51, go_sem, hc1]) rfl ⟨rfl, ?_⟩
    refine Below.setCell (Below.setCell ?_ (by simp <;> omega) _) (by simp <;> omega) _
    exact ((Below.refl _ _).alloc (by simp <;> omega) _ |>.alloc (by simp <;> omega) _).trans (hb1.mono (by simp <;> omega))
  cases hx : inP x
  · have HV := Lib.hid (mirX_x (px := px) (py := py) hx)
    go_enter Try.func51, Try.ntmps51
    go_wp2_with fail
    refine (specPointOk _ _ _).mono ?_
    rintro e w1 ⟨rfl, hb1⟩
    obtain ⟨hc1, hf1⟩ := bcell hb1
    have hz : w.heap.size + 1 < w1.heap.size := by have := hb1.size; simp at this; omega
    go_wp2_with fail
    refine (l01In60 _ _).mono ?_
    rintro e w2 ⟨rfl, rfl⟩
    go_wp2_with fail
    rw [HV.out]
    refine bodyPost_ret (v := .agg #[.int .i64 px, .int .i64 py]) (by simp [results, Try.results51, go_sem, hc1]) rfl ⟨rfl, ?_⟩
    refine Below.setCell (Below.setCell ?_ (by simp <;> omega) _) (by simp <;> omega) _
    exact ((Below.refl _ _).alloc (by simp <;> omega) _ |>.alloc (by simp <;> omega) _).trans (hb1.mono (by simp <;> omega))
  · have HV := Lib.hid (mirX_yes hp hx)
    obtain ⟨⟨hp0, hp1⟩, hp2, hp3⟩ := okP_iff.1 hp
    obtain ⟨hx0, hx1⟩ := inP_iff.1 hx
    go_enter Try.func51, Try.ntmps51
    go_wp2_with fail
    refine (specPointOk _ _ _).mono ?_
    rintro e w1 ⟨rfl, hb1⟩
    obtain ⟨hc1, hf1⟩ := bcell hb1
    have hz : w.heap.size + 1 < w1.heap.size := by have := hb1.size; simp at this; omega
    go_wp2_with fail
    refine (l01In60 _ _).mono ?_
    rintro e w2 ⟨rfl, rfl⟩
    go_wp2_with fail
    rw [HV.out]
    refine bodyPost_ret (v := .agg #[.int .i64 (2 * x - px), .int .i64 py]) (by simp [results, Try.results51, go_sem, hc1]) rfl ⟨rfl, ?_⟩
    refine Below.setCell (Below.setCell ?_ (by simp <;> omega) _) (by simp <;> omega) _
    exact ((Below.refl _ _).alloc (by simp <;> omega) _ |>.alloc (by simp <;> omega) _).trans (hb1.mono (by simp <;> omega))

end Go.Proofs.Ytggkodhfhhjihaa
