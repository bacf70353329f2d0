/- The contracts of the model's functions on points: SideOf, MiddleTwice, SquareOf, MirrorPoint; the comparison of points. -/
import Derived.Test.YtgblbilohmnlpaaPtP
namespace Go.Proofs.Ytgblbilohmnlpaa
open Go.ChangeShapes Go.WideShapes Go.ChangeAt Go.RowKit

/-- Equal points are told equal. -/
theorem eqPoint_same (x y : Int) (w : World) :
    Calls Try.prog 19 #[.agg #[.int .i64 x, .int .i64 y], .agg #[.int .i64 x, .int .i64 y]] w fun e w' => e = .returned (.bool true) ∧ Below w.heap.size w w' := by
  go_enter Try.func19, Try.ntmps19
  go_wp2
  go_ret
  exact ⟨rfl, by repeat (first | exact Below.refl _ _ | refine Below.alloc ?_ (by simp <;> omega) _)⟩

theorem l02Side (ax ay bx by_ cx cy : Int) (w : World) (ha : okP ax ay = true) (hb : okP bx by_ = true) (hc : okP cx cy = true) :
    Calls Try.prog 22 #[.agg #[.int .i64 ax, .int .i64 ay], .agg #[.int .i64 bx, .int .i64 by_], .agg #[.int .i64 cx, .int .i64 cy]] w fun e w' => e = .returned (.int .i64 ((bx - ax) * (cy - ay) - (by_ - ay) * (cx - ax))) ∧ Below w.heap.size w w' := by
  obtain ⟨s1, s2⟩ := side_bd ha hb hc
  obtain ⟨⟨a0, a1⟩, a2, a3⟩ := okP_iff.1 ha
  obtain ⟨⟨b0, b1⟩, b2, b3⟩ := okP_iff.1 hb
  obtain ⟨⟨c0, c1⟩, c2, c3⟩ := okP_iff.1 hc
  clear ha hb hc
  go_enter Try.func22, Try.ntmps22
  go_wp2
  go_ret
  exact ⟨rfl, by repeat (first | exact Below.refl _ _ | refine Below.alloc ?_ (by simp <;> omega) _)⟩

theorem specSideOf (ax ay bx by_ cx cy : Int) (w : World) :
    Calls Try.prog 11 #[.agg #[.int .i64 ax, .int .i64 ay], .agg #[.int .i64 bx, .int .i64 by_], .agg #[.int .i64 cx, .int .i64 cy]] w fun e w' => e = .returned (.int .i64 (sideV ax ay bx by_ cx cy)) ∧ Below w.heap.size w w' := by
  cases ha : okP ax ay
  · go_enter Try.func11, Try.ntmps11
    go_wp2_with (go_at_call 8; refine (specPointOk _ _ _).mono ?_; rintro e w1 ⟨rfl, hb1⟩)
    go_ret
    exact ⟨ret_i64 (sideV_a ha).symm, ((Below.refl _ _).alloc (by simp <;> omega) _ |>.alloc (by simp <;> omega) _ |>.alloc (by simp <;> omega) _).trans (hb1.mono (by simp <;> omega))⟩
  cases hb : okP bx by_
  · go_enter Try.func11, Try.ntmps11
    go_wp2_with fail
    refine (specPointOk _ _ _).mono ?_
    rintro e w1 ⟨rfl, hb1⟩
    obtain ⟨hc1, hf1⟩ := bcell hb1
    go_wp2_with fail
    refine (specPointOk _ _ _).mono ?_
    rintro e w2 ⟨rfl, hb2⟩
    go_wp2_with fail
    go_ret
    exact ⟨ret_i64 (sideV_b hb).symm, ((Below.refl _ _).alloc (by simp <;> omega) _ |>.alloc (by simp <;> omega) _ |>.alloc (by simp <;> omega) _).trans ((hb1.trans (hb2.mono hb1.size)).mono (by simp <;> omega))⟩
  go_enter Try.func11, Try.ntmps11
  go_wp2_with fail
  refine (specPointOk _ _ _).mono ?_
  rintro e w1 ⟨rfl, hb1⟩
  obtain ⟨hc1, hf1⟩ := bcell hb1
  go_wp2_with fail
  refine (specPointOk _ _ _).mono ?_
  rintro e w2 ⟨rfl, hb2⟩
  have hb12 := hb1.trans (hb2.mono hb1.size)
  clear hc1 hf1 hb1 hb2
  obtain ⟨hc1, hf1⟩ := bcell hb12
  go_wp2_with fail
  refine (specPointOk _ _ _).mono ?_
  rintro e w3 ⟨rfl, hb3⟩
  have hb13 := hb12.trans (hb3.mono hb12.size)
  clear hc1 hf1 hb12 hb3
  have hb0 := ((Below.refl w.heap.size w).alloc (by simp <;> omega) (.cells #[.int .i64 ax, .int .i64 ay] 25) |>.alloc (by simp <;> omega) (.cells #[.int .i64 bx, .int .i64 by_] 25) |>.alloc (by simp <;> omega) (.cells #[.int .i64 cx, .int .i64 cy] 25)).trans (hb13.mono (by simp <;> omega))
  obtain ⟨hc1, hf1⟩ := bcell hb13
  cases hc : okP cx cy
  · go_wp2_with fail
    go_ret
    exact ⟨ret_i64 (sideV_c hc).symm, hb0⟩
  · have HV := Lib.hid (sideV_yes ha hb hc)
    go_wp2_with fail
    refine (l02Side _ _ _ _ _ _ _ ha hb hc).mono ?_
    rintro e w4 ⟨rfl, hb4⟩
    go_wp2_with fail
    go_ret
    exact ⟨ret_i64 HV.out.symm, hb0.trans (hb4.mono hb0.size)⟩

theorem specSquareOf (ax ay bx by_ : Int) (w : World) :
    Calls Try.prog 15 #[.agg #[.int .i64 ax, .int .i64 ay], .agg #[.int .i64 bx, .int .i64 by_]] w fun e w' => e = .returned (.int .i64 (sqV ax ay bx by_)) ∧ Below w.heap.size w w' := by
  cases ha : okP ax ay
  · go_enter Try.func15, Try.ntmps15
    go_wp2_with (go_at_call 8; refine (specPointOk _ _ _).mono ?_; rintro e w1 ⟨rfl, hb1⟩)
    go_ret
    exact ⟨ret_i64 (sqV_a ha).symm, ((Below.refl _ _).alloc (by simp <;> omega) _ |>.alloc (by simp <;> omega) _).trans (hb1.mono (by simp <;> omega))⟩
  cases hb : okP bx by_
  · go_enter Try.func15, Try.ntmps15
    go_wp2_with fail
    refine (specPointOk _ _ _).mono ?_
    rintro e w1 ⟨rfl, hb1⟩
    obtain ⟨hc1, hf1⟩ := bcell hb1
    go_wp2_with fail
    refine (specPointOk _ _ _).mono ?_
    rintro e w2 ⟨rfl, hb2⟩
    go_wp2_with fail
    go_ret
    exact ⟨ret_i64 (sqV_b hb).symm, ((Below.refl _ _).alloc (by simp <;> omega) _ |>.alloc (by simp <;> omega) _).trans ((hb1.trans (hb2.mono hb1.size)).mono (by simp <;> omega))⟩
  · obtain ⟨s1, s2⟩ := sq_bds ha hb
    have HV := Lib.hid (sqV_yes ha hb)
    have ra := okP_iff.1 ha
    have rb := okP_iff.1 hb
    go_enter Try.func15, Try.ntmps15
    go_wp2_with fail
    refine (specPointOk _ _ _).mono ?_
    rintro e w1 ⟨rfl, hb1⟩
    obtain ⟨hc1, hf1⟩ := bcell hb1
    go_wp2_with fail
    refine (specPointOk _ _ _).mono ?_
    rintro e w2 ⟨rfl, hb2⟩
    have hb12 := hb1.trans (hb2.mono hb1.size)
    clear hc1 hf1 hb1 hb2
    obtain ⟨hc1, hf1⟩ := bcell hb12
    obtain ⟨⟨a0, a1⟩, a2, a3⟩ := ra
    obtain ⟨⟨b0, b1⟩, b2, b3⟩ := rb
    obtain ⟨s3, s4⟩ := s1
    obtain ⟨s5, s6⟩ := s2
    go_wp2_with fail
    go_ret
    exact ⟨ret_i64 HV.out.symm, ((Below.refl _ _).alloc (by simp <;> omega) _ |>.alloc (by simp <;> omega) _).trans (hb12.mono (by simp <;> omega))⟩

theorem specMirrorPoint (px py x : Int) (w : World) :
    Calls Try.prog 17 #[.agg #[.int .i64 px, .int .i64 py], .int .i64 x] w fun e w' => e = .returned (.agg #[.int .i64 (mirX px py x), .int .i64 py]) ∧ Below w.heap.size w w' := by
  cases hp : okP px py
  · have HV := Lib.hid (mirX_p (x := x) hp)
    go_enter Try.func17, Try.ntmps17
    go_wp2_with fail
    refine (specPointOk _ _ _).mono ?_
    rintro e w1 ⟨rfl, hb1⟩
    obtain ⟨hc1, hf1⟩ := bcell hb1
    have hz : w.heap.size + 1 < w1.heap.size := by have := hb1.size; simp at this; omega
    go_wp2_with fail
    rw [HV.out]
    refine bodyPost_ret (v := .agg #[.int .i64 px, .int .i64 py]) (by simp [results, Try.results17, go_sem, hc1]) rfl ⟨rfl, ?_⟩
    refine Below.setCell (Below.setCell ?_ (by simp <;> omega) _) (by simp <;> omega) _
    exact ((Below.refl _ _).alloc (by simp <;> omega) _ |>.alloc (by simp <;> omega) _).trans (hb1.mono (by simp <;> omega))
  cases hx : inP x
  · have HV := Lib.hid (mirX_x (px := px) (py := py) hx)
    go_enter Try.func17, Try.ntmps17
    go_wp2_with fail
    refine (specPointOk _ _ _).mono ?_
    rintro e w1 ⟨rfl, hb1⟩
    obtain ⟨hc1, hf1⟩ := bcell hb1
    have hz : w.heap.size + 1 < w1.heap.size := by have := hb1.size; simp at this; omega
    go_wp2_with fail
    refine (l01In60 _ _).mono ?_
    rintro e w2 ⟨rfl, rfl⟩
    go_wp2_with fail
    rw [HV.out]
    refine bodyPost_ret (v := .agg #[.int .i64 px, .int .i64 py]) (by simp [results, Try.results17, go_sem, hc1]) rfl ⟨rfl, ?_⟩
    refine Below.setCell (Below.setCell ?_ (by simp <;> omega) _) (by simp <;> omega) _
    exact ((Below.refl _ _).alloc (by simp <;> omega) _ |>.alloc (by simp <;> omega) _).trans (hb1.mono (by simp <;> omega))
  · have HV := Lib.hid (mirX_yes hp hx)
    obtain ⟨⟨hp0, hp1⟩, hp2, hp3⟩ := okP_iff.1 hp
    obtain ⟨hx0, hx1⟩ := inP_iff.1 hx
    go_enter Try.func17, Try.ntmps17
    go_wp2_with fail
    refine (specPointOk _ _ _).mono ?_
    rintro e w1 ⟨rfl, hb1⟩
    obtain ⟨hc1, hf1⟩ := bcell hb1
    have hz : w.heap.size + 1 < w1.heap.size := by have := hb1.size; simp at this; omega
    go_wp2_with fail
    refine (l01In60 _ _).mono ?_
    rintro e w2 ⟨rfl, rfl⟩
    go_wp2_with fail
    rw [HV.out]
    refine bodyPost_ret (v := .agg #[.int .i64 (2 * x - px), .int .i64 py]) (by simp [results, Try.results17, go_sem, hc1]) rfl ⟨rfl, ?_⟩
    refine Below.setCell (Below.setCell ?_ (by simp <;> omega) _) (by simp <;> omega) _
    exact ((Below.refl _ _).alloc (by simp <;> omega) _ |>.alloc (by simp <;> omega) _).trans (hb1.mono (by simp <;> omega))

theorem ret_twoS {a b c d : Int} (h1 : a = c) (h2 : b = d) : Ending.returned (.tuple #[.int .i64 a, .int .i64 b]) = .returned (.tuple #[.int .i64 c, .int .i64 d]) := by rw [h1, h2]

theorem specMiddleTwice (ax ay bx by_ : Int) (w : World) :
    Calls Try.prog 13 #[.agg #[.int .i64 ax, .int .i64 ay], .agg #[.int .i64 bx, .int .i64 by_]] w fun e w' => e = .returned (.tuple #[.int .i64 (midX ax ay bx by_), .int .i64 (midY ax ay bx by_)]) ∧ Below w.heap.size w w' := by
  cases ha : okP ax ay
  · go_enter Try.func13, Try.ntmps13
    go_wp2_with (go_at_call 8; refine (specPointOk _ _ _).mono ?_; rintro e w1 ⟨rfl, hb1⟩)
    go_ret2
    exact ⟨ret_twoS (mid_a ha).1.symm (mid_a ha).2.symm, ((Below.refl _ _).alloc (by simp <;> omega) _ |>.alloc (by simp <;> omega) _).trans (hb1.mono (by simp <;> omega))⟩
  cases hb : okP bx by_
  · go_enter Try.func13, Try.ntmps13
    go_wp2_with fail
    refine (specPointOk _ _ _).mono ?_
    rintro e w1 ⟨rfl, hb1⟩
    obtain ⟨hc1, hf1⟩ := bcell hb1
    go_wp2_with fail
    refine (specPointOk _ _ _).mono ?_
    rintro e w2 ⟨rfl, hb2⟩
    go_wp2_with fail
    go_ret2
    exact ⟨ret_twoS (mid_b hb).1.symm (mid_b hb).2.symm, ((Below.refl _ _).alloc (by simp <;> omega) _ |>.alloc (by simp <;> omega) _).trans ((hb1.trans (hb2.mono hb1.size)).mono (by simp <;> omega))⟩
  · have HV := Lib.hid (mid_yes ha hb)
    obtain ⟨⟨a0, a1⟩, a2, a3⟩ := okP_iff.1 ha
    obtain ⟨⟨b0, b1⟩, b2, b3⟩ := okP_iff.1 hb
    go_enter Try.func13, Try.ntmps13
    go_wp2_with fail
    refine (specPointOk _ _ _).mono ?_
    rintro e w1 ⟨rfl, hb1⟩
    obtain ⟨hc1, hf1⟩ := bcell hb1
    go_wp2_with fail
    refine (specPointOk _ _ _).mono ?_
    rintro e w2 ⟨rfl, hb2⟩
    have hb12 := hb1.trans (hb2.mono hb1.size)
    clear hc1 hf1 hb1 hb2
    obtain ⟨hc1, hf1⟩ := bcell hb12
    go_wp2_with fail
    go_quiet (fail)
    go_wp2_with fail
    go_ret2
    refine ⟨ret_twoS HV.out.1.symm HV.out.2.symm, ?_⟩
    exact below_drewN (((Below.refl _ _).alloc (by simp <;> omega) _ |>.alloc (by simp <;> omega) _).trans (hb12.mono (by simp <;> omega))) _
end Go.Proofs.Ytgblbilohmnlpaa
