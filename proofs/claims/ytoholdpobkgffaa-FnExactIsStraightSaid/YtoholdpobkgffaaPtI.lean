/- The contracts of the program's functions on points: SideOf, MiddleTwice, SquareOf, MirrorPoint. -/
import Derived.Test.YtoholdpobkgffaaPtP
namespace Go.Proofs.Ytoholdpobkgffaa
set_option maxRecDepth 100000
open Go.ChangeShapes Go.WideShapes Go.ChangeAt Go.RowKit

theorem minus (x y u v : Int) (w : World) (hx : -60 ≤ x ∧ x ≤ 60) (hy : -60 ≤ y ∧ y ≤ 60) (hu : -60 ≤ u ∧ u ≤ 60) (hv : -60 ≤ v ∧ v ≤ 60) :
    Calls Try.prog 28 #[.agg #[.int .i64 x, .int .i64 y], .agg #[.int .i64 u, .int .i64 v]] w fun e w' => e = .returned (.agg #[.int .i64 (x - u), .int .i64 (y - v)]) ∧ Below w.heap.size w w' := by
  obtain ⟨hx0, hx1⟩ := hx
  obtain ⟨hy0, hy1⟩ := hy
  obtain ⟨hu0, hu1⟩ := hu
  obtain ⟨hv0, hv1⟩ := hv
  go_enter Try.func28, Try.ntmps28
  go_wp2
  refine bodyPost_ret (v := .agg #[.int .i64 (x - u), .int .i64 (y - v)]) (by simp [results, Try.results28, go_sem]) rfl ⟨rfl, ?_⟩
  repeat (first | exact Below.refl _ _ | refine Below.alloc ?_ (by simp <;> omega) _ | refine Below.setCell ?_ (by simp <;> omega) _)


theorem cross (x y u v : Int) (w : World) (h1 : -1000000 ≤ x * v ∧ x * v ≤ 1000000) (h2 : -1000000 ≤ y * u ∧ y * u ≤ 1000000) :
    Calls Try.prog 29 #[.agg #[.int .i64 x, .int .i64 y], .agg #[.int .i64 u, .int .i64 v]] w fun e w' => e = .returned (.int .i64 (x * v - y * u)) ∧ Below w.heap.size w w' := by
  obtain ⟨h10, h11⟩ := h1
  obtain ⟨h20, h21⟩ := h2
  go_enter Try.func29, Try.ntmps29
  go_wp2
  go_ret
  exact ⟨rfl, by repeat (first | exact Below.refl _ _ | refine Below.alloc ?_ (by simp <;> omega) _ | refine Below.setCell ?_ (by simp <;> omega) _)⟩

theorem implSideOf (ax ay bx by_ cx cy : Int) (w : World) :
    Calls Try.prog 22 #[.agg #[.int .i64 ax, .int .i64 ay], .agg #[.int .i64 bx, .int .i64 by_], .agg #[.int .i64 cx, .int .i64 cy]] w fun e w' => e = .returned (.int .i64 (sideV ax ay bx by_ cx cy)) ∧ Below w.heap.size w w' := by
  cases ha : okP ax ay
  · go_enter Try.func22, Try.ntmps22
    go_wp2_with (go_at_call 27; refine (isValid _ _ _).mono ?_; rintro e w1 ⟨rfl, hb1⟩)
    go_ret
    exact ⟨ret_i64 (sideV_a ha).symm, ((Below.refl _ _).alloc (by simp <;> omega) _ |>.alloc (by simp <;> omega) _ |>.alloc (by simp <;> omega) _).trans (hb1.mono (by simp <;> omega))⟩
  cases hb : okP bx by_
  · go_enter Try.func22, Try.ntmps22
    go_wp2_with fail
    refine (isValid _ _ _).mono ?_
    rintro e w1 ⟨rfl, hb1⟩
    obtain ⟨hc1, hf1⟩ := bcell hb1
    go_wp2_with fail
    refine (isValid _ _ _).mono ?_
    rintro e w2 ⟨rfl, hb2⟩
    go_wp2_with fail
    go_ret
    exact ⟨ret_i64 (sideV_b hb).symm, ((Below.refl _ _).alloc (by simp <;> omega) _ |>.alloc (by simp <;> omega) _ |>.alloc (by simp <;> omega) _).trans ((hb1.trans (hb2.mono hb1.size)).mono (by simp <;> omega))⟩
  go_enter Try.func22, Try.ntmps22
  go_wp2_with fail
  refine (isValid _ _ _).mono ?_
  rintro e w1 ⟨rfl, hb1⟩
  obtain ⟨hc1, hf1⟩ := bcell hb1
  go_wp2_with fail
  refine (isValid _ _ _).mono ?_
  rintro e w2 ⟨rfl, hb2⟩
  have hb12 := hb1.trans (hb2.mono hb1.size)
  clear hc1 hf1 hb1 hb2
  obtain ⟨hc1, hf1⟩ := bcell hb12
  go_wp2_with fail
  refine (isValid _ _ _).mono ?_
  rintro e w3 ⟨rfl, hb3⟩
  have hb13 := hb12.trans (hb3.mono hb12.size)
  clear hc1 hf1 hb12 hb3
  have hb0 := ((Below.refl w.heap.size w).alloc (by simp <;> omega) (.cells #[.int .i64 ax, .int .i64 ay] 36) |>.alloc (by simp <;> omega) (.cells #[.int .i64 bx, .int .i64 by_] 36) |>.alloc (by simp <;> omega) (.cells #[.int .i64 cx, .int .i64 cy] 36)).trans (hb13.mono (by simp <;> omega))
  obtain ⟨hc1, hf1⟩ := bcell hb13
  have HC := Lib.hid hc1
  cases hc : okP cx cy
  · go_wp2_with fail
    go_ret
    exact ⟨ret_i64 (sideV_c hc).symm, hb0⟩
  · go_wp2_with fail
    have ra := okP_iff.1 ha
    have rb := okP_iff.1 hb
    have rc := okP_iff.1 hc
    obtain ⟨s1, s2⟩ := side_bd ha hb hc
    have HV := Lib.hid (sideV_yes ha hb hc)
    have hS := fun (x : Since w3) => (bcell (hb13.trans (x.2.mono hb13.size))).1
    clear hc1 hf1 hb13
    have hne := Since.nonempty w3
    refine wp_region_since (by kernel_rfl) (by kernel_rfl) ?_
    repeat (go_big_quiet_step (first
      | (go_at_call 28; exact Since.call (minus _ _ _ _ _ (by omega) (by omega) (by omega) (by omega)))
      | (go_at_call 29; exact Since.call (cross _ _ _ _ _ (by omega) (by omega)))))
    refine wpQuiet_nil ?_
    rintro w4 ⟨⟨_, hb4⟩, rfl⟩
    go_wp2_with fail
    go_ret
    exact ⟨ret_i64 HV.out.symm, hb0.trans (hb4.mono hb0.size)⟩
end Go.Proofs.Ytoholdpobkgffaa
