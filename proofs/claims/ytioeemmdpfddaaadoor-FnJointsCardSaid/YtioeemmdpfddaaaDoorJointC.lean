/- Joints: the struct as it comes in, and the contracts of the functions on one joint: JointOk, IsOnJoint, IsFlat, MirrorJoint, of the program and of the model. -/
import Derived.Test.YtioeemmdpfddaaaDoorJointP
import Derived.Test.YtioeemmdpfddaaaDoorPtI
import Derived.Test.YtioeemmdpfddaaaDoorPtS
import Derived.StillTailTactics
namespace Go.Proofs.YtioeemmdpfddaaaDoor
open Go.ChangeShapes Go.WideShapes Go.ChangeAt Go.RowKit Go.Joins Go.Deep

theorem cellsJoint : Tryd.prog.cellsOf 47 = 4 := by kernel_rfl

/-- Two cells that read as a point are two ints. -/
theorem point_cells {H : Type} {enc : TypeId × Value → H} {w : World} {base fuel : Nat} {spare : Nat → Bool} {held : Bool} {c0 c1 : Value} {d : DataW H × List MemPlace}
    (hf : DataW.trod enc Tryd.prog w base spare held fuel 45 [c0, c1] = some d) : ∃ x y : Int, c0 = .int .i64 x ∧ c1 = .int .i64 y ∧ I64 x ∧ I64 y := by
  obtain ⟨y0, y1, n, hx, -, h0, h1⟩ := trod_struct2 Tryd.underlying45 hf
  have ci : Tryd.prog.cellsOf 3 = 1 := by kernel_rfl
  simp only [ci, List.drop_zero, List.take_succ_cons, List.take_zero, List.drop_succ_cons] at h0 h1
  obtain ⟨a, e0, -, wa⟩ := DataW.trod_int Tryd.underlying3 h0
  obtain ⟨b, e1, -, wb⟩ := DataW.trod_int Tryd.underlying3 h1
  simp at e0 e1
  exact ⟨a, b, e0, e1, I64.of_wf wa, I64.of_wf wb⟩
/-- A joint that came in: four ints. -/
theorem open_joint {H : Type} {enc : TypeId × Value → H} {w : World} {r : Reach} {b0 base : Nat} {spare : Nat → Bool} {held : Bool} {v : Value} {d : DataW H} {p : List MemPlace}
    (hv : Value.okWide Tryd.prog w r b0 47 v) (h : DataW.Trod enc Tryd.prog w base spare held 47 v d p) :
    ∃ x y z u : Int, v = .agg #[.int .i64 x, .int .i64 y, .int .i64 z, .int .i64 u] ∧ I64 x ∧ I64 y ∧ I64 z ∧ I64 u := by
  obtain ⟨cs, rfl, hsz⟩ := okWide_struct Tryd.underlying47 hv
  obtain ⟨c0, c1, c2, c3, rfl⟩ := array4 (hsz.trans cellsJoint)
  obtain ⟨fuel, hf⟩ := h
  obtain ⟨y0, y1, n, hx, -, h0, h1⟩ := trod_struct2 Tryd.underlying47 hf
  have cp : Tryd.prog.cellsOf 45 = 2 := by kernel_rfl
  simp only [Value.cells, cp, List.drop_zero, List.take_succ_cons, List.take_zero, List.drop_succ_cons] at h0 h1
  obtain ⟨x, y, rfl, rfl, ix, iy⟩ := point_cells h0
  obtain ⟨z, u, rfl, rfl, iz, iu⟩ := point_cells h1
  exact ⟨x, y, z, u, rfl, ix, iy, iz, iu⟩

set_option maxHeartbeats 2000000 in
theorem toJoint (ax ay bx by_ : Int) (w : World) :
    Calls Tryd.prog 18 #[.agg #[.int .i64 ax, .int .i64 ay, .int .i64 bx, .int .i64 by_]] w fun e w' => e = .returned (.agg #[.int .i64 ax, .int .i64 ay, .int .i64 bx, .int .i64 by_]) ∧ Below w.heap.size w w' := by
  have hb0 := (((Below.refl w.heap.size w).alloc (by simp) (.cells #[.int .i64 ax, .int .i64 ay, .int .i64 bx, .int .i64 by_] 47)).alloc (by simp) (.cells #[.int .i64 0, .int .i64 0, .int .i64 0, .int .i64 0] 32)).alloc (by simp <;> omega) (.cells #[.int .i64 0, .int .i64 0, .int .i64 0, .int .i64 0] 32)
  have HB0 := Lib.hid hb0
  clear hb0
  go_enter Tryd.func18, Tryd.ntmps18
  go_wp2_with fail
  refine (toPoint _ _ _).mono ?_
  rintro e w1 ⟨rfl, hb1⟩
  have HB1 := Lib.hid (HB0.out.trans (hb1.mono HB0.out.size))
  have hz1 := hb1.size
  simp only [World.size_alloc] at hz1
  have hz10 : w.heap.size + 1 + 1 < w1.heap.size := by omega
  have hz11 : w.heap.size + 1 < w1.heap.size := by omega
  have hz12 : w.heap.size < w1.heap.size := by omega
  obtain ⟨hc1, hf1⟩ := bcell hb1
  clear hb1
  go_wp2_with fail
  refine (toPoint _ _ _).mono ?_
  rintro e w2 ⟨rfl, hb2⟩
  have hz2 := hb2.size
  simp only [World.size_setCell] at hz2
  have q0 : w.heap.size ≤ w.heap.size + 1 + 1 := by omega
  have q1 := HB1.out.setCell (p := ⟨w.heap.size + 1 + 1, 0, none⟩) q0 (.int .i64 ax)
  have q2 := q1.setCell (p := ⟨w.heap.size + 1 + 1, 1, none⟩) q0 (.int .i64 ay)
  have HB2 := Lib.hid (q2.trans (hb2.mono (by simp; omega)))
  clear q1 q2
  obtain ⟨hc2, hf2⟩ := bcell hb2
  have k0 : ((w1.setCell ⟨w.heap.size + 1 + 1, 0, none⟩ (.int .i64 ax)).setCell ⟨w.heap.size + 1 + 1, 1, none⟩ (.int .i64 ay)).cell? ⟨w.heap.size + 1 + 1, 0, none⟩ = some (.int .i64 ax) := by go_simp
  have k1 : ((w1.setCell ⟨w.heap.size + 1 + 1, 0, none⟩ (.int .i64 ax)).setCell ⟨w.heap.size + 1 + 1, 1, none⟩ (.int .i64 ay)).cell? ⟨w.heap.size + 1 + 1, 1, none⟩ = some (.int .i64 ay) := by go_simp
  have e10 : w2.cell? ⟨w.heap.size + 1, 0, none⟩ = some (.int .i64 0) := by rw [hc2 _ _ (by simp <;> omega)]; first | (rw [World.cell?_setCell_ne _ _ _ _ (by simp), World.cell?_setCell_ne _ _ _ _ (by simp), hc1 _ _ (by simp <;> omega)]; go_simp) | go_simp
  have e11 : w2.cell? ⟨w.heap.size + 1, 1, none⟩ = some (.int .i64 0) := by rw [hc2 _ _ (by simp <;> omega)]; first | (rw [World.cell?_setCell_ne _ _ _ _ (by simp), World.cell?_setCell_ne _ _ _ _ (by simp), hc1 _ _ (by simp <;> omega)]; go_simp) | go_simp
  have e12 : w2.cell? ⟨w.heap.size + 1, 2, none⟩ = some (.int .i64 0) := by rw [hc2 _ _ (by simp <;> omega)]; first | (rw [World.cell?_setCell_ne _ _ _ _ (by simp), World.cell?_setCell_ne _ _ _ _ (by simp), hc1 _ _ (by simp <;> omega)]; go_simp) | go_simp
  have e13 : w2.cell? ⟨w.heap.size + 1, 3, none⟩ = some (.int .i64 0) := by rw [hc2 _ _ (by simp <;> omega)]; first | (rw [World.cell?_setCell_ne _ _ _ _ (by simp), World.cell?_setCell_ne _ _ _ _ (by simp), hc1 _ _ (by simp <;> omega)]; go_simp) | go_simp
  have f1 : ∀ o, w2.frozen? ⟨w.heap.size + 1, o, none⟩ = false := fun o => by rw [hf2 _ _ (by simp <;> omega), World.frozen?_setCell, World.frozen?_setCell, hf1 _ _ (by simp <;> omega)]; go_simp
  have e20 : w2.cell? ⟨w.heap.size + 1 + 1, 0, none⟩ = some (.int .i64 ax) := by rw [hc2 _ _ (by simp <;> omega)]; exact k0
  have e21 : w2.cell? ⟨w.heap.size + 1 + 1, 1, none⟩ = some (.int .i64 ay) := by rw [hc2 _ _ (by simp <;> omega)]; exact k1
  have e22 : w2.cell? ⟨w.heap.size + 1 + 1, 2, none⟩ = some (.int .i64 0) := by rw [hc2 _ _ (by simp <;> omega)]; first | (rw [World.cell?_setCell_ne _ _ _ _ (by simp), World.cell?_setCell_ne _ _ _ _ (by simp), hc1 _ _ (by simp <;> omega)]; go_simp) | go_simp
  have e23 : w2.cell? ⟨w.heap.size + 1 + 1, 3, none⟩ = some (.int .i64 0) := by rw [hc2 _ _ (by simp <;> omega)]; first | (rw [World.cell?_setCell_ne _ _ _ _ (by simp), World.cell?_setCell_ne _ _ _ _ (by simp), hc1 _ _ (by simp <;> omega)]; go_simp) | go_simp
  have f2 : ∀ o, w2.frozen? ⟨w.heap.size + 1 + 1, o, none⟩ = false := fun o => by rw [hf2 _ _ (by simp <;> omega), World.frozen?_setCell, World.frozen?_setCell, hf1 _ _ (by simp <;> omega)]; go_simp
  clear hb2 hc1 hf1 hc2 hf2 k0 k1 hz1 hz10 hz11 hz12 q0
  go_wp2_with fail
  refine bodyPost_ret (v := .agg #[.int .i64 ax, .int .i64 ay, .int .i64 bx, .int .i64 by_]) (by simp [results, Tryd.results18, go_sem, e10, e11, e12, e13]) rfl ⟨rfl, ?_⟩
  repeat (first | exact HB2.out | refine Below.setCell ?_ (by simp <;> omega) _)


set_option maxHeartbeats 400000 in
theorem implJointOk (ax ay bx by_ : Int) (w : World) :
    Calls Tryd.prog 10 #[.agg #[.int .i64 ax, .int .i64 ay, .int .i64 bx, .int .i64 by_]] w fun e w' => e = .returned (.bool (okJ ax ay bx by_)) ∧ Below w.heap.size w w' := by
  have hb0 := (Below.refl w.heap.size w).alloc (Nat.le_refl _) (.cells #[.int .i64 ax, .int .i64 ay, .int .i64 bx, .int .i64 by_] 32)
  cases ha : okP ax ay
  · go_enter Tryd.func10, Tryd.ntmps10
    go_wp2_with fail
    refine (implPointOk _ _ _).mono ?_
    rintro e w1 ⟨rfl, hb1⟩
    rw [ha]
    go_wp2_with fail
    go_ret
    exact ⟨ret_bool (okJ_a ha).symm, hb0.trans (hb1.mono (by simp))⟩
  cases hb : okP bx by_
  · go_enter Tryd.func10, Tryd.ntmps10
    go_wp2_with fail
    refine (implPointOk _ _ _).mono ?_
    rintro e w1 ⟨rfl, hb1⟩
    rw [ha]
    obtain ⟨hc1, hf1⟩ := bcell hb1
    go_wp2_with fail
    refine (implPointOk _ _ _).mono ?_
    rintro e w2 ⟨rfl, hb2⟩
    rw [hb]
    go_wp2_with fail
    go_ret
    exact ⟨ret_bool (okJ_b hb).symm, hb0.trans ((hb1.trans (hb2.mono hb1.size)).mono (by simp))⟩
  · have HV := Lib.hid (okJ_yes ha hb)
    go_enter Tryd.func10, Tryd.ntmps10
    go_wp2_with fail
    refine (implPointOk _ _ _).mono ?_
    rintro e w1 ⟨rfl, hb1⟩
    rw [ha]
    obtain ⟨hc1, hf1⟩ := bcell hb1
    go_wp2_with fail
    refine (implPointOk _ _ _).mono ?_
    rintro e w2 ⟨rfl, hb2⟩
    rw [hb]
    have hb12 := hb1.trans (hb2.mono hb1.size)
    clear hc1 hf1 hb1 hb2
    obtain ⟨hc1, hf1⟩ := bcell hb12
    have HB := Lib.hid (hb0.trans (hb12.mono (by simp)))
    clear hb12 hb0
    by_cases hx : ax = bx
    · by_cases hy : ay = by_
      · go_wp2_with fail
        go_ret
        exact ⟨ret_bool (by rw [HV.out, decide_eq_true hx, decide_eq_true hy]; rfl), HB.out⟩
      · go_wp2_with fail
        go_ret
        exact ⟨ret_bool (by rw [HV.out, decide_eq_false hy, Bool.and_false]; rfl), HB.out⟩
    · go_wp2_with fail
      go_ret
      exact ⟨ret_bool (by rw [HV.out, decide_eq_false hx]; rfl), HB.out⟩

set_option maxHeartbeats 400000 in
theorem implIsFlat (ax ay bx by_ : Int) (w : World) :
    Calls Tryd.prog 14 #[.agg #[.int .i64 ax, .int .i64 ay, .int .i64 bx, .int .i64 by_]] w fun e w' => e = .returned (.bool (flatV ax ay bx by_)) ∧ Below w.heap.size w w' := by
  have hb0 := (Below.refl w.heap.size w).alloc (Nat.le_refl _) (.cells #[.int .i64 ax, .int .i64 ay, .int .i64 bx, .int .i64 by_] 32)
  cases hj : okJ ax ay bx by_
  · have HV := Lib.hid (show flatV ax ay bx by_ = false by unfold flatV; rw [hj]; rfl)
    go_enter Tryd.func14, Tryd.ntmps14
    go_wp2_with fail
    refine (implJointOk _ _ _ _ _).mono ?_
    rintro e w1 ⟨rfl, hb1⟩
    rw [hj]
    go_wp2_with fail
    go_ret
    exact ⟨ret_bool HV.out.symm, hb0.trans (hb1.mono (by simp))⟩
  · have HV := Lib.hid (show flatV ax ay bx by_ = decide (ay = by_) by unfold flatV; rw [hj]; rfl)
    go_enter Tryd.func14, Tryd.ntmps14
    go_wp2_with fail
    refine (implJointOk _ _ _ _ _).mono ?_
    rintro e w1 ⟨rfl, hb1⟩
    rw [hj]
    have HB := Lib.hid (hb0.trans (hb1.mono (by simp)))
    obtain ⟨hc1, hf1⟩ := bcell hb1
    clear hb1 hb0
    go_wp2_with fail
    go_ret
    exact ⟨ret_bool (by rw [HV.out]; rfl), HB.out⟩

set_option maxHeartbeats 400000 in
theorem specJointOk (ax ay bx by_ : Int) (w : World) :
    Calls Tryd.prog 31 #[.agg #[.int .i64 ax, .int .i64 ay, .int .i64 bx, .int .i64 by_]] w fun e w' => e = .returned (.bool (okJ ax ay bx by_)) ∧ Below w.heap.size w w' := by
  have hb0 := (Below.refl w.heap.size w).alloc (Nat.le_refl _) (.cells #[.int .i64 ax, .int .i64 ay, .int .i64 bx, .int .i64 by_] 32)
  cases ha : okP ax ay
  · go_enter Tryd.func31, Tryd.ntmps31
    go_wp2_with fail
    refine (specPointOk _ _ _).mono ?_
    rintro e w1 ⟨rfl, hb1⟩
    rw [ha]
    go_wp2_with fail
    go_ret
    exact ⟨ret_bool (okJ_a ha).symm, hb0.trans (hb1.mono (by simp))⟩
  cases hb : okP bx by_
  · go_enter Tryd.func31, Tryd.ntmps31
    go_wp2_with fail
    refine (specPointOk _ _ _).mono ?_
    rintro e w1 ⟨rfl, hb1⟩
    rw [ha]
    obtain ⟨hc1, hf1⟩ := bcell hb1
    go_wp2_with fail
    refine (specPointOk _ _ _).mono ?_
    rintro e w2 ⟨rfl, hb2⟩
    rw [hb]
    go_wp2_with fail
    go_ret
    exact ⟨ret_bool (okJ_b hb).symm, hb0.trans ((hb1.trans (hb2.mono hb1.size)).mono (by simp))⟩
  · have HV := Lib.hid (okJ_yes ha hb)
    go_enter Tryd.func31, Tryd.ntmps31
    go_wp2_with fail
    refine (specPointOk _ _ _).mono ?_
    rintro e w1 ⟨rfl, hb1⟩
    rw [ha]
    obtain ⟨hc1, hf1⟩ := bcell hb1
    go_wp2_with fail
    refine (specPointOk _ _ _).mono ?_
    rintro e w2 ⟨rfl, hb2⟩
    rw [hb]
    have hb12 := hb1.trans (hb2.mono hb1.size)
    clear hc1 hf1 hb1 hb2
    obtain ⟨hc1, hf1⟩ := bcell hb12
    have HB := Lib.hid (hb0.trans (hb12.mono (by simp)))
    clear hb12 hb0
    by_cases hx : ax = bx
    · by_cases hy : ay = by_
      · go_wp2_with fail
        go_ret
        exact ⟨ret_bool (by rw [HV.out, decide_eq_true hx, decide_eq_true hy]; rfl), HB.out⟩
      · go_wp2_with fail
        go_ret
        exact ⟨ret_bool (by rw [HV.out, decide_eq_false hy, Bool.and_false]; rfl), HB.out⟩
    · go_wp2_with fail
      go_ret
      exact ⟨ret_bool (by rw [HV.out, decide_eq_false hx]; rfl), HB.out⟩


end Go.Proofs.YtioeemmdpfddaaaDoor
