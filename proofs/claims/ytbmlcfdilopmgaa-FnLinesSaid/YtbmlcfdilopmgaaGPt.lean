/- Points: the struct as it comes in, and the contracts of the functions that tell a valid one; Points, plainly: side, square, mirror as functions of whole numbers; bounds; The contracts of the program's functions on points: SideOf, MiddleTwice, SquareOf, MirrorPoint; The contracts of the model's functions on points: SideOf, MiddleTwice, SquareOf, MirrorPoint; the comparison of points. -/
import Derived.Test.YtbmlcfdilopmgaaGBase
import Derived.Lib.SmallJoins

/- Points: the struct as it comes in, and the contracts of the functions that tell a valid one. -/
namespace Go.Proofs.Ytbmlcfdilopmgaa
set_option maxRecDepth 100000
open Go.ChangeShapes Go.WideShapes Go.ChangeAt Go.RowKit Go.Joins

theorem cellsPoint : Try.prog.cellsOf 116 = 2 := by kernel_rfl

/-- A point that came in: two ints. -/
theorem open_point {H : Type} {enc : TypeId × Value → H} {w : World} {r : Reach} {b0 base : Nat} {spare : Nat → Bool} {held : Bool} {v : Value} {d : DataW H} {p : List MemPlace}
    (hv : Value.okWide Try.prog w r b0 116 v) (h : DataW.Trod enc Try.prog w base spare held 116 v d p) : ∃ x y : Int, v = .agg #[.int .i64 x, .int .i64 y] ∧ I64 x ∧ I64 y := by
  obtain ⟨c0, c1, y0, y1, m, rfl, rfl, rfl, hy0, hy1⟩ := open_agg2 Try.underlying116 (by kernel_rfl) cellsPoint hv h
  obtain ⟨a, e0, rfl, wa⟩ := DataW.trod_int Try.underlying3 hy0
  obtain ⟨b, e1, rfl, wb⟩ := DataW.trod_int Try.underlying3 hy1
  simp at e0 e1
  subst e0 e1
  exact ⟨a, b, rfl, I64.of_wf wa, I64.of_wf wb⟩

/-- A coordinate in its range. -/
def inP (n : Int) : Bool := decide (-60 ≤ n ∧ n ≤ 60)
/-- A valid point. -/
def okP (x y : Int) : Bool := inP x && inP y
theorem inP_iff {n : Int} : inP n = true ↔ -60 ≤ n ∧ n ≤ 60 := by unfold inP; simp
theorem inP_no {n : Int} : inP n = false ↔ ¬ (-60 ≤ n ∧ n ≤ 60) := by unfold inP; simp
theorem okP_iff {x y : Int} : okP x y = true ↔ (-60 ≤ x ∧ x ≤ 60) ∧ -60 ≤ y ∧ y ≤ 60 := by unfold okP; rw [Bool.and_eq_true, inP_iff, inP_iff]

set_option maxHeartbeats 400000 in
theorem toPoint (x y : Int) (w : World) :
    Calls Try.prog 85 #[.agg #[.int .i64 x, .int .i64 y]] w fun e w' => e = .returned (.agg #[.int .i64 x, .int .i64 y]) ∧ Below w.heap.size w w' := by
  go_enter Try.func85, Try.ntmps85
  go_wp2
  refine bodyPost_ret (v := .agg #[.int .i64 x, .int .i64 y]) (by simp [results, Try.results85, go_sem]) rfl ⟨rfl, ?_⟩
  repeat (first | exact Below.refl _ _ | refine Below.alloc ?_ (by simp <;> omega) _ | refine Below.setCell ?_ (by simp <;> omega) _)

theorem l01In60 (n : Int) (w : World) :
    Calls Try.prog 73 #[.int .i64 n, .int .i64 (-60), .int .i64 60] w fun e w' => e = .returned (.bool (inP n)) ∧ w = w' := by
  by_cases h : n < -60
  · go_enter Try.func73, Try.ntmps73
    go_wp2
    go_ret
    exact ⟨ret_bool (by unfold inP; simp; omega), rfl⟩
  · go_enter Try.func73, Try.ntmps73
    go_wp2
    go_ret
    exact ⟨ret_bool (by unfold inP; simp; omega), rfl⟩

theorem isPlace (n : Int) (w : World) :
    Calls Try.prog 112 #[.int .i64 n] w fun e w' => e = .returned (.bool (inP n)) ∧ w = w' := by
  by_cases h : n < -60
  · go_enter Try.func112, Try.ntmps112
    go_wp2
    go_ret
    exact ⟨ret_bool (by unfold inP; simp; omega), rfl⟩
  · go_enter Try.func112, Try.ntmps112
    go_wp2
    go_ret
    exact ⟨ret_bool (by unfold inP; simp; omega), rfl⟩

theorem specPointOk (x y : Int) (w : World) :
    Calls Try.prog 97 #[.agg #[.int .i64 x, .int .i64 y]] w fun e w' => e = .returned (.bool (okP x y)) ∧ Below w.heap.size w w' := by
  cases hx : inP x
  all_goals
    go_enter Try.func97, Try.ntmps97
    go_wp2_with (go_at_call 73; refine (l01In60 _ _).mono ?_; rintro e w' ⟨rfl, rfl⟩)
    go_ret
    exact ⟨ret_bool (by unfold okP; rw [hx]; simp), by repeat (first | exact Below.refl _ _ | refine Below.alloc ?_ (by simp <;> omega) _)⟩

theorem isValid (x y : Int) (w : World) :
    Calls Try.prog 129 #[.agg #[.int .i64 x, .int .i64 y]] w fun e w' => e = .returned (.bool (okP x y)) ∧ Below w.heap.size w w' := by
  cases hx : inP x
  all_goals
    go_enter Try.func129, Try.ntmps129
    go_wp2_with (go_at_call 112; refine (isPlace _ _).mono ?_; rintro e w' ⟨rfl, rfl⟩)
    go_ret
    exact ⟨ret_bool (by unfold okP; rw [hx]; simp), by repeat (first | exact Below.refl _ _ | refine Below.alloc ?_ (by simp <;> omega) _)⟩

theorem implPointOk (x y : Int) (w : World) :
    Calls Try.prog 125 #[.agg #[.int .i64 x, .int .i64 y]] w fun e w' => e = .returned (.bool (okP x y)) ∧ Below w.heap.size w w' := by
  go_enter Try.func125, Try.ntmps125
  go_wp2_with (go_at_call 129; refine (isValid _ _ _).mono ?_; rintro e w1 ⟨rfl, hb1⟩)
  go_ret
  exact ⟨rfl, ((Below.refl _ _).alloc (by simp <;> omega) _).trans (hb1.mono (by simp <;> omega))⟩
end Go.Proofs.Ytbmlcfdilopmgaa

/- Points, plainly: side, square, mirror as functions of whole numbers; bounds. -/
namespace Go.Proofs.Ytbmlcfdilopmgaa
set_option maxRecDepth 100000

theorem mul_bd {x y : Int} (a b : Nat) (hx : -(a : Int) ≤ x ∧ x ≤ a) (hy : -(b : Int) ≤ y ∧ y ≤ b) : -((a * b : Nat) : Int) ≤ x * y ∧ x * y ≤ ((a * b : Nat) : Int) := by
  have h : (x * y).natAbs ≤ a * b := by rw [Int.natAbs_mul]; exact Nat.mul_le_mul (by omega) (by omega)
  generalize a * b = m at *
  generalize x * y = z at *
  omega

theorem sq_bd (x : Int) (a : Nat) (hx : -(a : Int) ≤ x ∧ x ≤ a) : 0 ≤ x * x ∧ x * x ≤ ((a * a : Nat) : Int) := ⟨by
  rcases Int.le_total 0 x with h | h
  · exact Int.mul_nonneg h h
  · exact Int.mul_nonneg_of_nonpos_of_nonpos h h, (mul_bd a a hx hx).2⟩

/-- Twice the area with its sign. -/
def side (ax ay bx by_ cx cy : Int) : Int := (bx - ax) * (cy - ay) - (by_ - ay) * (cx - ax)
/-- What SideOf answers. -/
def sideV (ax ay bx by_ cx cy : Int) : Int := if okP ax ay && okP bx by_ && okP cx cy then side ax ay bx by_ cx cy else 0
theorem sideV_yes {ax ay bx by_ cx cy : Int} (ha : okP ax ay = true) (hb : okP bx by_ = true) (hc : okP cx cy = true) : sideV ax ay bx by_ cx cy = (bx - ax) * (cy - ay) - (by_ - ay) * (cx - ax) := by
  unfold sideV side; rw [ha, hb, hc]; rfl
theorem sideV_a {ax ay bx by_ cx cy : Int} (ha : okP ax ay = false) : sideV ax ay bx by_ cx cy = 0 := by unfold sideV; rw [ha]; rfl
theorem sideV_b {ax ay bx by_ cx cy : Int} (hb : okP bx by_ = false) : sideV ax ay bx by_ cx cy = 0 := by unfold sideV; rw [hb, Bool.and_false]; rfl
theorem sideV_c {ax ay bx by_ cx cy : Int} (hc : okP cx cy = false) : sideV ax ay bx by_ cx cy = 0 := by unfold sideV; rw [hc, Bool.and_false]; rfl
theorem side_bd {ax ay bx by_ cx cy : Int} (ha : okP ax ay = true) (hb : okP bx by_ = true) (hc : okP cx cy = true) :
    (-14400 ≤ (bx - ax) * (cy - ay) ∧ (bx - ax) * (cy - ay) ≤ 14400) ∧ -14400 ≤ (by_ - ay) * (cx - ax) ∧ (by_ - ay) * (cx - ax) ≤ 14400 := by
  rw [okP_iff] at ha hb hc
  exact ⟨mul_bd 120 120 ⟨by omega, by omega⟩ ⟨by omega, by omega⟩, mul_bd 120 120 ⟨by omega, by omega⟩ ⟨by omega, by omega⟩⟩
theorem sideV_bd (ax ay bx by_ cx cy : Int) : -28800 ≤ sideV ax ay bx by_ cx cy ∧ sideV ax ay bx by_ cx cy ≤ 28800 := by
  cases ha : okP ax ay
  · rw [sideV_a ha]; omega
  cases hb : okP bx by_
  · rw [sideV_b hb]; omega
  cases hc : okP cx cy
  · rw [sideV_c hc]; omega
  have := side_bd ha hb hc
  rw [sideV_yes ha hb hc]
  omega

/-- What MiddleTwice answers. -/
def midX (ax ay bx by_ : Int) : Int := if okP ax ay && okP bx by_ then ax + bx else 0
def midY (ax ay bx by_ : Int) : Int := if okP ax ay && okP bx by_ then ay + by_ else 0
theorem mid_yes {ax ay bx by_ : Int} (ha : okP ax ay = true) (hb : okP bx by_ = true) : midX ax ay bx by_ = ax + bx ∧ midY ax ay bx by_ = ay + by_ := by
  unfold midX midY; rw [ha, hb]; exact ⟨rfl, rfl⟩
theorem mid_a {ax ay bx by_ : Int} (ha : okP ax ay = false) : midX ax ay bx by_ = 0 ∧ midY ax ay bx by_ = 0 := by unfold midX midY; rw [ha]; exact ⟨rfl, rfl⟩
theorem mid_b {ax ay bx by_ : Int} (hb : okP bx by_ = false) : midX ax ay bx by_ = 0 ∧ midY ax ay bx by_ = 0 := by unfold midX midY; rw [hb, Bool.and_false]; exact ⟨rfl, rfl⟩

/-- What SquareOf answers. -/
def sqV (ax ay bx by_ : Int) : Int := if okP ax ay && okP bx by_ then (bx - ax) * (bx - ax) + (by_ - ay) * (by_ - ay) else -1
theorem sqV_yes {ax ay bx by_ : Int} (ha : okP ax ay = true) (hb : okP bx by_ = true) : sqV ax ay bx by_ = (bx - ax) * (bx - ax) + (by_ - ay) * (by_ - ay) := by unfold sqV; rw [ha, hb]; rfl
theorem sqV_a {ax ay bx by_ : Int} (ha : okP ax ay = false) : sqV ax ay bx by_ = -1 := by unfold sqV; rw [ha]; rfl
theorem sqV_b {ax ay bx by_ : Int} (hb : okP bx by_ = false) : sqV ax ay bx by_ = -1 := by unfold sqV; rw [hb, Bool.and_false]; rfl
theorem sq_bds {ax ay bx by_ : Int} (ha : okP ax ay = true) (hb : okP bx by_ = true) :
    (0 ≤ (bx - ax) * (bx - ax) ∧ (bx - ax) * (bx - ax) ≤ 14400) ∧ 0 ≤ (by_ - ay) * (by_ - ay) ∧ (by_ - ay) * (by_ - ay) ≤ 14400 := by
  rw [okP_iff] at ha hb
  exact ⟨sq_bd _ 120 ⟨by omega, by omega⟩, sq_bd _ 120 ⟨by omega, by omega⟩⟩
theorem sqV_bd (ax ay bx by_ : Int) : -1 ≤ sqV ax ay bx by_ ∧ sqV ax ay bx by_ ≤ 28800 := by
  cases ha : okP ax ay
  · rw [sqV_a ha]; omega
  cases hb : okP bx by_
  · rw [sqV_b hb]; omega
  have := sq_bds ha hb
  rw [sqV_yes ha hb]
  omega

/-- The X of what MirrorPoint answers (its Y is the point's own). -/
def mirX (px py x : Int) : Int := if okP px py && inP x then 2 * x - px else px
theorem mirX_yes {px py x : Int} (hp : okP px py = true) (hx : inP x = true) : mirX px py x = 2 * x - px := by unfold mirX; rw [hp, hx]; rfl
theorem mirX_p {px py x : Int} (hp : okP px py = false) : mirX px py x = px := by unfold mirX; rw [hp]; rfl
theorem mirX_x {px py x : Int} (hx : inP x = false) : mirX px py x = px := by unfold mirX; rw [hx, Bool.and_false]; rfl
end Go.Proofs.Ytbmlcfdilopmgaa

/- The contracts of the program's functions on points: SideOf, MiddleTwice, SquareOf, MirrorPoint. -/
namespace Go.Proofs.Ytbmlcfdilopmgaa
set_option maxRecDepth 100000
open Go.ChangeShapes Go.WideShapes Go.ChangeAt Go.RowKit

theorem minus (x y u v : Int) (w : World) (hx : -60 ≤ x ∧ x ≤ 60) (hy : -60 ≤ y ∧ y ≤ 60) (hu : -60 ≤ u ∧ u ≤ 60) (hv : -60 ≤ v ∧ v ≤ 60) :
    Calls Try.prog 133 #[.agg #[.int .i64 x, .int .i64 y], .agg #[.int .i64 u, .int .i64 v]] w fun e w' => e = .returned (.agg #[.int .i64 (x - u), .int .i64 (y - v)]) ∧ Below w.heap.size w w' := by
  obtain ⟨hx0, hx1⟩ := hx
  obtain ⟨hy0, hy1⟩ := hy
  obtain ⟨hu0, hu1⟩ := hu
  obtain ⟨hv0, hv1⟩ := hv
  go_enter Try.func133, Try.ntmps133
  go_wp2
  refine bodyPost_ret (v := .agg #[.int .i64 (x - u), .int .i64 (y - v)]) (by simp [results, Try.results133, go_sem]) rfl ⟨rfl, ?_⟩
  repeat (first | exact Below.refl _ _ | refine Below.alloc ?_ (by simp <;> omega) _ | refine Below.setCell ?_ (by simp <;> omega) _)

theorem plus (x y u v : Int) (w : World) (hx : -60 ≤ x ∧ x ≤ 60) (hy : -60 ≤ y ∧ y ≤ 60) (hu : -60 ≤ u ∧ u ≤ 60) (hv : -60 ≤ v ∧ v ≤ 60) :
    Calls Try.prog 119 #[.agg #[.int .i64 x, .int .i64 y], .agg #[.int .i64 u, .int .i64 v]] w fun e w' => e = .returned (.agg #[.int .i64 (x + u), .int .i64 (y + v)]) ∧ Below w.heap.size w w' := by
  obtain ⟨hx0, hx1⟩ := hx
  obtain ⟨hy0, hy1⟩ := hy
  obtain ⟨hu0, hu1⟩ := hu
  obtain ⟨hv0, hv1⟩ := hv
  go_enter Try.func119, Try.ntmps119
  go_wp2
  refine bodyPost_ret (v := .agg #[.int .i64 (x + u), .int .i64 (y + v)]) (by simp [results, Try.results119, go_sem]) rfl ⟨rfl, ?_⟩
  repeat (first | exact Below.refl _ _ | refine Below.alloc ?_ (by simp <;> omega) _ | refine Below.setCell ?_ (by simp <;> omega) _)

theorem cross (x y u v : Int) (w : World) (h1 : -1000000 ≤ x * v ∧ x * v ≤ 1000000) (h2 : -1000000 ≤ y * u ∧ y * u ≤ 1000000) :
    Calls Try.prog 123 #[.agg #[.int .i64 x, .int .i64 y], .agg #[.int .i64 u, .int .i64 v]] w fun e w' => e = .returned (.int .i64 (x * v - y * u)) ∧ Below w.heap.size w w' := by
  obtain ⟨h10, h11⟩ := h1
  obtain ⟨h20, h21⟩ := h2
  go_enter Try.func123, Try.ntmps123
  go_wp2
  go_ret
  exact ⟨rfl, by repeat (first | exact Below.refl _ _ | refine Below.alloc ?_ (by simp <;> omega) _ | refine Below.setCell ?_ (by simp <;> omega) _)⟩

theorem implSideOf (ax ay bx by_ cx cy : Int) (w : World) :
    Calls Try.prog 131 #[.agg #[.int .i64 ax, .int .i64 ay], .agg #[.int .i64 bx, .int .i64 by_], .agg #[.int .i64 cx, .int .i64 cy]] w fun e w' => e = .returned (.int .i64 (sideV ax ay bx by_ cx cy)) ∧ Below w.heap.size w w' := by
  cases ha : okP ax ay
  · go_enter Try.func131, Try.ntmps131
    go_wp2_with (go_at_call 129; refine (isValid _ _ _).mono ?_; rintro e w1 ⟨rfl, hb1⟩)
    go_ret
    exact ⟨ret_i64 (sideV_a ha).symm, ((Below.refl _ _).alloc (by simp <;> omega) _ |>.alloc (by simp <;> omega) _ |>.alloc (by simp <;> omega) _).trans (hb1.mono (by simp <;> omega))⟩
  cases hb : okP bx by_
  · go_enter Try.func131, Try.ntmps131
    go_wp2_with fail
    refine (isValid _ _ _).mono ?_
    rintro e w1 ⟨rfl, hb1⟩
    obtain ⟨hc1, hf1⟩ := bcell hb1
    go_wp2_with fail
    refine (isValid _ _ _).mono ?_
    rintro e w2 ⟨rfl, hb2⟩
    go_wp2_with fail
    go_ret
    exact ⟨ret_i64 (sideV_b hb).symm, ((Below.refl _ _).alloc (by simp <;> omega) _ |>.alloc (by simp <;> omega) _ |>.alloc (by simp <;> omega) _).trans ((hb1.trans (hb2.mono hb1.size)).mono (by simp <;> omega))⟩
  go_enter Try.func131, Try.ntmps131
  go_wp2_with fail
  refine (isValid _ _ _).mono ?_
  rintro e w1 ⟨rfl, hb1⟩
  obtain ⟨hc1, hf1⟩ := bcell hb1
  go_wp2_with fail
  refine (isValid _ _ _).mono ?_
  rintro e w2 ⟨rfl, hb2⟩
  have hb12 := hb1.trans (hb2.mono hb1.size)
  clear hc1 hf1 hb1 hb2
  obtain ⟨hc1, hf1⟩ := bcell hb12
  go_wp2_with fail
  refine (isValid _ _ _).mono ?_
  rintro e w3 ⟨rfl, hb3⟩
  have hb13 := hb12.trans (hb3.mono hb12.size)
  clear hc1 hf1 hb12 hb3
  have hb0 := ((Below.refl w.heap.size w).alloc (by simp <;> omega) (.cells #[.int .i64 ax, .int .i64 ay] 100) |>.alloc (by simp <;> omega) (.cells #[.int .i64 bx, .int .i64 by_] 100) |>.alloc (by simp <;> omega) (.cells #[.int .i64 cx, .int .i64 cy] 100)).trans (hb13.mono (by simp <;> omega))
  obtain ⟨hc1, hf1⟩ := bcell hb13
  have HC := Lib.hid hc1
  cases hc : okP cx cy
  · go_wp2_with fail
    go_ret
    exact ⟨ret_i64 (sideV_c hc).symm, hb0⟩
  · go_wp2_with fail
    have ra := okP_iff.1 ha
    have rb := okP_iff.1 hb
    have rc := okP_iff.1 hc
    obtain ⟨s1, s2⟩ := side_bd ha hb hc
    have HV := Lib.hid (sideV_yes ha hb hc)
    have hS := fun (x : Since w3) => (bcell (hb13.trans (x.2.mono hb13.size))).1
    clear hc1 hf1 hb13
    have hne := Since.nonempty w3
    refine wp_region_since (by kernel_rfl) (by kernel_rfl) ?_
    repeat (go_big_quiet_step (first
      | (go_at_call 133; exact Since.call (minus _ _ _ _ _ (by omega) (by omega) (by omega) (by omega)))
      | (go_at_call 123; exact Since.call (cross _ _ _ _ _ (by omega) (by omega)))))
    refine wpQuiet_nil ?_
    rintro w4 ⟨⟨_, hb4⟩, rfl⟩
    go_wp2_with fail
    go_ret
    exact ⟨ret_i64 HV.out.symm, hb0.trans (hb4.mono hb0.size)⟩
end Go.Proofs.Ytbmlcfdilopmgaa

/- The contracts of the model's functions on points: SideOf, MiddleTwice, SquareOf, MirrorPoint; the comparison of points. -/
namespace Go.Proofs.Ytbmlcfdilopmgaa
set_option maxRecDepth 100000
open Go.ChangeShapes Go.WideShapes Go.ChangeAt Go.RowKit

/-- Equal points are told equal. -/
theorem eqPoint_same (x y : Int) (w : World) :
    Calls Try.prog 86 #[.agg #[.int .i64 x, .int .i64 y], .agg #[.int .i64 x, .int .i64 y]] w fun e w' => e = .returned (.bool true) ∧ Below w.heap.size w w' := by
  go_enter Try.func86, Try.ntmps86
  go_wp2
  go_ret
  exact ⟨rfl, by repeat (first | exact Below.refl _ _ | refine Below.alloc ?_ (by simp <;> omega) _)⟩

theorem l02Side (ax ay bx by_ cx cy : Int) (w : World) (ha : okP ax ay = true) (hb : okP bx by_ = true) (hc : okP cx cy = true) :
    Calls Try.prog 98 #[.agg #[.int .i64 ax, .int .i64 ay], .agg #[.int .i64 bx, .int .i64 by_], .agg #[.int .i64 cx, .int .i64 cy]] w fun e w' => e = .returned (.int .i64 ((bx - ax) * (cy - ay) - (by_ - ay) * (cx - ax))) ∧ Below w.heap.size w w' := by
  obtain ⟨s1, s2⟩ := side_bd ha hb hc
  obtain ⟨⟨a0, a1⟩, a2, a3⟩ := okP_iff.1 ha
  obtain ⟨⟨b0, b1⟩, b2, b3⟩ := okP_iff.1 hb
  obtain ⟨⟨c0, c1⟩, c2, c3⟩ := okP_iff.1 hc
  clear ha hb hc
  go_enter Try.func98, Try.ntmps98
  go_wp2
  go_ret
  exact ⟨rfl, by repeat (first | exact Below.refl _ _ | refine Below.alloc ?_ (by simp <;> omega) _)⟩

end Go.Proofs.Ytbmlcfdilopmgaa
