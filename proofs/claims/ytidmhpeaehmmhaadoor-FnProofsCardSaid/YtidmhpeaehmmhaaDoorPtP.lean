/- Points, plainly: side, square, mirror as functions of whole numbers; bounds. -/
import Derived.Test.YtidmhpeaehmmhaaDoorPointC
namespace Go.Proofs.YtidmhpeaehmmhaaDoor
set_option maxRecDepth 100000

theorem mul_bd {x y : Int} (a b : Nat) (hx : -(a : Int) ≤ x ∧ x ≤ a) (hy : -(b : Int) ≤ y ∧ y ≤ b) : -((a * b : Nat) : Int) ≤ x * y ∧ x * y ≤ ((a * b : Nat) : Int) := by
  have h : (x * y).natAbs ≤ a * b := by rw [Int.natAbs_mul]; exact Nat.mul_le_mul (by omega) (by omega)
  generalize a * b = m at *
  generalize x * y = z at *
  omega

theorem sq_bd (x : Int) (a : Nat) (hx : -(a : Int) ≤ x ∧ x ≤ a) : 0 ≤ x * x ∧ x * x ≤ ((a * a : Nat) : Int) := ⟨by
  rcases Int.le_total 0 x with h | h
  · exact Int.mul_nonneg h h
  · exact Int.mul_nonneg_of_nonpos_of_nonpos h h, (mul_bd a a hx hx).2⟩

/-- Twice the area with its sign. -/
def side (ax ay bx by_ cx cy : Int) : Int := (bx - ax) * (cy - ay) - (by_ - ay) * (cx - ax)
/-- What SideOf answers. -/
def sideV (ax ay bx by_ cx cy : Int) : Int := if okP ax ay && okP bx by_ && okP cx cy then side ax ay bx by_ cx cy else 0
theorem sideV_yes {ax ay bx by_ cx cy : Int} (ha : okP ax ay = true) (hb : okP bx by_ = true) (hc : okP cx cy = true) : sideV ax ay bx by_ cx cy = (bx - ax) * (cy - ay) - (by_ - ay) * (cx - ax) := by
  unfold sideV side; rw [ha, hb, hc]; rfl
theorem sideV_a {ax ay bx by_ cx cy : Int} (ha : okP ax ay = false) : sideV ax ay bx by_ cx cy = 0 := by unfold sideV; rw [ha]; rfl
theorem sideV_b {ax ay bx by_ cx cy : Int} (hb : okP bx by_ = false) : sideV ax ay bx by_ cx cy = 0 := by unfold sideV; rw [hb, Bool.and_false]; rfl
theorem sideV_c {ax ay bx by_ cx cy : Int} (hc : okP cx cy = false) : sideV ax ay bx by_ cx cy = 0 := by unfold sideV; rw [hc, Bool.and_false]; rfl
theorem side_bd {ax ay bx by_ cx cy : Int} (ha : okP ax ay = true) (hb : okP bx by_ = true) (hc : okP cx cy = true) :
    (-14400 ≤ (bx - ax) * (cy - ay) ∧ (bx - ax) * (cy - ay) ≤ 14400) ∧ -14400 ≤ (by_ - ay) * (cx - ax) ∧ (by_ - ay) * (cx - ax) ≤ 14400 := by
  rw [okP_iff] at ha hb hc
  exact ⟨mul_bd 120 120 ⟨by omega, by omega⟩ ⟨by omega, by omega⟩, mul_bd 120 120 ⟨by omega, by omega⟩ ⟨by omega, by omega⟩⟩
theorem sideV_bd (ax ay bx by_ cx cy : Int) : -28800 ≤ sideV ax ay bx by_ cx cy ∧ sideV ax ay bx by_ cx cy ≤ 28800 := by
  cases ha : okP ax ay
  · rw [sideV_a ha]; omega
  cases hb : okP bx by_
  · rw [sideV_b hb]; omega
  cases hc : okP cx cy
  · rw [sideV_c hc]; omega
  have := side_bd ha hb hc
  rw [sideV_yes ha hb hc]
  omega

/-- What MiddleTwice answers. -/
def midX (ax ay bx by_ : Int) : Int := if okP ax ay && okP bx by_ then ax + bx else 0
def midY (ax ay bx by_ : Int) : Int := if okP ax ay && okP bx by_ then ay + by_ else 0
theorem mid_yes {ax ay bx by_ : Int} (ha : okP ax ay = true) (hb : okP bx by_ = true) : midX ax ay bx by_ = ax + bx ∧ midY ax ay bx by_ = ay + by_ := by
  unfold midX midY; rw [ha, hb]; exact ⟨rfl, rfl⟩
theorem mid_a {ax ay bx by_ : Int} (ha : okP ax ay = false) : midX ax ay bx by_ = 0 ∧ midY ax ay bx by_ = 0 := by unfold midX midY; rw [ha]; exact ⟨rfl, rfl⟩
theorem mid_b {ax ay bx by_ : Int} (hb : okP bx by_ = false) : midX ax ay bx by_ = 0 ∧ midY ax ay bx by_ = 0 := by unfold midX midY; rw [hb, Bool.and_false]; exact ⟨rfl, rfl⟩

/-- What SquareOf answers. -/
def sqV (ax ay bx by_ : Int) : Int := if okP ax ay && okP bx by_ then (bx - ax) * (bx - ax) + (by_ - ay) * (by_ - ay) else -1
theorem sqV_yes {ax ay bx by_ : Int} (ha : okP ax ay = true) (hb : okP bx by_ = true) : sqV ax ay bx by_ = (bx - ax) * (bx - ax) + (by_ - ay) * (by_ - ay) := by unfold sqV; rw [ha, hb]; rfl
theorem sqV_a {ax ay bx by_ : Int} (ha : okP ax ay = false) : sqV ax ay bx by_ = -1 := by unfold sqV; rw [ha]; rfl
theorem sqV_b {ax ay bx by_ : Int} (hb : okP bx by_ = false) : sqV ax ay bx by_ = -1 := by unfold sqV; rw [hb, Bool.and_false]; rfl
theorem sq_bds {ax ay bx by_ : Int} (ha : okP ax ay = true) (hb : okP bx by_ = true) :
    (0 ≤ (bx - ax) * (bx - ax) ∧ (bx - ax) * (bx - ax) ≤ 14400) ∧ 0 ≤ (by_ - ay) * (by_ - ay) ∧ (by_ - ay) * (by_ - ay) ≤ 14400 := by
  rw [okP_iff] at ha hb
  exact ⟨sq_bd _ 120 ⟨by omega, by omega⟩, sq_bd _ 120 ⟨by omega, by omega⟩⟩
theorem sqV_bd (ax ay bx by_ : Int) : -1 ≤ sqV ax ay bx by_ ∧ sqV ax ay bx by_ ≤ 28800 := by
  cases ha : okP ax ay
  · rw [sqV_a ha]; omega
  cases hb : okP bx by_
  · rw [sqV_b hb]; omega
  have := sq_bds ha hb
  rw [sqV_yes ha hb]
  omega

/-- The X of what MirrorPoint answers (its Y is the point's own). -/
def mirX (px py x : Int) : Int := if okP px py && inP x then 2 * x - px else px
theorem mirX_yes {px py x : Int} (hp : okP px py = true) (hx : inP x = true) : mirX px py x = 2 * x - px := by unfold mirX; rw [hp, hx]; rfl
theorem mirX_p {px py x : Int} (hp : okP px py = false) : mirX px py x = px := by unfold mirX; rw [hp]; rfl
theorem mirX_x {px py x : Int} (hx : inP x = false) : mirX px py x = px := by unfold mirX; rw [hx, Bool.and_false]; rfl
end Go.Proofs.YtidmhpeaehmmhaaDoor
