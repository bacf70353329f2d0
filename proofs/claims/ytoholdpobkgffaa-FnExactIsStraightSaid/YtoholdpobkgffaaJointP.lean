/- Joints, plainly: what the functions on joints answer, as functions of the coordinates; what follows for two joints with a stone between them. -/
import Derived.Test.YtoholdpobkgffaaStoneP
namespace Go.Proofs.Ytoholdpobkgffaa
set_option maxRecDepth 100000

/-- A valid joint. -/
def okJ (ax ay bx by_ : Int) : Bool := okP ax ay && (okP bx by_ && !(decide (ax = bx) && decide (ay = by_)))
theorem okJ_iff {ax ay bx by_ : Int} : okJ ax ay bx by_ = true ↔ okP ax ay = true ∧ okP bx by_ = true ∧ ¬ (ax = bx ∧ ay = by_) := by
  unfold okJ
  rw [Bool.and_eq_true, Bool.and_eq_true, Bool.not_eq_true', Bool.and_eq_false_iff, decide_eq_false_iff_not, decide_eq_false_iff_not, Decidable.not_and_iff_or_not]
theorem okJ_a {ax ay bx by_ : Int} (h : okP ax ay = false) : okJ ax ay bx by_ = false := by unfold okJ; rw [h]; rfl
theorem okJ_b {ax ay bx by_ : Int} (h : okP bx by_ = false) : okJ ax ay bx by_ = false := by unfold okJ; rw [h]; simp
theorem okJ_yes {ax ay bx by_ : Int} (ha : okP ax ay = true) (hb : okP bx by_ = true) : okJ ax ay bx by_ = !(decide (ax = bx) && decide (ay = by_)) := by unfold okJ; rw [ha, hb]; rfl
/-- n in the range of a and b. -/
def amid (n a b : Int) : Bool := decide (min a b ≤ n ∧ n ≤ max a b)
theorem amid_iff {n a b : Int} : amid n a b = true ↔ min a b ≤ n ∧ n ≤ max a b := by unfold amid; simp
/-- What IsOnJoint answers. -/
def onV (ax ay bx by_ px py : Int) : Bool := okJ ax ay bx by_ && (okP px py && (decide (sideV ax ay bx by_ px py = 0) && (amid px ax bx && amid py ay by_)))
/-- What IsFlat answers. -/
def flatV (ax ay bx by_ : Int) : Bool := okJ ax ay bx by_ && decide (ay = by_)

/-- The corners of the stone between two joints. -/
def betw (a b : (Int × Int) × (Int × Int)) : List (Int × Int) := [a.1, b.1, b.2, a.2]
/-- What StoneBetween answers. -/
def betV (a b : (Int × Int) × (Int × Int)) : List (Int × Int) := if stoneV (betw a b) then betw a b else []
theorem betw_length (a b : (Int × Int) × (Int × Int)) : (betw a b).length = 4 := rfl
theorem betV_yes {a b : (Int × Int) × (Int × Int)} (h : stoneV (betw a b) = true) : betV a b = betw a b := by unfold betV; rw [h]; rfl
theorem betV_no {a b : (Int × Int) × (Int × Int)} (h : stoneV (betw a b) = false) : betV a b = [] := by unfold betV; rw [h]; rfl

theorem sid_round (a b c : Int × Int) : sid a b c = sid c a b := by
  unfold sid sideV side
  cases okP a.1 a.2 <;> cases okP b.1 b.2 <;> cases okP c.1 c.2 <;> simp
  grind
theorem side_first (ax ay bx by_ : Int) : sideV ax ay bx by_ ax ay = 0 := sid_aba (ax, ay) (bx, by_)
theorem side_last (ax ay bx by_ : Int) : sideV ax ay bx by_ bx by_ = 0 := by
  unfold sideV side
  split
  · grind
  · rfl
theorem side_none (ax ay cx cy : Int) : sideV ax ay ax ay cx cy = 0 := by
  unfold sideV side
  split
  · grind
  · rfl
theorem betw_cn (a b : (Int × Int) × (Int × Int)) : cn (betw a b) 0 = a.1 ∧ cn (betw a b) 1 = b.1 ∧ cn (betw a b) 2 = b.2 ∧ cn (betw a b) 3 = a.2 ∧ cn (betw a b) 4 = a.1 ∧ cn (betw a b) 5 = b.1 := ⟨by simp [cn, betw, pt], by simp [cn, betw, pt], by simp [cn, betw, pt], by simp [cn, betw, pt], by simp [cn, betw, pt], by simp [cn, betw, pt]⟩

/-- The left joint of a stone is valid. -/
theorem bet_joint {ix iy ox oy : Int} {b : (Int × Int) × (Int × Int)} (hs : stoneV (betw ((ix, iy), (ox, oy)) b) = true) : okJ ix iy ox oy = true := by
  have h0 := stone_valid hs 0 (by show 0 < 4; omega)
  have h3 := stone_valid hs 3 (by show 3 < 4; omega)
  refine okJ_iff.2 ⟨h0, h3, fun ⟨e1, e2⟩ => ?_⟩
  subst e1 e2
  unfold stoneV turnsC at hs
  simp only [Bool.and_eq_true] at hs
  have ht := allV_iff.1 hs.2.1.2 3 (by show 3 < 4; omega)
  unfold turnC at ht
  obtain ⟨c0, c1, c2, c3, c4, c5⟩ := betw_cn ((ix, iy), (ix, iy)) b
  rw [c3, show 3 + 1 = 4 from rfl, c4] at ht
  have : sid (ix, iy) (ix, iy) (cn (betw ((ix, iy), (ix, iy)) b) 5) = 0 := side_none _ _ _ _
  rw [this] at ht
  simp at ht
/-- The first corner of a stone lies in it. -/
theorem in_first {cs : List (Int × Int)} (hs : stoneV cs = true) : inV cs (cn cs 0) = true := by
  have h0 := stone_size hs
  unfold inV
  rw [hs, cn_ok hs 0, Bool.true_and, Bool.true_and, allV_iff]
  intro i hi
  unfold stoneV opensC at hs
  simp only [Bool.and_eq_true] at hs
  have := allV_iff.1 hs.2.2 i hi
  unfold openC at this
  unfold edgeC
  rw [sid_round]
  exact this
theorem on_first {ax ay bx by_ : Int} (h : okJ ax ay bx by_ = true) : onV ax ay bx by_ ax ay = true := by
  have hh := okJ_iff.1 h
  unfold onV amid
  rw [h, hh.1, side_first]
  simp
  omega
theorem on_last {ax ay bx by_ : Int} (h : okJ ax ay bx by_ = true) : onV ax ay bx by_ bx by_ = true := by
  have hh := okJ_iff.1 h
  unfold onV amid
  rw [h, hh.2.1, side_last]
  simp
  omega
theorem on_beyond {ax ay bx by_ : Int} (h : okJ ax ay bx by_ = true) : onV ax ay bx by_ (2 * bx - ax) (2 * by_ - ay) = false := by
  have hh := (okJ_iff.1 h).2.2
  unfold onV
  cases hv : (amid (2 * bx - ax) ax bx && amid (2 * by_ - ay) ay by_)
  · simp
  · rw [Bool.and_eq_true, amid_iff, amid_iff] at hv
    exact absurd ⟨by omega, by omega⟩ hh
theorem mirX_there_back {px py x : Int} (hp : -60 ≤ px ∧ px ≤ 60 ∧ -60 ≤ py ∧ py ≤ 60) (hx : -60 ≤ x ∧ x ≤ 60) (hi : -60 ≤ 2 * x - px ∧ 2 * x - px ≤ 60) : mirX (mirX px py x) py x = px := by
  rw [mirX_yes (px := px) (okP_iff.2 (by omega)) (inP_iff.2 hx), mirX_yes (okP_iff.2 (by omega)) (inP_iff.2 hx)]
  omega
end Go.Proofs.Ytoholdpobkgffaa
