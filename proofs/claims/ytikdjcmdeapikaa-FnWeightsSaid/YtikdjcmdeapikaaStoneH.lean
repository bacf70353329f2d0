/- Stones that are drawn: the shapes, plainly. -/
import Derived.Test.YtikdjcmdeapikaaStoneG
namespace Go.Proofs.Ytikdjcmdeapikaa

/-- A stone that serves: valid, every corner on the left of every edge, near the middle. -/
def Good (cs : List (Int × Int)) : Prop := stoneV cs = true ∧ Round cs ∧ Near cs

theorem round_of {cs : List (Int × Int)} (h0 : 0 < cs.length) (h : ∀ i d, d < cs.length → 0 ≤ sid (cn cs i) (cn cs (i + 1)) (cn cs (i + d))) : Round cs := fun i k => by
  have h1 := Nat.mod_lt i h0
  have h2 := Nat.mod_lt k h0
  have h3 := h i ((k % cs.length + (cs.length - i % cs.length)) % cs.length) (Nat.mod_lt _ h0)
  have h4 : cn cs (i + (k % cs.length + (cs.length - i % cs.length)) % cs.length) = cn cs k := by
    unfold cn
    congr 1
    rw [Nat.add_mod_mod]
    have : (i + (k % cs.length + (cs.length - i % cs.length))) % cs.length = (i % cs.length + (k % cs.length + (cs.length - i % cs.length))) % cs.length := by rw [Nat.mod_add_mod]
    rw [this, show i % cs.length + (k % cs.length + (cs.length - i % cs.length)) = k % cs.length + cs.length by omega, Nat.add_mod_right, Nat.mod_mod]
  rwa [h4] at h3

theorem round_near {cs : List (Int × Int)} (hs : stoneV cs = true) (i d : Nat) (hd : d = 0 ∨ d = 1 ∨ d = 2 ∨ d + 1 = cs.length) : 0 ≤ sid (cn cs i) (cn cs (i + 1)) (cn cs (i + d)) := by
  have h0 := stone_size hs
  rcases hd with rfl | rfl | rfl | h
  · have := sid_aba (cn cs i) (cn cs (i + 1))
    show 0 ≤ sid (cn cs i) (cn cs (i + 1)) (cn cs i)
    rw [this]; exact Int.le_refl _
  · rw [sid_abb]; exact Int.le_refl _
  · exact Int.le_of_lt (stone_turn hs i)
  · have ht := stone_turn hs (i + d)
    rw [show i + d + 1 = i + cs.length by omega, cn_add, show i + d + 2 = i + 1 + cs.length by omega, cn_add, sid_turn] at ht
    exact Int.le_of_lt ht
theorem round34 {cs : List (Int × Int)} (hs : stoneV cs = true) (h : cs.length = 3 ∨ cs.length = 4) : Round cs :=
  round_of (by omega) fun i d hd => round_near hs i d (by omega)
theorem round5 {cs : List (Int × Int)} (hs : stoneV cs = true) (h : cs.length = 5) (h5 : ∀ i, i < 5 → 0 ≤ sid (cn cs i) (cn cs (i + 1)) (cn cs (i + 3))) : Round cs :=
  round_of (by omega) fun i d hd => by
    by_cases h3 : d = 3
    · subst h3
      have := h5 (i % 5) (Nat.mod_lt _ (by omega))
      have e : ∀ j, cn cs (i % 5 + j) = cn cs (i + j) := fun j => by unfold cn; rw [h, Nat.mod_add_mod]
      have e0 := e 0
      rw [Nat.add_zero, Nat.add_zero] at e0
      rw [e0, e 1, e 3] at this
      exact this
    · exact round_near hs i d (by omega)

/-- The drawn corners. -/
structure Dims (x y w h a b c : Int) : Prop where
  x0 : -4 ≤ x
  x1 : x ≤ 7
  y0 : 0 ≤ y
  y1 : y ≤ 7
  w0 : 1 ≤ w
  w1 : w ≤ 6
  h0 : 1 ≤ h
  h1 : h ≤ 6
  a0 : 0 ≤ a
  a1 : a ≤ 1
  b0 : 0 ≤ b
  b1 : b ≤ 2
  c0 : 0 ≤ c
  c1 : c ≤ 1
def four (x y w h a b c : Int) : List (Int × Int) := [(x, y), (x + w, y + a), (x + w + b, y + h + 1), (x - c, y + h)]
def five (x y w h a b c : Int) : List (Int × Int) := four x y w h a b c ++ [(x - 3, y + 1)]
def three (x y w h a b c : Int) : List (Int × Int) := (four x y w h a b c).take 3
def rect (x y w h : Int) : List (Int × Int) := [(x, y), (x + w, y), (x + w, y + h), (x, y + h)]

theorem sid_is {ax ay bx by_ cx cy : Int} (ha : -60 ≤ ax ∧ ax ≤ 60 ∧ -60 ≤ ay ∧ ay ≤ 60) (hb : -60 ≤ bx ∧ bx ≤ 60 ∧ -60 ≤ by_ ∧ by_ ≤ 60) (hc : -60 ≤ cx ∧ cx ≤ 60 ∧ -60 ≤ cy ∧ cy ≤ 60) :
    sid (ax, ay) (bx, by_) (cx, cy) = (bx - ax) * (cy - ay) - (by_ - ay) * (cx - ax) :=
  sideV_yes (okP_iff.2 (by omega)) (okP_iff.2 (by omega)) (okP_iff.2 (by omega))

theorem near_four {x y w h a b c : Int} (D : Dims x y w h a b c) : Near (four x y w h a b c) := fun i hi => by
  obtain ⟨d1, d2, d3, d4, d5, d6, d7, d8, d9, d10, d11, d12, d13, d14⟩ := D
  unfold four at hi ⊢
  simp at hi
  match i, hi with
  | 0, _ => simp [pt]; omega
  | 1, _ => simp [pt]; omega
  | 2, _ => simp [pt]; omega
  | 3, _ => simp [pt]; omega
theorem near_three {x y w h a b c : Int} (D : Dims x y w h a b c) : Near (three x y w h a b c) := fun i hi => by
  obtain ⟨d1, d2, d3, d4, d5, d6, d7, d8, d9, d10, d11, d12, d13, d14⟩ := D
  unfold three four at hi ⊢
  simp at hi
  match i, hi with
  | 0, _ => simp [pt]; omega
  | 1, _ => simp [pt]; omega
  | 2, _ => simp [pt]; omega
theorem near_five {x y w h a b c : Int} (D : Dims x y w h a b c) : Near (five x y w h a b c) := fun i hi => by
  obtain ⟨d1, d2, d3, d4, d5, d6, d7, d8, d9, d10, d11, d12, d13, d14⟩ := D
  unfold five four at hi ⊢
  simp at hi
  match i, hi with
  | 0, _ => simp [pt]; omega
  | 1, _ => simp [pt]; omega
  | 2, _ => simp [pt]; omega
  | 3, _ => simp [pt]; omega
  | 4, _ => simp [pt]; omega
theorem near_rect {x y w h a b c : Int} (D : Dims x y w h a b c) : Near (rect x y w h) := fun i hi => by
  obtain ⟨d1, d2, d3, d4, d5, d6, d7, d8, d9, d10, d11, d12, d13, d14⟩ := D
  unfold rect at hi ⊢
  simp at hi
  match i, hi with
  | 0, _ => simp [pt]; omega
  | 1, _ => simp [pt]; omega
  | 2, _ => simp [pt]; omega
  | 3, _ => simp [pt]; omega

theorem rect_cn (x y w h : Int) : cn (rect x y w h) 0 = (x, y) ∧ cn (rect x y w h) 1 = (x + w, y) ∧ cn (rect x y w h) 2 = (x + w, y + h) ∧ cn (rect x y w h) 3 = (x, y + h) ∧ cn (rect x y w h) 4 = (x, y) ∧ cn (rect x y w h) 5 = (x + w, y) :=
  ⟨by simp [cn, rect, pt], by simp [cn, rect, pt], by simp [cn, rect, pt], by simp [cn, rect, pt], by simp [cn, rect, pt], by simp [cn, rect, pt]⟩
theorem five_cn (x y w h a b c : Int) : cn (five x y w h a b c) 0 = (x, y) ∧ cn (five x y w h a b c) 1 = (x + w, y + a) ∧ cn (five x y w h a b c) 2 = (x + w + b, y + h + 1) ∧ cn (five x y w h a b c) 3 = (x - c, y + h) ∧ cn (five x y w h a b c) 4 = (x - 3, y + 1) ∧
    cn (five x y w h a b c) 5 = (x, y) ∧ cn (five x y w h a b c) 6 = (x + w, y + a) ∧ cn (five x y w h a b c) 7 = (x + w + b, y + h + 1) :=
  ⟨by simp [cn, five, four, pt], by simp [cn, five, four, pt], by simp [cn, five, four, pt], by simp [cn, five, four, pt], by simp [cn, five, four, pt], by simp [cn, five, four, pt], by simp [cn, five, four, pt], by simp [cn, five, four, pt]⟩

theorem rect_stone {x y w h a b c : Int} (D : Dims x y w h a b c) : stoneV (rect x y w h) = true := by
  have hN := near_rect D
  obtain ⟨d1, d2, d3, d4, d5, d6, d7, d8, d9, d10, d11, d12, d13, d14⟩ := D
  obtain ⟨c0, c1, c2, c3, c4, c5⟩ := rect_cn x y w h
  have hp : 0 < w * h := Int.mul_pos (by omega) (by omega)
  have hp2 : h * w = w * h := Int.mul_comm _ _
  have t0 : sid (x, y) (x + w, y) (x + w, y + h) = w * h := by
    rw [sid_is (by omega) (by omega) (by omega)]; grind
  have t1 : sid (x + w, y) (x + w, y + h) (x, y + h) = w * h := by
    rw [sid_is (by omega) (by omega) (by omega)]; grind
  have t2 : sid (x + w, y + h) (x, y + h) (x, y) = w * h := by
    rw [sid_is (by omega) (by omega) (by omega)]; grind
  have t3 : sid (x, y + h) (x, y) (x + w, y) = w * h := by
    rw [sid_is (by omega) (by omega) (by omega)]; grind
  have t4 : sid (x, y) (x + w, y + h) (x, y + h) = w * h := by
    rw [sid_is (by omega) (by omega) (by omega)]; grind
  unfold stoneV
  rw [sizeC_iff.2 (by unfold rect; simp), Bool.true_and]
  simp only [Bool.and_eq_true]
  refine ⟨⟨?_, ?_⟩, ?_⟩
  · unfold validC
    rw [allV_iff]
    intro i hi
    unfold okC
    rw [cn_lt hi, okP_iff]
    have := hN i hi
    omega
  · unfold turnsC
    rw [allV_iff]
    intro i hi
    unfold turnC
    apply decide_eq_true
    match i, hi with
    | 0, _ => rw [c0, c1, c2, t0]; exact hp
    | 1, _ => rw [c1, c2, c3, t1]; exact hp
    | 2, _ => rw [c2, c3, c4, t2]; exact hp
    | 3, _ => rw [c3, c4, c5, t3]; exact hp
  · unfold opensC
    rw [allV_iff]
    intro i hi
    unfold openC
    apply decide_eq_true
    match i, hi with
    | 0, _ => rw [c0, c1, sid_aab]; exact Int.le_refl _
    | 1, _ => rw [c0, c1, c2, t0]; omega
    | 2, _ => rw [c0, c2, c3, t4]; omega
    | 3, _ => rw [c0, c3, c4, sid_aba]; exact Int.le_refl _

theorem good_rect {x y w h a b c : Int} (D : Dims x y w h a b c) : Good (rect x y w h) := ⟨rect_stone D, round34 (rect_stone D) (.inr rfl), near_rect D⟩
theorem good_four {x y w h a b c : Int} (D : Dims x y w h a b c) (hs : stoneV (four x y w h a b c) = true) : Good (four x y w h a b c) := ⟨hs, round34 hs (.inr rfl), near_four D⟩
theorem good_three {x y w h a b c : Int} (D : Dims x y w h a b c) (hs : stoneV (three x y w h a b c) = true) : Good (three x y w h a b c) := ⟨hs, round34 hs (.inl rfl), near_three D⟩
theorem good_five {x y w h a b c : Int} (D : Dims x y w h a b c) (hs : stoneV (five x y w h a b c) = true) : Good (five x y w h a b c) := by
  refine ⟨hs, round5 hs rfl fun i hi => ?_, near_five D⟩
  obtain ⟨d1, d2, d3, d4, d5, d6, d7, d8, d9, d10, d11, d12, d13, d14⟩ := D
  obtain ⟨c0, c1, c2, c3, c4, c5, c6, c7⟩ := five_cn x y w h a b c
  match i, hi with
  | 0, _ =>
    rw [c0, c1, c3, sid_is (by omega) (by omega) (by omega)]
    have := Int.mul_nonneg (show 0 ≤ w by omega) (show 0 ≤ h by omega)
    have := Int.mul_nonneg (show 0 ≤ a by omega) (show 0 ≤ c by omega)
    have e : (x + w - x) * (y + h - y) - (y + a - y) * (x - c - x) = w * h + a * c := by grind
    omega
  | 1, _ =>
    rw [c1, c2, c4, sid_is (by omega) (by omega) (by omega)]
    have := Int.mul_nonneg (show 0 ≤ b by omega) (show 0 ≤ 1 - a by omega)
    have := Int.mul_nonneg (show 0 ≤ h + 1 - a by omega) (show 0 ≤ 3 + w by omega)
    have e : (x + w + b - (x + w)) * (y + 1 - (y + a)) - (y + h + 1 - (y + a)) * (x - 3 - (x + w)) = b * (1 - a) + (h + 1 - a) * (3 + w) := by grind
    omega
  | 2, _ =>
    rw [c2, c3, c5, sid_is (by omega) (by omega) (by omega)]
    have := Int.mul_nonneg (show 0 ≤ c by omega) (show 0 ≤ h + 1 by omega)
    have := Int.mul_nonneg (show 0 ≤ w + b by omega) (show 0 ≤ h by omega)
    have e : (x - c - (x + w + b)) * (y - (y + h + 1)) - (y + h - (y + h + 1)) * (x - (x + w + b)) = c * (h + 1) + (w + b) * h := by grind
    omega
  | 3, _ =>
    rw [c3, c4, c6, sid_is (by omega) (by omega) (by omega)]
    have := Int.mul_nonneg (show 0 ≤ 3 - c by omega) (show 0 ≤ h - a by omega)
    have := Int.mul_nonneg (show 0 ≤ h - 1 by omega) (show 0 ≤ w + c by omega)
    have e : (x - 3 - (x - c)) * (y + a - (y + h)) - (y + 1 - (y + h)) * (x + w - (x - c)) = (3 - c) * (h - a) + (h - 1) * (w + c) := by grind
    omega
  | 4, _ =>
    rw [c4, c5, c7, sid_is (by omega) (by omega) (by omega)]
    have e : (x - (x - 3)) * (y + h + 1 - (y + 1)) - (y - (y + 1)) * (x + w + b - (x - 3)) = 3 * h + (w + b + 3) := by grind
    omega
end Go.Proofs.Ytikdjcmdeapikaa
