/- Weights, plainly: the middle of weight lies strictly inside the box; the mirror image's sums. -/
import Derived.Test.YtikdjcmdeapikaaWeightG
namespace Go.Proofs.Ytikdjcmdeapikaa

theorem sumTo_nonneg (f : Nat → Int) (n : Nat) (h : ∀ i, i < n → 0 ≤ f i) : 0 ≤ sumTo f n := by
  induction n with
  | zero => exact Int.le_refl _
  | succ n ih =>
    have h1 := ih fun i hi => h i (by omega)
    have h2 := h n (by omega)
    show 0 ≤ sumTo f n + f n
    omega
theorem sumTo_pos (f : Nat → Int) (n j : Nat) (hj : j < n) (h : ∀ i, i < n → 0 ≤ f i) (hp : 0 < f j) : 0 < sumTo f n := by
  induction n with
  | zero => omega
  | succ n ih =>
    have h2 := h n (by omega)
    show 0 < sumTo f n + f n
    by_cases he : j < n
    · have := ih he fun i hi => h i (by omega)
      omega
    · obtain rfl : j = n := by omega
      have := sumTo_nonneg f j fun i hi => h i (by omega)
      omega

theorem tri_nonneg {cs : List (Int × Int)} (hr : Round cs) (i : Nat) : 0 ≤ tri cs i := by
  have := hr i 0
  unfold tri
  rwa [sid_turn]
theorem tri_one {cs : List (Int × Int)} (hs : stoneV cs = true) : 0 < tri cs 1 := stone_turn hs 0

/-- A stone has weight. -/
theorem area_pos {cs : List (Int × Int)} (hs : stoneV cs = true) (hr : Round cs) : 0 < areaV cs := by
  have h0 := stone_size hs
  rw [area_tri hs]
  exact sumTo_pos _ _ 1 (by omega) (fun i _ => tri_nonneg hr i) (tri_one hs)

/-- Three corners of a triangle with an area have not all one X, nor one Y. -/
theorem tri_wide {cs : List (Int × Int)} (hs : stoneV cs = true) (i : Nat) (hp : 0 < tri cs i) :
    ¬ ((cn cs 0).1 = (cn cs i).1 ∧ (cn cs i).1 = (cn cs (i + 1)).1) ∧ ¬ ((cn cs 0).2 = (cn cs i).2 ∧ (cn cs i).2 = (cn cs (i + 1)).2) := by
  rw [tri_is hs] at hp
  unfold crs at hp
  constructor
  · rintro ⟨h1, h2⟩
    rw [h1, h2] at hp
    have : (cn cs (i + 1)).1 * (cn cs i).2 - (cn cs 0).2 * (cn cs (i + 1)).1 + ((cn cs (i + 1)).1 * (cn cs (i + 1)).2 - (cn cs i).2 * (cn cs (i + 1)).1) + ((cn cs (i + 1)).1 * (cn cs 0).2 - (cn cs (i + 1)).2 * (cn cs (i + 1)).1) = 0 := by grind
    omega
  · rintro ⟨h1, h2⟩
    rw [h1, h2] at hp
    have : (cn cs 0).1 * (cn cs (i + 1)).2 - (cn cs (i + 1)).2 * (cn cs i).1 + ((cn cs i).1 * (cn cs (i + 1)).2 - (cn cs (i + 1)).2 * (cn cs (i + 1)).1) + ((cn cs (i + 1)).1 * (cn cs (i + 1)).2 - (cn cs (i + 1)).2 * (cn cs 0).1) = 0 := by grind
    omega

theorem box_cn {cs : List (Int × Int)} (hs : stoneV cs = true) (i : Nat) : (loX cs cs.length ≤ (cn cs i).1 ∧ (cn cs i).1 ≤ hiX cs cs.length) ∧ loY cs cs.length ≤ (cn cs i).2 ∧ (cn cs i).2 ≤ hiY cs cs.length := by
  have h0 := stone_size hs
  exact box_le cs cs.length (i % cs.length) (Nat.mod_lt _ (by omega))

/-- The middle of weight lies strictly inside the box. -/
theorem mom_inside {cs : List (Int × Int)} (hs : stoneV cs = true) (hr : Round cs) :
    (loX cs cs.length * weightV cs < momV cs ∧ momV cs < hiX cs cs.length * weightV cs) ∧ loY cs cs.length * weightV cs < heiV cs ∧ heiV cs < hiY cs cs.length * weightV cs := by
  have h0 := stone_size hs
  have key : ∀ (g : Nat → Int) (c : Int), (∀ i, i < cs.length → 0 ≤ (g i - 3 * c) * tri cs i) → 0 < (g 1 - 3 * c) * tri cs 1 → c * weightV cs < sumTo (fun i => g i * tri cs i) cs.length := fun g c h1 h2 => by
    have hp := sumTo_pos (fun i => (g i - 3 * c) * tri cs i) cs.length 1 (by omega) h1 h2
    have he : sumTo (fun i => (g i - 3 * c) * tri cs i) cs.length = sumTo (fun i => g i * tri cs i) cs.length + -(3 * c * sumTo (tri cs) cs.length) := by
      rw [← sumTo_mul, ← sumTo_neg, ← sumTo_add]
      exact sumTo_congr _ fun i _ => by rw [Int.sub_mul]; omega
    unfold weightV
    rw [area_tri hs]
    have : c * (3 * sumTo (tri cs) cs.length) = 3 * c * sumTo (tri cs) cs.length := by rw [← Int.mul_assoc, Int.mul_comm c 3]
    omega
  have key2 : ∀ (g : Nat → Int) (c : Int), (∀ i, i < cs.length → 0 ≤ (3 * c - g i) * tri cs i) → 0 < (3 * c - g 1) * tri cs 1 → sumTo (fun i => g i * tri cs i) cs.length < c * weightV cs := fun g c h1 h2 => by
    have := key (fun i => -g i) (-c) (fun i hi => by have := h1 i hi; rwa [show -g i - 3 * -c = 3 * c - g i by omega]) (by rwa [show -g 1 - 3 * -c = 3 * c - g 1 by omega])
    have he : sumTo (fun i => -g i * tri cs i) cs.length = -sumTo (fun i => g i * tri cs i) cs.length := by
      rw [← sumTo_neg]
      exact sumTo_congr _ fun i _ => by rw [Int.neg_mul]
    rw [he, Int.neg_mul] at this
    omega
  have b := box_cn hs
  have t := tri_nonneg hr
  have t1 := tri_one hs
  obtain ⟨w1, w2⟩ := tri_wide hs 1 t1
  have b0 := b 0
  have b1 := b 1
  have b2 := b 2
  rw [show 1 + 1 = 2 from rfl] at w1 w2
  rw [mom_tri hs, hei_tri hs]
  refine ⟨⟨key (fun i => (cn cs 0).1 + (cn cs i).1 + (cn cs (i + 1)).1) _ (fun i _ => ?_) ?_, key2 (fun i => (cn cs 0).1 + (cn cs i).1 + (cn cs (i + 1)).1) _ (fun i _ => ?_) ?_⟩, key (fun i => (cn cs 0).2 + (cn cs i).2 + (cn cs (i + 1)).2) _ (fun i _ => ?_) ?_, key2 (fun i => (cn cs 0).2 + (cn cs i).2 + (cn cs (i + 1)).2) _ (fun i _ => ?_) ?_⟩
  · have := b i; have := b (i + 1); exact Int.mul_nonneg (by omega) (t i)
  · exact Int.mul_pos (by rw [show 1 + 1 = 2 from rfl]; omega) t1
  · have := b i; have := b (i + 1); exact Int.mul_nonneg (by omega) (t i)
  · exact Int.mul_pos (by rw [show 1 + 1 = 2 from rfl]; omega) t1
  · have := b i; have := b (i + 1); exact Int.mul_nonneg (by omega) (t i)
  · exact Int.mul_pos (by rw [show 1 + 1 = 2 from rfl]; omega) t1
  · have := b i; have := b (i + 1); exact Int.mul_nonneg (by omega) (t i)
  · exact Int.mul_pos (by rw [show 1 + 1 = 2 from rfl]; omega) t1

/-- A sum over the mirror image's corners and next ones, told over the stone's own. -/
theorem sum_mir {cs : List (Int × Int)} (hs : stoneV cs = true) (x : Int) (F : Int × Int → Int × Int → Int) :
    sumTo (fun i => F (cn (mirL cs x) i) (cn (mirL cs x) (i + 1))) cs.length = sumTo (fun i => F (mirP x (cn cs (i + 1))) (mirP x (cn cs i))) cs.length := by
  have h0 := stone_size hs
  have hp : 0 < cs.length := by omega
  let G : Nat → Int := fun j => F (mirP x (cn cs (j + 1))) (mirP x (cn cs j))
  have hG : G cs.length = G 0 := by
    show F (mirP x (cn cs (cs.length + 1))) (mirP x (cn cs cs.length)) = F (mirP x (cn cs (0 + 1))) (mirP x (cn cs 0))
    have e1 : cn cs (cs.length + 1) = cn cs (0 + 1) := by rw [Nat.add_comm, cn_add]
    rw [e1, cn_len]
  have h1 : ∀ i, i < cs.length → F (cn (mirL cs x) i) (cn (mirL cs x) (i + 1)) = G (cs.length - 1 - i + (cs.length - 1)) := fun i hi => by
    show _ = F (mirP x (cn cs (cs.length - 1 - i + (cs.length - 1) + 1))) (mirP x (cn cs (cs.length - 1 - i + (cs.length - 1))))
    rw [mirL_cn cs x i (cs.length - 1 - i + (cs.length - 1) + 1) hp (by rw [show i + (cs.length - 1 - i + (cs.length - 1) + 1) + 1 = cs.length + cs.length by omega, Nat.add_mod_right, Nat.mod_self]),
      mirL_cn cs x (i + 1) (cs.length - 1 - i + (cs.length - 1)) hp (by rw [show i + 1 + (cs.length - 1 - i + (cs.length - 1)) + 1 = cs.length + cs.length by omega, Nat.add_mod_right, Nat.mod_self])]
  rw [sumTo_congr _ h1, sumTo_rev (fun j => G (j + (cs.length - 1))) cs.length]
  have hper : ∀ j, G (j + cs.length) = G j := fun j => by
    show F (mirP x (cn cs (j + cs.length + 1))) (mirP x (cn cs (j + cs.length))) = F (mirP x (cn cs (j + 1))) (mirP x (cn cs j))
    rw [show j + cs.length + 1 = j + 1 + cs.length by omega, cn_add, cn_add]
  have h2 := sumTo_shift (f := fun j => G (j + (cs.length - 1))) (n := cs.length) (by show G (cs.length + (cs.length - 1)) = G (0 + (cs.length - 1)); rw [Nat.add_comm, hper, Nat.zero_add])
  rw [← h2]
  exact sumTo_congr _ fun i _ => by show G (i + 1 + (cs.length - 1)) = G i; rw [show i + 1 + (cs.length - 1) = i + cs.length by omega, hper]

theorem crs_mir {cs : List (Int × Int)} (hs : stoneV cs = true) {x : Int} (hx : inP x = true) (i j : Nat) :
    crs (mirP x (cn cs j)) (mirP x (cn cs i)) = crs (cn cs i) (cn cs j) + 2 * x * ((cn cs i).2 - (cn cs j).2) := by
  unfold crs mirP
  simp only
  rw [mirX_yes (cn_ok hs i) hx, mirX_yes (cn_ok hs j) hx]
  grind

/-- The mirror image weighs the same, its moments are the mirrored ones. -/
theorem weigh_mir {cs : List (Int × Int)} (hs : stoneV cs = true) {x : Int} (hm : stoneV (mirL cs x) = true) (hx : inP x = true) :
    weightV (mirL cs x) = weightV cs ∧ momV (mirL cs x) = 2 * x * weightV cs - momV cs ∧ heiV (mirL cs x) = heiV cs := by
  have hl := mirL_length cs x
  have tel : ∀ f : Nat → Int, f cs.length = f 0 → sumTo (fun i => f i - f (i + 1)) cs.length = 0 := fun f hf => sumTo_tele hf
  have hy := tel (fun i => (cn cs i).2) (by rw [cn_len])
  have hyy := tel (fun i => (cn cs i).2 * (cn cs i).2) (by rw [cn_len])
  have hxy := tel (fun i => (cn cs i).1 * (cn cs i).2) (by rw [cn_len])
  have a1 : areaV (mirL cs x) = areaV cs := by
    unfold areaV
    rw [if_pos hm, if_pos hs, hl]
    show sumTo (fun i => crs (cn (mirL cs x) i) (cn (mirL cs x) (i + 1))) cs.length = _
    rw [sum_mir hs x crs]
    have : sumTo (fun i => crs (mirP x (cn cs (i + 1))) (mirP x (cn cs i))) cs.length = sumTo (fun i => arC cs i + 2 * x * ((cn cs i).2 - (cn cs (i + 1)).2)) cs.length :=
      sumTo_congr _ fun i _ => crs_mir hs hx i (i + 1)
    rw [this, sumTo_add, sumTo_mul, hy]
    show sumTo (arC cs) cs.length + 2 * x * 0 = _
    omega
  refine ⟨by unfold weightV; rw [a1], ?_, ?_⟩
  · unfold weightV areaV momV
    rw [if_pos hm, if_pos hs, if_pos hs, hl]
    show sumTo (fun i => ((cn (mirL cs x) i).1 + (cn (mirL cs x) (i + 1)).1) * crs (cn (mirL cs x) i) (cn (mirL cs x) (i + 1))) cs.length = _
    rw [sum_mir hs x (fun a b => (a.1 + b.1) * crs a b)]
    have : sumTo (fun i => ((mirP x (cn cs (i + 1))).1 + (mirP x (cn cs i)).1) * crs (mirP x (cn cs (i + 1))) (mirP x (cn cs i))) cs.length =
        sumTo (fun i => (6 * x * arC cs i + -moC cs i) + (8 * x * x * ((cn cs i).2 - (cn cs (i + 1)).2) + -(2 * x * ((cn cs i).1 * (cn cs i).2 - (cn cs (i + 1)).1 * (cn cs (i + 1)).2)))) cs.length := by
      refine sumTo_congr _ fun i _ => ?_
      rw [crs_mir hs hx i (i + 1)]
      unfold arC moC crs mirP
      simp only
      rw [mirX_yes (cn_ok hs i) hx, mirX_yes (cn_ok hs (i + 1)) hx]
      grind
    rw [this, sumTo_add, sumTo_add, sumTo_add, sumTo_mul, sumTo_neg, sumTo_mul, sumTo_neg, sumTo_mul, hy, hxy]
    show 6 * x * sumTo (arC cs) cs.length + -sumTo (moC cs) cs.length + (8 * x * x * 0 + -(2 * x * 0)) = 2 * x * (3 * sumTo (arC cs) cs.length) - sumTo (moC cs) cs.length
    grind
  · unfold heiV
    rw [if_pos hm, if_pos hs, hl]
    show sumTo (fun i => ((cn (mirL cs x) i).2 + (cn (mirL cs x) (i + 1)).2) * crs (cn (mirL cs x) i) (cn (mirL cs x) (i + 1))) cs.length = _
    rw [sum_mir hs x (fun a b => (a.2 + b.2) * crs a b)]
    have : sumTo (fun i => ((mirP x (cn cs (i + 1))).2 + (mirP x (cn cs i)).2) * crs (mirP x (cn cs (i + 1))) (mirP x (cn cs i))) cs.length =
        sumTo (fun i => heC cs i + 2 * x * ((cn cs i).2 * (cn cs i).2 - (cn cs (i + 1)).2 * (cn cs (i + 1)).2)) cs.length := by
      refine sumTo_congr _ fun i _ => ?_
      rw [crs_mir hs hx i (i + 1)]
      unfold heC crs mirP
      simp only
      grind
    rw [this, sumTo_add, sumTo_mul, hyy]
    show sumTo (heC cs) cs.length + 2 * x * 0 = _
    omega
end Go.Proofs.Ytikdjcmdeapikaa
