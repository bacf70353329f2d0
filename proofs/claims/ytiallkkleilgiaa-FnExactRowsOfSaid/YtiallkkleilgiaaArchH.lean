/- Arches, plainly: what follows for an arch and for its mirror image at 0. -/
import Derived.Test.YtiallkkleilgiaaArchQ
import Derived.Test.YtiallkkleilgiaaWeightP
namespace Go.Proofs.Ytiallkkleilgiaa
set_option maxRecDepth 100000

theorem mirJ_zero {j : Jt} (h1 : okP j.1.1 j.1.2 = true) (h2 : okP j.2.1 j.2.2 = true) : mirJ 0 j = ((-j.1.1, j.1.2), (-j.2.1, j.2.2)) := by
  unfold mirJ
  rw [mirX_yes h1 (inP_iff.2 (by omega)), mirX_yes h2 (inP_iff.2 (by omega))]
  refine Prod.ext (Prod.ext ?_ rfl) (Prod.ext ?_ rfl) <;> simp
/-- A joint of the mirror image. -/
theorem mir_jt {js : List Jt} (h : archV js = true) {i : Nat} (hi : i < js.length) : jt (mirJs js 0) i = ((-(jt js (js.length - 1 - i)).1.1, (jt js (js.length - 1 - i)).1.2), (-(jt js (js.length - 1 - i)).2.1, (jt js (js.length - 1 - i)).2.2)) := by
  have ho := arch_ok h (i := js.length - 1 - i) (by omega)
  rw [mirJs_at js 0 i hi, mirJ_zero ho.1 ho.2]
theorem jts_ext {a b : List Jt} (hl : a.length = b.length) (h : ∀ i, i < a.length → jt a i = jt b i) : a = b := by
  refine List.ext_getElem hl fun i h1 h2 => ?_
  have := h i h1
  rwa [jt_get h1, jt_get h2] at this
/-- The mirror image's mirror image. -/
theorem mir_twice {js : List Jt} (h : archV js = true) (hm : archV (mirJs js 0) = true) : mirJs (mirJs js 0) 0 = js := by
  have hl := mirJs_length js 0
  refine jts_ext (by rw [mirJs_length, hl]) fun i hi => ?_
  rw [mirJs_length, hl] at hi
  rw [mir_jt hm (by rw [hl]; exact hi), hl, mir_jt h (by omega), show js.length - 1 - (js.length - 1 - i) = i by omega]
  refine Prod.ext (Prod.ext ?_ rfl) (Prod.ext ?_ rfl) <;> simp
theorem mirOk_twice {js : List Jt} (h : mirOk js 0 = true) : mirOk (mirJs js 0) 0 = true ∧ mirAV (mirJs js 0) 0 = js := by
  have hh := mirOk_iff.1 h
  have ht := mir_twice hh.1 hh.2
  have ho : mirOk (mirJs js 0) 0 = true := mirOk_iff.2 ⟨hh.2, by rw [ht]; exact hh.1⟩
  exact ⟨ho, by rw [mirAV_yes ho, ht]⟩

theorem grow_le {js : List Jt} (h : archV js = true) (i k : Nat) (hk : i + k < js.length) : (jt js i).1.1 + k ≤ (jt js (i + k)).1.1 := by
  induction k with
  | zero => simp
  | succ k ih =>
    have h1 := ih (by omega)
    have h2 := arch_grow h (i := i + k) (by omega)
    rw [show i + (k + 1) = i + k + 1 by omega]
    omega
theorem span_pos {js : List Jt} (h : archV js = true) : 0 < spanV js ∧ spanV js ≤ 120 := by
  have h3 := arch_size h
  have h1 := grow_le h 0 (js.length - 1) (by omega)
  rw [Nat.zero_add] at h1
  have o0 := okP_iff.1 (arch_ok h (i := 0) (by omega)).1
  have o1 := okP_iff.1 (arch_ok h (i := js.length - 1) (by omega)).1
  rw [spanV_yes h]
  omega
theorem topY_le (js : List Jt) (k i : Nat) (h : i < k) : (jt js i).1.2 ≤ topY js k := by
  induction k with
  | zero => omega
  | succ k ih =>
    unfold topY
    by_cases hik : i < k
    · have := ih hik; omega
    · obtain rfl : i = k := by omega
      omega
theorem topY_mem (js : List Jt) (k : Nat) (hl : 0 < js.length) (hk : k ≤ js.length) : ∃ i, i < js.length ∧ topY js k = (jt js i).1.2 := by
  induction k with
  | zero => exact ⟨0, hl, rfl⟩
  | succ k ih =>
    obtain ⟨i, hi, he⟩ := ih (by omega)
    unfold topY
    by_cases hlt : topY js k ≤ (jt js k).1.2
    · exact ⟨k, by omega, by omega⟩
    · exact ⟨i, hi, by omega⟩
theorem rise_nonneg {js : List Jt} (h : archV js = true) : 0 ≤ riseV js ∧ riseV js ≤ 120 := by
  have h3 := arch_size h
  have ht := topY_bd h js.length (Nat.le_refl _)
  have hg := topY_ge js js.length
  have o0 := okP_iff.1 (arch_ok h (i := 0) (by omega)).1
  have o1 := okP_iff.1 (arch_ok h (i := js.length - 1) (by omega)).1
  rw [riseV_yes h]
  omega
theorem span_mir {js : List Jt} (h : archV js = true) (hm : archV (mirJs js 0) = true) : spanV (mirJs js 0) = spanV js := by
  have h3 := arch_size h
  rw [spanV_yes hm, spanV_yes h, mirJs_length, mir_jt h (i := js.length - 1) (by omega), mir_jt h (i := 0) (by omega), show js.length - 1 - (js.length - 1) = 0 by omega, show js.length - 1 - 0 = js.length - 1 by omega]
  simp only
  omega
theorem top_mir {js : List Jt} (h : archV js = true) : topY (mirJs js 0) js.length = topY js js.length := by
  have h3 := arch_size h
  have hl := mirJs_length js 0
  obtain ⟨i, hi, ei⟩ := topY_mem js js.length (by omega) (Nat.le_refl _)
  obtain ⟨j, hj, ej⟩ := topY_mem (mirJs js 0) js.length (by omega) (by omega)
  rw [hl] at hj
  have a1 := topY_le (mirJs js 0) js.length (js.length - 1 - i) (by omega)
  have a2 := topY_le js js.length (js.length - 1 - j) (by omega)
  rw [mir_jt h (by omega), show js.length - 1 - (js.length - 1 - i) = i by omega] at a1
  rw [mir_jt h hj] at ej
  simp only at a1 ej
  omega
theorem rise_mir {js : List Jt} (h : archV js = true) (hm : archV (mirJs js 0) = true) : riseV (mirJs js 0) = riseV js := by
  have h3 := arch_size h
  rw [riseV_yes hm, riseV_yes h, mirJs_length, top_mir h, mir_jt h (i := js.length - 1) (by omega), mir_jt h (i := 0) (by omega), show js.length - 1 - (js.length - 1) = 0 by omega, show js.length - 1 - 0 = js.length - 1 by omega]
  simp only
  omega

/-- The weight of the stone behind joint k. -/
def wK (js : List Jt) (k : Nat) : Int := weightV (betw (jt js k) (jt js (k + 1)))
def mK (js : List Jt) (k : Nat) : Int := momV (betw (jt js k) (jt js (k + 1)))
theorem wK_bd (js : List Jt) (k : Nat) (n : Nat) (h : n ≤ 8) : (-129600 ≤ wK js k ∧ wK js k ≤ 129600) ∧ -1036800 ≤ sumTo (wK js) n ∧ sumTo (wK js) n ≤ 1036800 := by
  have h1 := sumTo_bd (wK js) 129600 n fun i _ => weightV_bd _
  exact ⟨weightV_bd _, by omega, by omega⟩
theorem mK_bd (js : List Jt) (k : Nat) (n : Nat) (h : n ≤ 8) : (-5184000 ≤ mK js k ∧ mK js k ≤ 5184000) ∧ -41472000 ≤ sumTo (mK js) n ∧ sumTo (mK js) n ≤ 41472000 := by
  have h1 := sumTo_bd (mK js) 5184000 n fun i _ => momV_bd _
  exact ⟨momV_bd _, by omega, by omega⟩
theorem area_four (a b : Jt) (h : stoneV (betw a b) = true) : areaV (betw a b) = crs a.1 b.1 + crs b.1 b.2 + crs b.2 a.2 + crs a.2 a.1 := by
  unfold areaV
  rw [if_pos h, betw_length]
  obtain ⟨c0, c1, c2, c3, c4, c5⟩ := betw_cn a b
  show 0 + arC (betw a b) 0 + arC (betw a b) 1 + arC (betw a b) 2 + arC (betw a b) 3 = _
  unfold arC
  rw [show 0 + 1 = 1 from rfl, show 1 + 1 = 2 from rfl, show 2 + 1 = 3 from rfl, show 3 + 1 = 4 from rfl, c0, c1, c2, c3, c4]
  omega
theorem weight_mir (ax ay bx by_ cx cy dx dy : Int) (h : stoneV (betw ((ax, ay), (bx, by_)) ((cx, cy), (dx, dy))) = true) (hm : stoneV (betw ((-cx, cy), (-dx, dy)) ((-ax, ay), (-bx, by_))) = true) :
    weightV (betw ((-cx, cy), (-dx, dy)) ((-ax, ay), (-bx, by_))) = weightV (betw ((ax, ay), (bx, by_)) ((cx, cy), (dx, dy))) := by
  unfold weightV
  rw [area_four _ _ h, area_four _ _ hm]
  unfold crs
  simp only
  grind
/-- The mirror image's stones weigh the same, in reverse order. -/
theorem wK_mir {js : List Jt} (h : archV js = true) (hm : archV (mirJs js 0) = true) {k : Nat} (hk : k + 1 < js.length) : wK (mirJs js 0) (js.length - 2 - k) = wK js k := by
  have h3 := arch_size h
  have hl := mirJs_length js 0
  have s1 := arch_bet h hk
  have s2 := arch_bet hm (i := js.length - 2 - k) (by omega)
  unfold wK
  rw [mir_jt h (i := js.length - 2 - k) (by omega), mir_jt h (i := js.length - 2 - k + 1) (by omega), show js.length - 1 - (js.length - 2 - k) = k + 1 by omega, show js.length - 1 - (js.length - 2 - k + 1) = k by omega] at s2 ⊢
  obtain ⟨⟨⟨ax, ay⟩, ⟨bx, by_⟩⟩, ea⟩ : ∃ p, jt js k = p := ⟨_, rfl⟩
  obtain ⟨⟨⟨cx, cy⟩, ⟨dx, dy⟩⟩, ec⟩ : ∃ p, jt js (k + 1) = p := ⟨_, rfl⟩
  rw [ea, ec] at s1 s2 ⊢
  exact weight_mir ax ay bx by_ cx cy dx dy s1 s2
theorem sum_wK_mir {js : List Jt} (h : archV js = true) (hm : archV (mirJs js 0) = true) : sumTo (wK (mirJs js 0)) (js.length - 1) = sumTo (wK js) (js.length - 1) := by
  have h3 := arch_size h
  rw [← sumTo_rev (wK (mirJs js 0)) (js.length - 1)]
  refine sumTo_congr _ fun i hi => ?_
  rw [show js.length - 1 - 1 - i = js.length - 2 - i by omega]
  exact wK_mir h hm (by omega)
end Go.Proofs.Ytiallkkleilgiaa
