/- Stones, plainly: what follows for a stone all of whose corners lie on the left of all its edges: its mirror image, its widest, its box. -/
import Derived.Test.YtikdjcmdeapikaaStoneW
import Derived.Test.YtikdjcmdeapikaaStoneB
import Derived.Test.YtikdjcmdeapikaaStoneM
import Derived.Test.YtikdjcmdeapikaaPtQ
namespace Go.Proofs.Ytikdjcmdeapikaa

theorem cn_mod (cs : List (Int × Int)) (i : Nat) : cn cs (i % cs.length) = cn cs i := by unfold cn; rw [Nat.mod_mod]
theorem cn_add (cs : List (Int × Int)) (i : Nat) : cn cs (i + cs.length) = cn cs i := by unfold cn; rw [Nat.add_mod_right]

/-- Every corner is on the left of every edge, or on it. -/
def Round (cs : List (Int × Int)) : Prop := ∀ i k, 0 ≤ sid (cn cs i) (cn cs (i + 1)) (cn cs k)
/-- Corners near the middle. -/
def Near (cs : List (Int × Int)) : Prop := ∀ i, i < cs.length → (-30 ≤ (pt cs i).1 ∧ (pt cs i).1 ≤ 30) ∧ -30 ≤ (pt cs i).2 ∧ (pt cs i).2 ≤ 30

theorem sid_turn (a b c : Int × Int) : sid a b c = sid b c a := by
  unfold sid sideV side
  cases okP a.1 a.2 <;> cases okP b.1 b.2 <;> cases okP c.1 c.2 <;> simp
  grind
theorem sid_aab (a b : Int × Int) : sid a a b = 0 := by
  unfold sid sideV side
  split
  · grind
  · rfl
theorem sid_abb (a b : Int × Int) : sid a b b = 0 := by
  unfold sid sideV side
  split
  · grind
  · rfl

/-- Mirrored, in reverse order: the same side. -/
theorem sid_mir (x : Int) (a b c : Int × Int) (hx : inP x = true) (ha : okP a.1 a.2 = true) (hb : okP b.1 b.2 = true) (hc : okP c.1 c.2 = true)
    (ha' : okP (mirP x a).1 (mirP x a).2 = true) (hb' : okP (mirP x b).1 (mirP x b).2 = true) (hc' : okP (mirP x c).1 (mirP x c).2 = true) : sid (mirP x c) (mirP x b) (mirP x a) = sid a b c := by
  unfold sid
  rw [sideV_yes hc' hb' ha', sideV_yes ha hb hc]
  unfold mirP
  simp only
  rw [mirX_yes ha hx, mirX_yes hb hx, mirX_yes hc hx]
  grind
theorem sqp_mir (x : Int) (a b : Int × Int) (hx : inP x = true) (ha : okP a.1 a.2 = true) (hb : okP b.1 b.2 = true)
    (ha' : okP (mirP x a).1 (mirP x a).2 = true) (hb' : okP (mirP x b).1 (mirP x b).2 = true) : sqp (mirP x a) (mirP x b) = sqp a b := by
  unfold sqp
  rw [sqV_yes ha' hb', sqV_yes ha hb]
  unfold mirP
  simp only
  rw [mirX_yes ha hx, mirX_yes hb hx]
  grind

theorem mirL_pt (cs : List (Int × Int)) (x : Int) (i : Nat) (h : i < cs.length) : pt (mirL cs x) i = mirP x (pt cs (cs.length - 1 - i)) := by
  have h2 : cs.length - 1 - i < cs.length := by omega
  unfold pt mirL
  rw [List.getD_eq_getElem?_getD, List.getElem?_reverse (by simpa using h), List.getElem?_map, List.length_map, List.getD_eq_getElem?_getD, List.getElem?_eq_getElem h2]
  rfl
theorem mirL_cn (cs : List (Int × Int)) (x : Int) (i j : Nat) (h0 : 0 < cs.length) (hij : (i + j + 1) % cs.length = 0) : cn (mirL cs x) i = mirP x (cn cs j) := by
  unfold cn
  rw [mirL_length, mirL_pt cs x _ (Nat.mod_lt _ h0)]
  congr 2
  have h1 := Nat.mod_lt i h0
  have h2 := Nat.mod_lt j h0
  have h3 : (i % cs.length + j % cs.length + 1) % cs.length = 0 := by
    rw [← hij]; simp [Nat.add_mod]
  have h4 : i % cs.length + j % cs.length + 1 < 2 * cs.length := by omega
  have h5 : i % cs.length + j % cs.length + 1 = cs.length := by
    obtain ⟨q, hq⟩ := Nat.dvd_of_mod_eq_zero h3
    have : q = 1 := by
      rcases q with _ | _ | q
      · omega
      · rfl
      · exfalso
        rw [Nat.mul_add, Nat.mul_add] at hq
        generalize cs.length * q = z at hq
        omega
    subst this
    omega
  omega

theorem near_mir {cs : List (Int × Int)} (hn : Near cs) {x : Int} (hx : -4 ≤ x ∧ x ≤ 4) (hs : stoneV cs = true) (i : Nat) : okP (mirP x (cn cs i)).1 (mirP x (cn cs i)).2 = true := by
  have h0 := stone_size hs
  have hlt : i % cs.length < cs.length := Nat.mod_lt _ (by omega)
  have h1 := hn _ hlt
  have h2 := stone_valid hs _ hlt
  unfold mirP cn
  rw [mirX_yes h2 (inP_iff.2 (by omega)), okP_iff]
  simp only
  omega
theorem stone_turn {cs : List (Int × Int)} (hs : stoneV cs = true) (i : Nat) : 0 < sid (cn cs i) (cn cs (i + 1)) (cn cs (i + 2)) := by
  have h0 := stone_size hs
  unfold stoneV turnsC at hs
  simp only [Bool.and_eq_true] at hs
  have := allV_iff.1 hs.2.1.2 (i % cs.length) (Nat.mod_lt _ (by omega))
  unfold turnC at this
  have e1 : cn cs (i % cs.length + 1) = cn cs (i + 1) := by unfold cn; rw [Nat.mod_add_mod]
  have e2 : cn cs (i % cs.length + 2) = cn cs (i + 2) := by unfold cn; rw [Nat.mod_add_mod]
  rw [cn_mod, e1, e2] at this
  simpa using this

/-- The mirror image of such a stone is a stone. -/
theorem mir_stone {cs : List (Int × Int)} (hs : stoneV cs = true) (hr : Round cs) (hn : Near cs) {x : Int} (hx : -4 ≤ x ∧ x ≤ 4) : stoneV (mirL cs x) = true := by
  have h0 := stone_size hs
  have hp : 0 < cs.length := by omega
  have hxp : inP x = true := inP_iff.2 (by omega)
  have hj : ∀ i, ∃ j, (i + j + 1) % cs.length = 0 := fun i => ⟨cs.length - 1 - i % cs.length, by
    have h1 := Nat.mod_lt i hp
    have h2 : (i + (cs.length - 1 - i % cs.length) + 1) % cs.length = (i % cs.length + (cs.length - 1 - i % cs.length) + 1) % cs.length := by simp [Nat.add_mod]
    rw [h2, show i % cs.length + (cs.length - 1 - i % cs.length) + 1 = cs.length by omega, Nat.mod_self]⟩
  unfold stoneV
  rw [sizeC_iff.2 (by rw [mirL_length]; exact h0), Bool.true_and]
  simp only [Bool.and_eq_true]
  refine ⟨⟨?_, ?_⟩, ?_⟩
  · unfold validC
    rw [allV_iff]
    intro i _
    obtain ⟨j, hj⟩ := hj i
    unfold okC
    rw [mirL_cn cs x i j hp hj]
    exact near_mir hn hx hs j
  · unfold turnsC
    rw [allV_iff]
    intro i _
    obtain ⟨j, hj⟩ := hj (i + 2)
    unfold turnC
    rw [mirL_cn cs x (i + 2) j hp hj, mirL_cn cs x (i + 1) (j + 1) hp (by rw [← hj]; congr 1; omega), mirL_cn cs x i (j + 2) hp (by rw [← hj]; congr 1; omega)]
    rw [sid_mir x _ _ _ hxp (cn_ok hs _) (cn_ok hs _) (cn_ok hs _) (near_mir hn hx hs _) (near_mir hn hx hs _) (near_mir hn hx hs _)]
    exact decide_eq_true (stone_turn hs j)
  · unfold opensC
    rw [allV_iff]
    intro i _
    obtain ⟨j, hj1⟩ := hj (i + 1)
    obtain ⟨q, hq⟩ := hj 0
    unfold openC
    rw [mirL_cn cs x (i + 1) j hp hj1, mirL_cn cs x i (j + 1) hp (by rw [← hj1]; congr 1; omega), mirL_cn cs x 0 q hp hq]
    rw [sid_mir x _ _ _ hxp (cn_ok hs _) (cn_ok hs _) (cn_ok hs _) (near_mir hn hx hs _) (near_mir hn hx hs _) (near_mir hn hx hs _)]
    exact decide_eq_true (hr j q)

theorem pt_cn {cs : List (Int × Int)} {i : Nat} (h : i < cs.length) : pt cs i = cn cs i := (cn_lt h).symm
theorem mir_back {cs : List (Int × Int)} (hs : stoneV cs = true) (hn : Near cs) {x : Int} (hx : -4 ≤ x ∧ x ≤ 4) : mirL (mirL cs x) x = cs := by
  have hxp : inP x = true := inP_iff.2 (by omega)
  unfold mirL
  rw [List.map_reverse, List.reverse_reverse, List.map_map]
  have : ∀ p ∈ cs, (mirP x ∘ mirP x) p = p := fun p hp => by
    obtain ⟨i, hi, rfl⟩ := List.getElem_of_mem hp
    have h1 := cn_ok hs i
    have h2 := near_mir hn hx hs i
    rw [← pt_cn hi, pt_get hi] at h1 h2
    show (mirX (mirX cs[i].1 cs[i].2 x) cs[i].2 x, cs[i].2) = cs[i]
    have h3 : okP (mirX cs[i].1 cs[i].2 x) cs[i].2 = true := h2
    rw [mirX_yes h3 hxp, mirX_yes h1 hxp]
    ext
    · show 2 * x - (2 * x - cs[i].1) = cs[i].1
      omega
    · rfl
  exact (List.map_congr_left (g := id) this).trans (List.map_id cs)

theorem widIn_ge (cs : List (Int × Int)) (k : Nat) (m : Int) (i : Nat) : m ≤ widIn cs k i m ∧ ∀ j, j < i → sqp (pt cs j) (pt cs k) ≤ widIn cs k i m := by
  induction i with
  | zero => exact ⟨Int.le_refl _, fun j h => absurd h (Nat.not_lt_zero j)⟩
  | succ i ih =>
    obtain ⟨h1, h2⟩ := ih
    show m ≤ max _ _ ∧ ∀ j, j < i + 1 → _ ≤ max _ _
    refine ⟨by omega, fun j hj => ?_⟩
    by_cases he : j < i
    · have := h2 j he; omega
    · obtain rfl : j = i := by omega
      omega
theorem widTo_ge (cs : List (Int × Int)) (K : Nat) : 0 ≤ widTo cs K ∧ ∀ k, k < K → ∀ j, j < k → sqp (pt cs j) (pt cs k) ≤ widTo cs K := by
  induction K with
  | zero => exact ⟨Int.le_refl _, fun k h => absurd h (Nat.not_lt_zero k)⟩
  | succ K ih =>
    obtain ⟨h1, h2⟩ := ih
    have h3 := widIn_ge cs K (widTo cs K) K
    show 0 ≤ widIn cs K K (widTo cs K) ∧ _
    refine ⟨by omega, fun k hk j hj => ?_⟩
    show _ ≤ widIn cs K K (widTo cs K)
    by_cases he : k < K
    · have := h2 k he j hj; omega
    · obtain rfl : k = K := by omega
      exact h3.2 j hj
theorem widIn_le (cs : List (Int × Int)) (k : Nat) (m W : Int) (i : Nat) (hm : m ≤ W) (h : ∀ j, j < i → sqp (pt cs j) (pt cs k) ≤ W) : widIn cs k i m ≤ W := by
  induction i with
  | zero => exact hm
  | succ i ih =>
    have h1 := ih fun j hj => h j (by omega)
    have h2 := h i (by omega)
    show max _ _ ≤ W
    omega
theorem widTo_le (cs : List (Int × Int)) (W : Int) (K : Nat) (hW : 0 ≤ W) (h : ∀ k, k < K → ∀ j, j < k → sqp (pt cs j) (pt cs k) ≤ W) : widTo cs K ≤ W := by
  induction K with
  | zero => exact hW
  | succ K ih => exact widIn_le cs K _ W K (ih fun k hk j hj => h k (by omega) j hj) fun j hj => h K (by omega) j hj

theorem wid_mir {cs : List (Int × Int)} (hs : stoneV cs = true) (hn : Near cs) {x : Int} (hx : -4 ≤ x ∧ x ≤ 4) : widTo (mirL cs x) (mirL cs x).length = widTo cs cs.length := by
  have h0 := stone_size hs
  have hxp : inP x = true := inP_iff.2 (by omega)
  have key : ∀ i k, i < cs.length → k < cs.length → sqp (pt (mirL cs x) i) (pt (mirL cs x) k) = sqp (pt cs (cs.length - 1 - i)) (pt cs (cs.length - 1 - k)) := fun i k hi hk => by
    rw [mirL_pt cs x i hi, mirL_pt cs x k hk, pt_cn (show cs.length - 1 - i < cs.length by omega), pt_cn (show cs.length - 1 - k < cs.length by omega)]
    exact sqp_mir x _ _ hxp (cn_ok hs _) (cn_ok hs _) (near_mir hn hx hs _) (near_mir hn hx hs _)
  rw [mirL_length]
  obtain ⟨g1, g2⟩ := widTo_ge cs cs.length
  obtain ⟨g3, g4⟩ := widTo_ge (mirL cs x) cs.length
  refine Int.le_antisymm (widTo_le _ _ _ g1 fun k hk j hj => ?_) (widTo_le _ _ _ g3 fun k hk j hj => ?_)
  · rw [key j k (by omega) hk, sqp_comm]
    exact g2 _ (by omega) _ (by omega)
  · have := g4 (cs.length - 1 - j) (by omega) (cs.length - 1 - k) (by omega)
    rw [key _ _ (by omega) (by omega), show cs.length - 1 - (cs.length - 1 - j) = j by omega, show cs.length - 1 - (cs.length - 1 - k) = k by omega, sqp_comm] at this
    exact this

theorem wid_pos {cs : List (Int × Int)} (hs : stoneV cs = true) : 0 < widTo cs cs.length := by
  have h0 := stone_size hs
  obtain ⟨-, g2⟩ := widTo_ge cs cs.length
  have h1 := g2 1 (by omega) 0 (by omega)
  rw [pt_cn (show 0 < cs.length by omega), pt_cn (show 1 < cs.length by omega)] at h1
  have ht := stone_turn hs 0
  have ha := cn_ok hs 0
  have hb := cn_ok hs 1
  have hv : sqp (cn cs 0) (cn cs 1) = _ := sqV_yes ha hb
  have hq := sq_bds ha hb
  by_cases hz : sqp (cn cs 0) (cn cs 1) = 0
  · rw [hv] at hz
    obtain ⟨e1, e2⟩ := sq_zero hz
    have : cn cs 0 = cn cs 1 := Prod.ext (by omega) (by omega)
    rw [show 0 + 1 = 1 from rfl, this, sid_aab] at ht
    omega
  · rw [hv] at hz h1
    omega

theorem in_corner {cs : List (Int × Int)} (hs : stoneV cs = true) (hr : Round cs) (k : Nat) (hk : k < cs.length) : inV cs (pt cs k) = true := by
  unfold inV
  rw [hs, stone_valid hs k hk, Bool.true_and, Bool.true_and, allV_iff]
  intro i _
  rw [pt_cn hk]
  exact decide_eq_true (hr i k)

theorem box_le (cs : List (Int × Int)) (K : Nat) : ∀ k, k < K → (loX cs K ≤ (pt cs k).1 ∧ (pt cs k).1 ≤ hiX cs K) ∧ loY cs K ≤ (pt cs k).2 ∧ (pt cs k).2 ≤ hiY cs K := by
  induction K with
  | zero => exact fun k h => absurd h (Nat.not_lt_zero k)
  | succ K ih =>
    intro k hk
    show (min _ _ ≤ _ ∧ _ ≤ max _ _) ∧ min _ _ ≤ _ ∧ _ ≤ max _ _
    by_cases he : k < K
    · have := ih k he; omega
    · obtain rfl : k = K := by omega
      omega
theorem hiX_at (cs : List (Int × Int)) (K : Nat) : ∃ j, (j < K ∨ j = 0) ∧ hiX cs K = (pt cs j).1 := by
  induction K with
  | zero => exact ⟨0, .inr rfl, rfl⟩
  | succ K ih =>
    obtain ⟨j, hj, he⟩ := ih
    by_cases h : hiX cs K ≤ (pt cs K).1
    · refine ⟨K, .inl (by omega), ?_⟩
      show max _ _ = _
      omega
    · refine ⟨j, by omega, ?_⟩
      show max _ _ = _
      omega

/-- A point on the right of all corners is not inside. -/
theorem not_in {cs : List (Int × Int)} (hs : stoneV cs = true) (p : Int × Int) (hp : hiX cs cs.length < p.1) : inV cs p = false := by
  have h0 := stone_size hs
  rw [← Bool.not_eq_true]
  intro hin
  unfold inV at hin
  simp only [Bool.and_eq_true] at hin
  obtain ⟨⟨-, hpo⟩, hall⟩ := hin
  have he : ∀ i, 0 ≤ sid (cn cs i) (cn cs (i + 1)) p := fun i => by
    have := allV_iff.1 hall (i % cs.length) (Nat.mod_lt _ (by omega))
    unfold edgeC at this
    have e1 : cn cs (i % cs.length + 1) = cn cs (i + 1) := by unfold cn; rw [Nat.mod_add_mod]
    rw [cn_mod, e1] at this
    simpa using this
  obtain ⟨j, hj, hje⟩ := hiX_at cs cs.length
  have hjl : j < cs.length := by omega
  have hx : ∀ i, (cn cs i).1 ≤ hiX cs cs.length := fun i => (box_le cs cs.length (i % cs.length) (Nat.mod_lt _ (by omega))).1.2
  have e0 : cn cs (j + cs.length - 1 + 1) = pt cs j := by rw [show j + cs.length - 1 + 1 = j + cs.length by omega, cn_add, cn_lt hjl]
  have ht := stone_turn hs (j + cs.length - 1)
  have h1 := he (j + cs.length - 1)
  have h2 := he (j + cs.length - 1 + 1)
  have xa := hx (j + cs.length - 1)
  have xb := hx (j + cs.length - 1 + 2)
  have oa := cn_ok hs (j + cs.length - 1)
  have ob := cn_ok hs (j + cs.length - 1 + 2)
  have om := cn_ok hs (j + cs.length - 1 + 1)
  rw [e0] at h1 h2 ht om
  rw [show j + cs.length - 1 + 1 + 1 = j + cs.length - 1 + 2 from rfl] at h2
  rw [hje] at xa xb hp
  generalize cn cs (j + cs.length - 1) = a at *
  generalize cn cs (j + cs.length - 1 + 2) = b at *
  generalize pt cs j = m at *
  unfold sid at h1 h2 ht
  rw [sideV_yes oa om hpo] at h1
  rw [sideV_yes om ob hpo] at h2
  rw [sideV_yes oa om ob] at ht
  have i1 : (m.1 - a.1) * (p.2 - a.2) - (m.2 - a.2) * (p.1 - a.1) = (m.1 - a.1) * (p.2 - m.2) - (m.2 - a.2) * (p.1 - m.1) := by grind
  have i2 : (m.1 - a.1) * (b.2 - a.2) - (m.2 - a.2) * (b.1 - a.1) = (m.1 - a.1) * (b.2 - m.2) - (m.2 - a.2) * (b.1 - m.1) := by grind
  rw [i1] at h1
  rw [i2] at ht
  have key : ((m.1 - a.1) * (b.2 - m.2) - (m.2 - a.2) * (b.1 - m.1)) * (p.1 - m.1) = -((b.1 - m.1) * (p.2 - m.2) - (b.2 - m.2) * (p.1 - m.1)) * (m.1 - a.1) + ((m.1 - a.1) * (p.2 - m.2) - (m.2 - a.2) * (p.1 - m.1)) * (b.1 - m.1) := by grind
  have k1 := Int.mul_pos ht (show 0 < p.1 - m.1 by omega)
  have k2 := Int.mul_nonneg h2 (show 0 ≤ m.1 - a.1 by omega)
  have k3 := Int.mul_nonneg h1 (show 0 ≤ m.1 - b.1 by omega)
  rw [key] at k1
  have k4 : ((m.1 - a.1) * (p.2 - m.2) - (m.2 - a.2) * (p.1 - m.1)) * (m.1 - b.1) = -(((m.1 - a.1) * (p.2 - m.2) - (m.2 - a.2) * (p.1 - m.1)) * (b.1 - m.1)) := by grind
  have k5 : -((b.1 - m.1) * (p.2 - m.2) - (b.2 - m.2) * (p.1 - m.1)) * (m.1 - a.1) = -(((b.1 - m.1) * (p.2 - m.2) - (b.2 - m.2) * (p.1 - m.1)) * (m.1 - a.1)) := by grind
  rw [k5] at k1
  rw [k4] at k3
  omega
end Go.Proofs.Ytikdjcmdeapikaa
