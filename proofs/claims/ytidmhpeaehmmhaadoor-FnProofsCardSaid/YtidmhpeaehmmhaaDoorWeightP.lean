/- Weights, plainly: twice the area, the moments, as sums over the corners going around; their bounds. -/
import Derived.Test.YtidmhpeaehmmhaaDoorStoneP
namespace Go.Proofs.YtidmhpeaehmmhaaDoor
set_option maxRecDepth 100000

/-- The first k values, added up. -/
def sumTo (f : Nat → Int) : Nat → Int
  | 0 => 0
  | k + 1 => sumTo f k + f k
theorem sumTo_congr {f g : Nat → Int} (n : Nat) (h : ∀ i, i < n → f i = g i) : sumTo f n = sumTo g n := by
  induction n with
  | zero => rfl
  | succ n ih =>
    show sumTo f n + f n = sumTo g n + g n
    rw [ih fun i hi => h i (by omega), h n (by omega)]
theorem sumTo_add (f g : Nat → Int) (n : Nat) : sumTo (fun i => f i + g i) n = sumTo f n + sumTo g n := by
  induction n with
  | zero => rfl
  | succ n ih =>
    show sumTo _ n + (f n + g n) = sumTo f n + f n + (sumTo g n + g n)
    rw [ih]; omega
theorem sumTo_mul (c : Int) (f : Nat → Int) (n : Nat) : sumTo (fun i => c * f i) n = c * sumTo f n := by
  induction n with
  | zero => show (0 : Int) = c * 0; omega
  | succ n ih =>
    show sumTo _ n + c * f n = c * (sumTo f n + f n)
    rw [ih, Int.mul_add]
theorem sumTo_neg (f : Nat → Int) (n : Nat) : sumTo (fun i => -f i) n = -sumTo f n := by
  induction n with
  | zero => rfl
  | succ n ih =>
    show sumTo _ n + -f n = -(sumTo f n + f n)
    rw [ih]; omega
theorem sumTo_head (f : Nat → Int) (n : Nat) : sumTo f (n + 1) = f 0 + sumTo (fun i => f (i + 1)) n := by
  induction n with
  | zero => show 0 + f 0 = f 0 + 0; omega
  | succ n ih =>
    show sumTo f (n + 1) + f (n + 1) = f 0 + (sumTo (fun i => f (i + 1)) n + f (n + 1))
    rw [ih]; omega
/-- In reverse order. -/
theorem sumTo_rev (f : Nat → Int) (n : Nat) : sumTo (fun i => f (n - 1 - i)) n = sumTo f n := by
  induction n with
  | zero => rfl
  | succ n ih =>
    rw [sumTo_head]
    show f (n + 1 - 1 - 0) + sumTo (fun i => f (n + 1 - 1 - (i + 1))) n = sumTo f n + f n
    have : sumTo (fun i => f (n + 1 - 1 - (i + 1))) n = sumTo (fun i => f (n - 1 - i)) n := sumTo_congr n fun i hi => by congr 1; omega
    rw [this, ih, show n + 1 - 1 - 0 = n by omega]; omega
/-- One on, going around. -/
theorem sumTo_shift {f : Nat → Int} {n : Nat} (hp : f n = f 0) : sumTo (fun i => f (i + 1)) n = sumTo f n := by
  have := sumTo_head f n
  show _ = sumTo f n
  have h2 : sumTo f (n + 1) = sumTo f n + f n := rfl
  omega
theorem sumTo_tele {f : Nat → Int} {n : Nat} (hp : f n = f 0) : sumTo (fun i => f i - f (i + 1)) n = 0 := by
  have h1 : sumTo (fun i => f i - f (i + 1)) n = sumTo (fun i => f i + -f (i + 1)) n := sumTo_congr n fun i _ => by omega
  rw [h1, sumTo_add, sumTo_neg, sumTo_shift hp]
  omega
theorem sumTo_bd (f : Nat → Int) (c : Int) (n : Nat) (h : ∀ i, i < n → -c ≤ f i ∧ f i ≤ c) : -(c * n) ≤ sumTo f n ∧ sumTo f n ≤ c * n := by
  induction n with
  | zero => show -(c * ((0 : Nat) : Int)) ≤ 0 ∧ (0 : Int) ≤ c * ((0 : Nat) : Int); simp
  | succ n ih =>
    have h1 := ih fun i hi => h i (by omega)
    have h2 := h n (by omega)
    have h3 : c * ((n + 1 : Nat) : Int) = c * n + c := by rw [Int.natCast_add, Int.mul_add]; simp
    show -_ ≤ sumTo f n + f n ∧ sumTo f n + f n ≤ _
    rw [h3]
    omega

/-- a.X*b.Y - a.Y*b.X. -/
def crs (a b : Int × Int) : Int := a.1 * b.2 - a.2 * b.1
/-- The terms of the sums, at a corner and the next one. -/
def arC (cs : List (Int × Int)) (i : Nat) : Int := crs (cn cs i) (cn cs (i + 1))
def moC (cs : List (Int × Int)) (i : Nat) : Int := ((cn cs i).1 + (cn cs (i + 1)).1) * crs (cn cs i) (cn cs (i + 1))
def heC (cs : List (Int × Int)) (i : Nat) : Int := ((cn cs i).2 + (cn cs (i + 1)).2) * crs (cn cs i) (cn cs (i + 1))
/-- What AreaTwice, WeightOf, MomentOf, HeightMoment answer. -/
def areaV (cs : List (Int × Int)) : Int := if stoneV cs then sumTo (arC cs) cs.length else 0
def weightV (cs : List (Int × Int)) : Int := 3 * areaV cs
def momV (cs : List (Int × Int)) : Int := if stoneV cs then sumTo (moC cs) cs.length else 0
def heiV (cs : List (Int × Int)) : Int := if stoneV cs then sumTo (heC cs) cs.length else 0
/-- What IsLeftOf answers. -/
def leftV (cs : List (Int × Int)) (x : Int) : Bool := (stoneV cs && inP x) && decide (momV cs < x * weightV cs)

theorem crs_bd {a b : Int × Int} (ha : okP a.1 a.2 = true) (hb : okP b.1 b.2 = true) : -7200 ≤ crs a b ∧ crs a b ≤ 7200 := by
  rw [okP_iff] at ha hb
  have h1 := mul_bd (x := a.1) (y := b.2) 60 60 ⟨by omega, by omega⟩ ⟨by omega, by omega⟩
  have h2 := mul_bd (x := a.2) (y := b.1) 60 60 ⟨by omega, by omega⟩ ⟨by omega, by omega⟩
  unfold crs
  omega
theorem arC_bd {cs : List (Int × Int)} (hs : stoneV cs = true) (i : Nat) : -7200 ≤ arC cs i ∧ arC cs i ≤ 7200 := crs_bd (cn_ok hs _) (cn_ok hs _)
theorem moC_bd {cs : List (Int × Int)} (hs : stoneV cs = true) (i : Nat) : -864000 ≤ moC cs i ∧ moC cs i ≤ 864000 := by
  have h1 := crs_bd (cn_ok hs i) (cn_ok hs (i + 1))
  have h2 := okP_iff.1 (cn_ok hs i)
  have h3 := okP_iff.1 (cn_ok hs (i + 1))
  exact mul_bd 120 7200 ⟨by omega, by omega⟩ ⟨by omega, by omega⟩
theorem heC_bd {cs : List (Int × Int)} (hs : stoneV cs = true) (i : Nat) : -864000 ≤ heC cs i ∧ heC cs i ≤ 864000 := by
  have h1 := crs_bd (cn_ok hs i) (cn_ok hs (i + 1))
  have h2 := okP_iff.1 (cn_ok hs i)
  have h3 := okP_iff.1 (cn_ok hs (i + 1))
  exact mul_bd 120 7200 ⟨by omega, by omega⟩ ⟨by omega, by omega⟩
theorem six_bd {cs : List (Int × Int)} (hs : stoneV cs = true) (f : Nat → Int) (c : Int) (h0 : 0 ≤ c) (h : ∀ i, -c ≤ f i ∧ f i ≤ c) (k : Nat) (hk : k ≤ cs.length) : -(c * 6) ≤ sumTo f k ∧ sumTo f k ≤ c * 6 := by
  have h6 := stone_size hs
  have h1 := sumTo_bd f c k fun i _ => h i
  have h2 : c * (k : Int) ≤ c * 6 := Int.mul_le_mul_of_nonneg_left (by omega) h0
  omega
theorem areaV_bd (cs : List (Int × Int)) : -43200 ≤ areaV cs ∧ areaV cs ≤ 43200 := by
  unfold areaV
  split
  · rename_i hs; have := six_bd hs (arC cs) 7200 (by omega) (arC_bd hs) cs.length (Nat.le_refl _); omega
  · omega
theorem weightV_bd (cs : List (Int × Int)) : -129600 ≤ weightV cs ∧ weightV cs ≤ 129600 := by have := areaV_bd cs; unfold weightV; omega
theorem momV_bd (cs : List (Int × Int)) : -5184000 ≤ momV cs ∧ momV cs ≤ 5184000 := by
  unfold momV
  split
  · rename_i hs; have := six_bd hs (moC cs) 864000 (by omega) (moC_bd hs) cs.length (Nat.le_refl _); omega
  · omega
theorem heiV_bd (cs : List (Int × Int)) : -5184000 ≤ heiV cs ∧ heiV cs ≤ 5184000 := by
  unfold heiV
  split
  · rename_i hs; have := six_bd hs (heC cs) 864000 (by omega) (heC_bd hs) cs.length (Nat.le_refl _); omega
  · omega
theorem leftV_no {cs : List (Int × Int)} {x : Int} (h : stoneV cs = false) : leftV cs x = false := by unfold leftV; rw [h]; rfl
theorem leftV_out {cs : List (Int × Int)} {x : Int} (h : inP x = false) : leftV cs x = false := by unfold leftV; rw [h, Bool.and_false]; rfl
theorem leftV_yes {cs : List (Int × Int)} {x : Int} (h : stoneV cs = true) (h2 : inP x = true) : leftV cs x = decide (momV cs < x * weightV cs) := by unfold leftV; rw [h, h2]; rfl
end Go.Proofs.YtidmhpeaehmmhaaDoor
