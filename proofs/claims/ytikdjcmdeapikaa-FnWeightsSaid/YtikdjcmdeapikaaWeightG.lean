/- Weights, plainly: the fan from the first corner; mirrors. -/
import Derived.Test.YtikdjcmdeapikaaStoneH
import Derived.Test.YtikdjcmdeapikaaWeightP
namespace Go.Proofs.Ytikdjcmdeapikaa

/-- The fan: triangles from the first corner. -/
def tri (cs : List (Int × Int)) (i : Nat) : Int := sid (cn cs 0) (cn cs i) (cn cs (i + 1))
theorem tri_is {cs : List (Int × Int)} (hs : stoneV cs = true) (i : Nat) : tri cs i = crs (cn cs 0) (cn cs i) + crs (cn cs i) (cn cs (i + 1)) + crs (cn cs (i + 1)) (cn cs 0) := by
  unfold tri sid
  rw [sideV_yes (cn_ok hs 0) (cn_ok hs i) (cn_ok hs (i + 1))]
  unfold crs
  grind
theorem fan_area {cs : List (Int × Int)} (hs : stoneV cs = true) (k : Nat) : sumTo (arC cs) k + crs (cn cs k) (cn cs 0) = sumTo (tri cs) k := by
  induction k with
  | zero =>
    show 0 + crs (cn cs 0) (cn cs 0) = 0
    unfold crs
    grind
  | succ k ih =>
    have ht := tri_is hs k
    have he : crs (cn cs 0) (cn cs k) = -crs (cn cs k) (cn cs 0) := by unfold crs; grind
    show sumTo (arC cs) k + crs (cn cs k) (cn cs (k + 1)) + crs (cn cs (k + 1)) (cn cs 0) = sumTo (tri cs) k + tri cs k
    omega
/-- A triangle's moment. -/
def triX (cs : List (Int × Int)) (i : Nat) : Int := ((cn cs 0).1 + (cn cs i).1 + (cn cs (i + 1)).1) * tri cs i
def triY (cs : List (Int × Int)) (i : Nat) : Int := ((cn cs 0).2 + (cn cs i).2 + (cn cs (i + 1)).2) * tri cs i
theorem fan_mom {cs : List (Int × Int)} (hs : stoneV cs = true) (k : Nat) : sumTo (moC cs) k + ((cn cs k).1 + (cn cs 0).1) * crs (cn cs k) (cn cs 0) = sumTo (triX cs) k := by
  induction k with
  | zero =>
    show 0 + ((cn cs 0).1 + (cn cs 0).1) * crs (cn cs 0) (cn cs 0) = 0
    unfold crs
    grind
  | succ k ih =>
    have ht := tri_is hs k
    have he : ((cn cs k).1 + (cn cs (k + 1)).1) * crs (cn cs k) (cn cs (k + 1)) + ((cn cs (k + 1)).1 + (cn cs 0).1) * crs (cn cs (k + 1)) (cn cs 0) - ((cn cs k).1 + (cn cs 0).1) * crs (cn cs k) (cn cs 0) = triX cs k := by
      unfold triX
      rw [ht]
      unfold crs
      grind
    show sumTo (moC cs) k + ((cn cs k).1 + (cn cs (k + 1)).1) * crs (cn cs k) (cn cs (k + 1)) + _ = sumTo (triX cs) k + triX cs k
    omega
theorem fan_hei {cs : List (Int × Int)} (hs : stoneV cs = true) (k : Nat) : sumTo (heC cs) k + ((cn cs k).2 + (cn cs 0).2) * crs (cn cs k) (cn cs 0) = sumTo (triY cs) k := by
  induction k with
  | zero =>
    show 0 + ((cn cs 0).2 + (cn cs 0).2) * crs (cn cs 0) (cn cs 0) = 0
    unfold crs
    grind
  | succ k ih =>
    have ht := tri_is hs k
    have he : ((cn cs k).2 + (cn cs (k + 1)).2) * crs (cn cs k) (cn cs (k + 1)) + ((cn cs (k + 1)).2 + (cn cs 0).2) * crs (cn cs (k + 1)) (cn cs 0) - ((cn cs k).2 + (cn cs 0).2) * crs (cn cs k) (cn cs 0) = triY cs k := by
      unfold triY
      rw [ht]
      unfold crs
      grind
    show sumTo (heC cs) k + ((cn cs k).2 + (cn cs (k + 1)).2) * crs (cn cs k) (cn cs (k + 1)) + _ = sumTo (triY cs) k + triY cs k
    omega
theorem crs_self (a : Int × Int) : crs a a = 0 := by unfold crs; grind
theorem cn_len (cs : List (Int × Int)) : cn cs cs.length = cn cs 0 := by have := cn_add cs 0; rwa [Nat.zero_add] at this
theorem area_tri {cs : List (Int × Int)} (hs : stoneV cs = true) : areaV cs = sumTo (tri cs) cs.length := by
  have := fan_area hs cs.length
  rw [cn_len, crs_self] at this
  unfold areaV
  rw [if_pos hs]
  omega
theorem mom_tri {cs : List (Int × Int)} (hs : stoneV cs = true) : momV cs = sumTo (triX cs) cs.length := by
  have := fan_mom hs cs.length
  rw [cn_len, crs_self, Int.mul_zero] at this
  unfold momV
  rw [if_pos hs]
  omega
theorem hei_tri {cs : List (Int × Int)} (hs : stoneV cs = true) : heiV cs = sumTo (triY cs) cs.length := by
  have := fan_hei hs cs.length
  rw [cn_len, crs_self, Int.mul_zero] at this
  unfold heiV
  rw [if_pos hs]
  omega
end Go.Proofs.Ytikdjcmdeapikaa
