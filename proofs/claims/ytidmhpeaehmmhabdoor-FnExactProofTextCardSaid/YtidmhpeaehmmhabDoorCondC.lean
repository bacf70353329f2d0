/- Conditions, one by one: the contracts of RowOk and Fulfills of the program and of the model, and of what they call. -/
import Derived.Test.YtidmhpeaehmmhabDoorCondP
import Derived.Test.YtidmhpeaehmmhabDoorThrustC
import Derived.Deep.RegionWith
namespace Go.Proofs.YtidmhpeaehmmhabDoor
set_option maxRecDepth 100000
open Go.ChangeShapes Go.WideShapes Go.ChangeAt Go.RowKit

/-- A condition's numbers by number; the limits of their range. -/
def cdL (a b c d : Int) : List Int := [a, b, c, d]
def cdM : List Int := [100, 100, 1, 1000000000]
theorem cdL_all {a b c d : Int} (h : ∀ j, j < 4 → inR ((cdL a b c d).getD j 0) (-(cdM.getD j 0)) (cdM.getD j 0) = true) : cdOk a b c d = true := by
  have h0 := h 0 (by omega)
  have h1 := h 1 (by omega)
  have h2 := h 2 (by omega)
  have h3 := h 3 (by omega)
  simp [cdL, cdM] at h0 h1 h2 h3
  unfold cdOk; rw [h0, h1, h2, h3]; rfl
theorem cdL_not {a b c d : Int} {j : Nat} (hj : j < 4) (h : inR ((cdL a b c d).getD j 0) (-(cdM.getD j 0)) (cdM.getD j 0) = false) : cdOk a b c d = false := by
  match j, hj with
  | 0, _ => simp [cdL, cdM] at h; exact cdOk_a h
  | 1, _ => simp [cdL, cdM] at h; exact cdOk_b h
  | 2, _ => simp [cdL, cdM] at h; exact cdOk_c h
  | 3, _ => simp [cdL, cdM] at h; exact cdOk_d h
theorem cdM_bd (j : Nat) : 0 ≤ cdM.getD j 0 ∧ cdM.getD j 0 ≤ 1000000000 := by
  match j with
  | 0 => decide
  | 1 => decide
  | 2 => decide
  | 3 => decide
  | n + 4 => simp [cdM]

/-- The first k products of a condition's numbers with a thrust's. -/
def exTo (ns fs : List Int) : Nat → Int
  | 0 => 0
  | k + 1 => exTo ns fs k + ns.getD k 0 * fs.getD k 0
theorem exTo_four (h v m d a b c e : Int) : exTo (cdL a b c e) [h, v, m, -d] 4 = cdX h v m d a b c e := by
  have hn : e * -d = -(e * d) := Int.mul_neg e d
  simp [exTo, cdL, cdX]
  omega
structure ExBd (h v m d a b c e : Int) (k : Nat) : Prop where
  p : -1000000000000000 ≤ (cdL a b c e).getD k 0 * ([h, v, m, -d] : List Int).getD k 0 ∧ (cdL a b c e).getD k 0 * ([h, v, m, -d] : List Int).getD k 0 ≤ 1000000000000000
  s : -4000000000000000 ≤ exTo (cdL a b c e) [h, v, m, -d] k ∧ exTo (cdL a b c e) [h, v, m, -d] k ≤ 4000000000000000
theorem ex_bd {h v m d a b c e : Int} (x : CdBd h v m d a b c e) (k : Nat) (hk : k < 4) : ExBd h v m d a b c e k := by
  obtain ⟨h1, h2, h3, h4⟩ := x
  match k, hk with
  | 0, _ => exact ⟨by simp [cdL]; omega, by simp [exTo]⟩
  | 1, _ => exact ⟨by simp [cdL]; omega, by simp [exTo, cdL]; omega⟩
  | 2, _ => exact ⟨by simp [cdL]; omega, by simp [exTo, cdL]; omega⟩
  | 3, _ =>
    have hn : e * -d = -(e * d) := Int.mul_neg e d
    exact ⟨by simp [cdL]; omega, by simp [exTo, cdL]; omega⟩

end Go.Proofs.YtidmhpeaehmmhabDoor
