/- The conditions of an arch under loads, plainly. -/
import Derived.Test.YtiallkkleilgiaaCondA
import Derived.Test.YtiallkkleilgiaaLoadP
namespace Go.Proofs.Ytiallkkleilgiaa
set_option maxRecDepth 100000

/-- The two conditions of joint k: about Inner, about Outer. -/
def cdI (js : List Jt) (ls : List Ld) (k : Nat) : Cd := ((jt js k).1.2, -(jt js k).1.1, 1, sumTo (mL js ls) k - (jt js k).1.1 * sumTo (wL js ls) k)
def cdO (js : List Jt) (ls : List Ld) (k : Nat) : Cd := (-(jt js k).2.2, (jt js k).2.1, -1, (jt js k).2.1 * sumTo (wL js ls) k - sumTo (mL js ls) k)
/-- Those of the first k joints; all of them, with the last one. -/
def cdsTo (js : List Jt) (ls : List Ld) (k : Nat) : List Cd := (List.range k).flatMap fun i => [cdI js ls i, cdO js ls i]
theorem cdsTo_next (js : List Jt) (ls : List Ld) (k : Nat) : cdsTo js ls (k + 1) = cdsTo js ls k ++ [cdI js ls k, cdO js ls k] := by
  unfold cdsTo; rw [List.range_succ, List.flatMap_append]; simp
theorem cdsTo_length (js : List Jt) (ls : List Ld) (k : Nat) : (cdsTo js ls k).length = 2 * k := by
  induction k with
  | zero => rfl
  | succ k ih => rw [cdsTo_next, List.length_append, ih]; simp; omega
def cdsV (js : List Jt) (ls : List Ld) : List Cd := cdsTo js ls js.length ++ [(-1, 0, 0, 0)]
theorem cdsV_length (js : List Jt) (ls : List Ld) : (cdsV js ls).length = 2 * js.length + 1 := by
  unfold cdsV; rw [List.length_append, cdsTo_length]; rfl
/-- What RowsOf answers. -/
def rowsV (js : List Jt) (ls : List Ld) : List Cd := if loadsV js ls && cdsOk (cdsV js ls) then cdsV js ls else []
theorem rowsV_l {js : List Jt} {ls : List Ld} (h : loadsV js ls = false) : rowsV js ls = [] := by unfold rowsV; rw [h]; rfl
theorem rowsV_c {js : List Jt} {ls : List Ld} (h : cdsOk (cdsV js ls) = false) : rowsV js ls = [] := by unfold rowsV; rw [h, Bool.and_false]; rfl
theorem rowsV_yes {js : List Jt} {ls : List Ld} (hl : loadsV js ls = true) (h : cdsOk (cdsV js ls) = true) : rowsV js ls = cdsV js ls := by unfold rowsV; rw [hl, h]; rfl
theorem rowsV_length (js : List Jt) (ls : List Ld) : (rowsV js ls).length ≤ 17 := by
  unfold rowsV
  split
  · rename_i h
    rw [Bool.and_eq_true] at h
    have := arch_size (loadsV_iff.1 h.1).1
    rw [cdsV_length]
    omega
  · simp

/-- The products of a joint's conditions are small. -/
structure CdIn (js : List Jt) (ls : List Ld) (k : Nat) : Prop where
  w : -32000000 ≤ sumTo (wL js ls) k ∧ sumTo (wL js ls) k ≤ 32000000
  m : -75000000 ≤ sumTo (mL js ls) k ∧ sumTo (mL js ls) k ≤ 75000000
  ax : -60 ≤ (jt js k).1.1 ∧ (jt js k).1.1 ≤ 60
  ay : -60 ≤ (jt js k).1.2 ∧ (jt js k).1.2 ≤ 60
  bx : -60 ≤ (jt js k).2.1 ∧ (jt js k).2.1 ≤ 60
  ly : -60 ≤ (jt js k).2.2 ∧ (jt js k).2.2 ≤ 60
theorem cd_in {js : List Jt} {ls : List Ld} (h : loadsV js ls = true) {k : Nat} (hk : k < js.length) : CdIn js ls k := by
  have h38 := arch_size (loadsV_iff.1 h).1
  obtain ⟨o1, o2⟩ := arch_ok (loadsV_iff.1 h).1 (i := k) hk
  have o1 := okP_iff.1 o1
  have o2 := okP_iff.1 o2
  exact ⟨wL_bd h k (by omega), mL_bd h k (by omega), by omega, by omega, by omega, by omega⟩
theorem xw_bd {x s : Int} (hx : -60 ≤ x ∧ x ≤ 60) (hs : -32000000 ≤ s ∧ s ≤ 32000000) : -1920000000 ≤ x * s ∧ x * s ≤ 1920000000 := by
  have := mulT_bd (x := x) (y := s) 60 32000000 (by omega) (by omega)
  omega
end Go.Proofs.Ytiallkkleilgiaa
