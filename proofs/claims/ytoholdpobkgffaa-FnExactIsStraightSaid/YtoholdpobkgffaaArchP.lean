/- Arches, plainly: valid, the drawn shapes and what is moved of them, as functions of the list of joints. -/
import Derived.Test.YtoholdpobkgffaaJointP
namespace Go.Proofs.Ytoholdpobkgffaa
set_option maxRecDepth 100000

/-- A joint: its Inner, its Outer. -/
abbrev Jt : Type := (Int × Int) × (Int × Int)
/-- The joint at an index (zeros past the end). -/
def jt (js : List Jt) (i : Nat) : Jt := js.getD i ((0, 0), (0, 0))
/-- Whether joint i and the next one are as an arch wants them. -/
def linkV (js : List Jt) (i : Nat) : Bool := stoneV (betw (jt js i) (jt js (i + 1))) && decide ((jt js i).1.1 < (jt js (i + 1)).1.1)
/-- Whether all are. -/
def linksV (js : List Jt) : Bool := allV (js.length - 1) (linkV js)
/-- What ArchOk answers. -/
def archV (js : List Jt) : Bool := linksV js && decide (3 ≤ js.length ∧ js.length ≤ 8)
theorem archV_iff {js : List Jt} : archV js = true ↔ (∀ i, i + 1 < js.length → linkV js i = true) ∧ 3 ≤ js.length ∧ js.length ≤ 8 := by
  unfold archV linksV
  rw [Bool.and_eq_true, allV_iff, decide_eq_true_iff]
  exact ⟨fun h => ⟨fun i hi => h.1 i (by omega), h.2⟩, fun h => ⟨fun i hi => h.1 i (by omega), h.2⟩⟩
theorem link_stone {js : List Jt} {i : Nat} (h : linkV js i = true) : stoneV (betw (jt js i) (jt js (i + 1))) = true ∧ (jt js i).1.1 < (jt js (i + 1)).1.1 := by
  unfold linkV at h
  rw [Bool.and_eq_true, decide_eq_true_iff] at h
  exact h
theorem jt_get {js : List Jt} {i : Nat} (h : i < js.length) : jt js i = js[i] := by unfold jt; rw [List.getD_eq_getElem?_getD, List.getElem?_eq_getElem h]; rfl
theorem jt_set (js : List Jt) (i k : Nat) (j : Jt) (h : i < js.length) : jt (js.set i j) k = if k = i then j else jt js k := by
  unfold jt
  rw [List.getD_eq_getElem?_getD, List.getD_eq_getElem?_getD, List.getElem?_set]
  by_cases he : i = k
  · subst he; simp [h]
  · rw [if_neg he, if_neg (fun e => he e.symm)]

/-- Coordinates at most 18 + m from 0. -/
def Close (m : Nat) (js : List Jt) : Prop := ∀ i, i < js.length → (-(18 + (m : Int)) ≤ (jt js i).1.1 ∧ (jt js i).1.1 ≤ 18 + m) ∧ (-(18 + (m : Int)) ≤ (jt js i).1.2 ∧ (jt js i).1.2 ≤ 18 + m) ∧
  (-(18 + (m : Int)) ≤ (jt js i).2.1 ∧ (jt js i).2.1 ≤ 18 + m) ∧ -(18 + (m : Int)) ≤ (jt js i).2.2 ∧ (jt js i).2.2 ≤ 18 + m
/-- A drawn arch: valid; not far from the middle. -/
def Fine (m : Nat) (js : List Jt) : Prop := archV js = true ∧ Close m js
theorem Close.more {m k : Nat} {js : List Jt} (h : Close m js) (hk : m ≤ k) : Close k js := fun i hi => by have := h i hi; omega
theorem Fine.more {m k : Nat} {js : List Jt} (h : Fine m js) (hk : m ≤ k) : Fine k js := ⟨h.1, h.2.more hk⟩
theorem Close.set {m : Nat} {js : List Jt} (h : Close m js) (i : Nat) (hi : i < js.length) (j : Jt) (hj : (-(18 + ((m + 1 : Nat) : Int)) ≤ j.1.1 ∧ j.1.1 ≤ 18 + ((m + 1 : Nat) : Int)) ∧ (-(18 + ((m + 1 : Nat) : Int)) ≤ j.1.2 ∧ j.1.2 ≤ 18 + ((m + 1 : Nat) : Int)) ∧
    (-(18 + ((m + 1 : Nat) : Int)) ≤ j.2.1 ∧ j.2.1 ≤ 18 + ((m + 1 : Nat) : Int)) ∧ -(18 + ((m + 1 : Nat) : Int)) ≤ j.2.2 ∧ j.2.2 ≤ 18 + ((m + 1 : Nat) : Int)) : Close (m + 1) (js.set i j) := fun k hk => by
  rw [List.length_set] at hk
  rw [jt_set js i k j hi]
  split
  · exact hj
  · have := h k hk
    omega

/-- The shapes. -/
def shape (k : Nat) : List Jt :=
  match k with
  | 0 => [((-8, 0), (-11, 0)), ((-6, 5), (-8, 7)), ((-2, 8), (-3, 11)), ((2, 8), (3, 11)), ((6, 5), (8, 7)), ((8, 0), (11, 0))]
  | 1 => [((0, 0), (-2, 3)), ((5, 2), (4, 6)), ((11, 2), (12, 6)), ((16, 0), (18, 3))]
  | 2 => [((0, 0), (-3, 0)), ((2, 6), (0, 8)), ((6, 11), (6, 14)), ((10, 6), (12, 8)), ((12, 0), (15, 0))]
  | 3 => [((0, 0), (-1, 4)), ((4, 0), (4, 4)), ((8, 0), (8, 4)), ((12, 0), (13, 4))]
  | 4 => [((-9, 0), (-10, 0)), ((-6, 7), (-7, 8)), ((0, 9), (0, 10)), ((6, 7), (7, 8)), ((9, 0), (10, 0))]
  | _ => [((0, 0), (-2, 2)), ((6, 4), (6, 7)), ((12, 2), (14, 4))]
theorem close_all {m : Nat} {js : List Jt} (h : js.all (fun j => decide ((-(18 + (m : Int)) ≤ j.1.1 ∧ j.1.1 ≤ 18 + m) ∧ (-(18 + (m : Int)) ≤ j.1.2 ∧ j.1.2 ≤ 18 + m) ∧ (-(18 + (m : Int)) ≤ j.2.1 ∧ j.2.1 ≤ 18 + m) ∧ -(18 + (m : Int)) ≤ j.2.2 ∧ j.2.2 ≤ 18 + m)) = true) : Close m js := fun i hi => by
  rw [List.all_eq_true] at h
  have := h (jt js i) (by rw [jt_get hi]; exact List.getElem_mem hi)
  exact of_decide_eq_true this
theorem fine_shape (k : Nat) : Fine 0 (shape k) := by
  match k with
  | 0 => exact ⟨by decide +kernel, close_all (by decide +kernel)⟩
  | 1 => exact ⟨by decide +kernel, close_all (by decide +kernel)⟩
  | 2 => exact ⟨by decide +kernel, close_all (by decide +kernel)⟩
  | 3 => exact ⟨by decide +kernel, close_all (by decide +kernel)⟩
  | 4 => exact ⟨by decide +kernel, close_all (by decide +kernel)⟩
  | (n + 5) => exact ⟨show archV [((0, 0), (-2, 2)), ((6, 4), (6, 7)), ((12, 2), (14, 4))] = true by decide +kernel, show Close 0 [((0, 0), (-2, 2)), ((6, 4), (6, 7)), ((12, 2), (14, 4))] from close_all (by decide +kernel)⟩
end Go.Proofs.Ytoholdpobkgffaa
