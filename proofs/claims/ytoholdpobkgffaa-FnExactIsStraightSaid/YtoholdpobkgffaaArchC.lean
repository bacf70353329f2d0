/- Arches: rows of joints as flat cells; the contracts of the model's shapes, of a copy. -/
import Derived.Test.YtoholdpobkgffaaArchP
import Derived.Test.YtoholdpobkgffaaStoneC
import Derived.Test.YtoholdpobkgffaaJointS
import Derived.Deep.AppendLies
import Derived.Deep.Cut
import Derived.Deep.CutRange
namespace Go.Proofs.Ytoholdpobkgffaa
set_option maxRecDepth 100000
open Go.ChangeShapes Go.WideShapes Go.ChangeAt Go.RowKit

/-- The cells of joints. -/
def flatJ (js : List Jt) : List Value := js.flatMap fun j => [.int .i64 j.1.1, .int .i64 j.1.2, .int .i64 j.2.1, .int .i64 j.2.2]
theorem flatJ_cons (j : Jt) (js : List Jt) : flatJ (j :: js) = .int .i64 j.1.1 :: .int .i64 j.1.2 :: .int .i64 j.2.1 :: .int .i64 j.2.2 :: flatJ js := rfl
theorem flatJ_length (js : List Jt) : (flatJ js).length = js.length * 4 := by
  induction js with
  | nil => rfl
  | cons j js ih => rw [flatJ_cons]; simp [ih]; omega
theorem flatJ_at (js : List Jt) (i : Nat) (h : i < js.length) :
    (flatJ js)[i * 4]? = some (.int .i64 (jt js i).1.1) ∧ (flatJ js)[i * 4 + 1]? = some (.int .i64 (jt js i).1.2) ∧ (flatJ js)[i * 4 + 2]? = some (.int .i64 (jt js i).2.1) ∧ (flatJ js)[i * 4 + 3]? = some (.int .i64 (jt js i).2.2) := by
  induction js generalizing i with
  | nil => simp at h
  | cons j js ih =>
    cases i with
    | zero => exact ⟨rfl, rfl, rfl, rfl⟩
    | succ i =>
      have := ih i (by simpa using h)
      rw [flatJ_cons, show (i + 1) * 4 = i * 4 + 1 + 1 + 1 + 1 by omega]
      simpa [jt] using this
theorem flatJ_inner (js : List Jt) (i : Nat) (x y : Int) (h : i < js.length) : ((flatJ js).set (i * 4) (.int .i64 x)).set (i * 4 + 1) (.int .i64 y) = flatJ (js.set i ((x, y), (jt js i).2)) := by
  induction js generalizing i with
  | nil => simp at h
  | cons j js ih =>
    cases i with
    | zero => rfl
    | succ i =>
      have := ih i (by simpa using h)
      rw [flatJ_cons, show (i + 1) * 4 = i * 4 + 1 + 1 + 1 + 1 by omega]
      simp only [List.set_cons_succ]
      rw [this, flatJ_cons]
      rfl
theorem flatJ_outer (js : List Jt) (i : Nat) (x y : Int) (h : i < js.length) : ((flatJ js).set (i * 4 + 2) (.int .i64 x)).set (i * 4 + 3) (.int .i64 y) = flatJ (js.set i ((jt js i).1, (x, y))) := by
  induction js generalizing i with
  | nil => simp at h
  | cons j js ih =>
    cases i with
    | zero => rfl
    | succ i =>
      have := ih i (by simpa using h)
      rw [flatJ_cons, show (i + 1) * 4 = i * 4 + 1 + 1 + 1 + 1 by omega]
      simp only [List.set_cons_succ]
      rw [this, flatJ_cons]
      rfl

/-- A slice of joints in a row of the program's own. -/
def JRow (w : World) (B : Nat) (v : Value) (js : List Jt) : Prop := w.ownsRow B 38 4 v js.length (flatJ js)
/-- A row at the head of block g. -/
def JRowAt (w : World) (B g cap : Nat) (js : List Jt) : Prop := JRow w B (.slice (some ⟨g, 0, none⟩) js.length cap) js
theorem JRow.cases {w : World} {B : Nat} {v : Value} {js : List Jt} (h : JRow w B v js) (h0 : 0 < js.length) :
    ∃ g cap, v = .slice (some ⟨g, 0, none⟩) js.length cap ∧ JRowAt w B g cap js ∧ B ≤ g ∧ g < w.heap.size ∧ js.length ≤ cap ∧ cap ≤ maxLen := by
  have hh := h
  rcases h.2 with ⟨rfl, hz⟩ | ⟨g, cap, cur, rfl, hB, hg, hc, hm, -⟩
  · omega
  · exact ⟨g, cap, rfl, hh, hB, by have := (Array.getElem?_eq_some_iff.1 hg).1; exact this, hc, hm⟩
theorem JRowAt.lt {w : World} {B g cap : Nat} {js : List Jt} (h : JRowAt w B g cap js) : B ≤ g ∧ g < w.heap.size ∧ js.length ≤ cap ∧ cap ≤ maxLen := by
  rcases h.2 with ⟨h1, -⟩ | ⟨g', cap', cur, h1, hB, hg, hc, hm, -⟩
  · simp at h1
  · simp at h1; obtain ⟨rfl, rfl⟩ := h1; exact ⟨hB, by have := (Array.getElem?_eq_some_iff.1 hg).1; exact this, hc, hm⟩
theorem JRowAt.cells {w : World} {B g cap : Nat} {js : List Jt} (h : JRowAt w B g cap js) (i : Nat) (hi : i < js.length) :
    w.cell? ⟨g, i * 4, none⟩ = some (.int .i64 (jt js i).1.1) ∧ w.cell? ⟨g, i * 4 + 1, none⟩ = some (.int .i64 (jt js i).1.2) ∧ w.cell? ⟨g, i * 4 + 2, none⟩ = some (.int .i64 (jt js i).2.1) ∧ w.cell? ⟨g, i * 4 + 3, none⟩ = some (.int .i64 (jt js i).2.2) := by
  rw [World.ownsRow.cellAt h (i * 4) (by omega), World.ownsRow.cellAt h (i * 4 + 1) (by omega), World.ownsRow.cellAt h (i * 4 + 2) (by omega), World.ownsRow.cellAt h (i * 4 + 3) (by omega)]
  exact flatJ_at js i hi
theorem JRowAt.below {w w' : World} {B g cap : Nat} {js : List Jt} (h : JRowAt w B g cap js) (hb : Below w.heap.size w w') : JRowAt w' B g cap js := owns_below h hb
theorem JRow.below {w w' : World} {B : Nat} {v : Value} {js : List Jt} (h : JRow w B v js) (hb : Below w.heap.size w w') : JRow w' B v js := owns_below h hb
theorem JRow.base {w : World} {B B' : Nat} {v : Value} {js : List Jt} (h : JRow w B v js) (hb : B' ≤ B) : JRow w B' v js := owns_base h hb
theorem JRowAt.base {w : World} {B B' g cap : Nat} {js : List Jt} (h : JRowAt w B g cap js) (hb : B' ≤ B) : JRowAt w B' g cap js := owns_base h hb

/-- A new arch was handed back, in new memory; what was there is as it was. -/
def NewArch (js : List Jt) (w : World) (e : Ending) (w' : World) : Prop :=
  ∃ g cap, e = .returned (.agg #[.slice (some ⟨g, 0, none⟩) js.length cap]) ∧ JRowAt w' w.heap.size g cap js ∧ Below w.heap.size w w'


end Go.Proofs.Ytoholdpobkgffaa
