/- Arches: rows of joints as flat cells; the contracts of the model's shapes, of a copy. -/
import Derived.Test.YthkabimaebglhaaArchP
import Derived.Test.YthkabimaebglhaaStoneC
import Derived.Test.YthkabimaebglhaaJointS
import Derived.Deep.AppendLies
import Derived.Deep.Cut
import Derived.Deep.CutRange
namespace Go.Proofs.Ythkabimaebglhaa
set_option maxRecDepth 100000
open Go.ChangeShapes Go.WideShapes Go.ChangeAt Go.RowKit

/-- The cells of joints. -/
def flatJ (js : List Jt) : List Value := js.flatMap fun j => [.int .i64 j.1.1, .int .i64 j.1.2, .int .i64 j.2.1, .int .i64 j.2.2]
theorem flatJ_cons (j : Jt) (js : List Jt) : flatJ (j :: js) = .int .i64 j.1.1 :: .int .i64 j.1.2 :: .int .i64 j.2.1 :: .int .i64 j.2.2 :: flatJ js := rfl
theorem flatJ_length (js : List Jt) : (flatJ js).length = js.length * 4 := by
  induction js with
  | nil => rfl
  | cons j js ih => rw [flatJ_cons]; simp [ih]; omega
theorem flatJ_at (js : List Jt) (i : Nat) (h : i < js.length) :
    (flatJ js)[i * 4]? = some (.int .i64 (jt js i).1.1) ∧ (flatJ js)[i * 4 + 1]? = some (.int .i64 (jt js i).1.2) ∧ (flatJ js)[i * 4 + 2]? = some (.int .i64 (jt js i).2.1) ∧ (flatJ js)[i * 4 + 3]? = some (.int .i64 (jt js i).2.2) := by
  induction js generalizing i with
  | nil => simp at h
  | cons j js ih =>
    cases i with
    | zero => exact ⟨rfl, rfl, rfl, rfl⟩
    | succ i =>
      have := ih i (by simpa using h)
      rw [flatJ_cons, show (i + 1) * 4 = i * 4 + 1 + 1 + 1 + 1 by omega]
      simpa [jt] using this
theorem flatJ_inner (js : List Jt) (i : Nat) (x y : Int) (h : i < js.length) : ((flatJ js).set (i * 4) (.int .i64 x)).set (i * 4 + 1) (.int .i64 y) = flatJ (js.set i ((x, y), (jt js i).2)) := by
  induction js generalizing i with
  | nil => simp at h
  | cons j js ih =>
    cases i with
    | zero => rfl
    | succ i =>
      have := ih i (by simpa using h)
      rw [flatJ_cons, show (i + 1) * 4 = i * 4 + 1 + 1 + 1 + 1 by omega]
      simp only [List.set_cons_succ]
      rw [this, flatJ_cons]
      rfl
theorem flatJ_outer (js : List Jt) (i : Nat) (x y : Int) (h : i < js.length) : ((flatJ js).set (i * 4 + 2) (.int .i64 x)).set (i * 4 + 3) (.int .i64 y) = flatJ (js.set i ((jt js i).1, (x, y))) := by
  induction js generalizing i with
  | nil => simp at h
  | cons j js ih =>
    cases i with
    | zero => rfl
    | succ i =>
      have := ih i (by simpa using h)
      rw [flatJ_cons, show (i + 1) * 4 = i * 4 + 1 + 1 + 1 + 1 by omega]
      simp only [List.set_cons_succ]
      rw [this, flatJ_cons]
      rfl

/-- A slice of joints in a row of the program's own. -/
def JRow (w : World) (B : Nat) (v : Value) (js : List Jt) : Prop := w.ownsRow B 78 4 v js.length (flatJ js)
/-- A row at the head of block g. -/
def JRowAt (w : World) (B g cap : Nat) (js : List Jt) : Prop := JRow w B (.slice (some ⟨g, 0, none⟩) js.length cap) js
theorem JRow.cases {w : World} {B : Nat} {v : Value} {js : List Jt} (h : JRow w B v js) (h0 : 0 < js.length) :
    ∃ g cap, v = .slice (some ⟨g, 0, none⟩) js.length cap ∧ JRowAt w B g cap js ∧ B ≤ g ∧ g < w.heap.size ∧ js.length ≤ cap ∧ cap ≤ maxLen := by
  have hh := h
  rcases h.2 with ⟨rfl, hz⟩ | ⟨g, cap, cur, rfl, hB, hg, hc, hm, -⟩
  · omega
  · exact ⟨g, cap, rfl, hh, hB, by have := (Array.getElem?_eq_some_iff.1 hg).1; exact this, hc, hm⟩
theorem JRowAt.lt {w : World} {B g cap : Nat} {js : List Jt} (h : JRowAt w B g cap js) : B ≤ g ∧ g < w.heap.size ∧ js.length ≤ cap ∧ cap ≤ maxLen := by
  rcases h.2 with ⟨h1, -⟩ | ⟨g', cap', cur, h1, hB, hg, hc, hm, -⟩
  · simp at h1
  · simp at h1; obtain ⟨rfl, rfl⟩ := h1; exact ⟨hB, by have := (Array.getElem?_eq_some_iff.1 hg).1; exact this, hc, hm⟩
theorem JRowAt.cells {w : World} {B g cap : Nat} {js : List Jt} (h : JRowAt w B g cap js) (i : Nat) (hi : i < js.length) :
    w.cell? ⟨g, i * 4, none⟩ = some (.int .i64 (jt js i).1.1) ∧ w.cell? ⟨g, i * 4 + 1, none⟩ = some (.int .i64 (jt js i).1.2) ∧ w.cell? ⟨g, i * 4 + 2, none⟩ = some (.int .i64 (jt js i).2.1) ∧ w.cell? ⟨g, i * 4 + 3, none⟩ = some (.int .i64 (jt js i).2.2) := by
  rw [World.ownsRow.cellAt h (i * 4) (by omega), World.ownsRow.cellAt h (i * 4 + 1) (by omega), World.ownsRow.cellAt h (i * 4 + 2) (by omega), World.ownsRow.cellAt h (i * 4 + 3) (by omega)]
  exact flatJ_at js i hi
theorem JRowAt.below {w w' : World} {B g cap : Nat} {js : List Jt} (h : JRowAt w B g cap js) (hb : Below w.heap.size w w') : JRowAt w' B g cap js := owns_below h hb
theorem JRow.below {w w' : World} {B : Nat} {v : Value} {js : List Jt} (h : JRow w B v js) (hb : Below w.heap.size w w') : JRow w' B v js := owns_below h hb
theorem JRow.base {w : World} {B B' : Nat} {v : Value} {js : List Jt} (h : JRow w B v js) (hb : B' ≤ B) : JRow w B' v js := owns_base h hb
theorem JRowAt.base {w : World} {B B' g cap : Nat} {js : List Jt} (h : JRowAt w B g cap js) (hb : B' ≤ B) : JRowAt w B' g cap js := owns_base h hb

/-- A new arch was handed back, in new memory; what was there is as it was. -/
def NewArch (js : List Jt) (w : World) (e : Ending) (w' : World) : Prop :=
  ∃ g cap, e = .returned (.agg #[.slice (some ⟨g, 0, none⟩) js.length cap]) ∧ JRowAt w' w.heap.size g cap js ∧ Below w.heap.size w w'

set_option maxHeartbeats 1000000 in
theorem l06Shape (k : Nat) (hk : k < 6) (w : World) :
    Calls Try.prog 50 #[.int .i64 k] w (NewArch (shape k) w) := by
  have lit : ∀ (cs : Array Value) (v : Value) (js : List Jt), cs.toList = flatJ js → cs.size = js.length * 4 → js.length ≤ 8 →
      JRowAt ((w.alloc (.cells #[v] 26)).alloc (.cells cs 78)) w.heap.size (w.heap.size + 1) js.length js := by
    intro cs v js h1 h2 h3
    have hro := World.ownsRow_lit (base := w.heap.size) (e := 78) (size := 4) (w.alloc (.cells #[v] 26)) cs js.length (by simp) (by unfold maxLen; omega) h2
    rw [h1] at hro
    simp only [World.size_alloc] at hro
    exact hro
  have hbel : ∀ (o1 o2 : Obj), Below w.heap.size w ((w.alloc o1).alloc o2) := fun o1 o2 =>
    ((Below.refl w.heap.size w).alloc (Nat.le_refl _) _).alloc (by simp) _
  have HL := Lib.hid lit
  have HB := Lib.hid hbel
  clear lit hbel
  rcases (show k = 0 ∨ k = 1 ∨ k = 2 ∨ k = 3 ∨ k = 4 ∨ k = 5 by omega) with rfl | rfl | rfl | rfl | rfl | rfl
  · go_enter Try.func50, Try.ntmps50
    go_wp2_with fail
    refine bodyPost_ret (v := .agg #[.slice (some ⟨w.heap.size + 1, 0, none⟩) 6 6]) (by simp [results, Try.results50, go_sem]) rfl ⟨_, _, rfl, ?_, HB.out _ _⟩
    exact HL.out _ _ (shape 0) (by rfl) (by rfl) (by decide)
  · go_enter Try.func50, Try.ntmps50
    go_wp2_with fail
    refine bodyPost_ret (v := .agg #[.slice (some ⟨w.heap.size + 1, 0, none⟩) 4 4]) (by simp [results, Try.results50, go_sem]) rfl ⟨_, _, rfl, ?_, HB.out _ _⟩
    exact HL.out _ _ (shape 1) (by rfl) (by rfl) (by decide)
  · go_enter Try.func50, Try.ntmps50
    go_wp2_with fail
    refine bodyPost_ret (v := .agg #[.slice (some ⟨w.heap.size + 1, 0, none⟩) 5 5]) (by simp [results, Try.results50, go_sem]) rfl ⟨_, _, rfl, ?_, HB.out _ _⟩
    exact HL.out _ _ (shape 2) (by rfl) (by rfl) (by decide)
  · go_enter Try.func50, Try.ntmps50
    go_wp2_with fail
    refine bodyPost_ret (v := .agg #[.slice (some ⟨w.heap.size + 1, 0, none⟩) 4 4]) (by simp [results, Try.results50, go_sem]) rfl ⟨_, _, rfl, ?_, HB.out _ _⟩
    exact HL.out _ _ (shape 3) (by rfl) (by rfl) (by decide)
  · go_enter Try.func50, Try.ntmps50
    go_wp2_with fail
    refine bodyPost_ret (v := .agg #[.slice (some ⟨w.heap.size + 1, 0, none⟩) 5 5]) (by simp [results, Try.results50, go_sem]) rfl ⟨_, _, rfl, ?_, HB.out _ _⟩
    exact HL.out _ _ (shape 4) (by rfl) (by rfl) (by decide)
  · go_enter Try.func50, Try.ntmps50
    go_wp2_with fail
    refine bodyPost_ret (v := .agg #[.slice (some ⟨w.heap.size + 1, 0, none⟩) 3 3]) (by simp [results, Try.results50, go_sem]) rfl ⟨_, _, rfl, ?_, HB.out _ _⟩
    exact HL.out _ _ (shape 5) (by rfl) (by rfl) (by decide)

end Go.Proofs.Ythkabimaebglhaa
