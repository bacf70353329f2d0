/- Arches: rows of joints as flat cells; the contracts of the model's shapes, of a copy; Arches in the laws: an arch as it comes in, its size, its copy, the comparison of arches; Arches: the contract of the model's ArchOk; Rows of sums: the numbers that a sum comes by, as an own slice of ints. -/
import Derived.Test.YtdaiffaedejnbaaGPlain
import Derived.Test.YtdaiffaedejnbaaStoneC
import Derived.Test.YtdaiffaedejnbaaGJoint
import Derived.Deep.AppendLies
import Derived.Deep.Cut
import Derived.Deep.CutRange
import Derived.Test.YtdaiffaedejnbaaGStone
import Derived.Deep.Slices

/- Arches: rows of joints as flat cells; the contracts of the model's shapes, of a copy. -/
namespace Go.Proofs.Ytdaiffaedejnbaa
set_option maxRecDepth 100000
open Go.ChangeShapes Go.WideShapes Go.ChangeAt Go.RowKit

/-- The cells of joints. -/
def flatJ (js : List Jt) : List Value := js.flatMap fun j => [.int .i64 j.1.1, .int .i64 j.1.2, .int .i64 j.2.1, .int .i64 j.2.2]
theorem flatJ_cons (j : Jt) (js : List Jt) : flatJ (j :: js) = .int .i64 j.1.1 :: .int .i64 j.1.2 :: .int .i64 j.2.1 :: .int .i64 j.2.2 :: flatJ js := rfl
theorem flatJ_length (js : List Jt) : (flatJ js).length = js.length * 4 := by
  induction js with
  | nil => rfl
  | cons j js ih => rw [flatJ_cons]; simp [ih]; omega
theorem flatJ_at (js : List Jt) (i : Nat) (h : i < js.length) :
    (flatJ js)[i * 4]? = some (.int .i64 (jt js i).1.1) ∧ (flatJ js)[i * 4 + 1]? = some (.int .i64 (jt js i).1.2) ∧ (flatJ js)[i * 4 + 2]? = some (.int .i64 (jt js i).2.1) ∧ (flatJ js)[i * 4 + 3]? = some (.int .i64 (jt js i).2.2) := by
  induction js generalizing i with
  | nil => simp at h
  | cons j js ih =>
    cases i with
    | zero => exact ⟨rfl, rfl, rfl, rfl⟩
    | succ i =>
      have := ih i (by simpa using h)
      rw [flatJ_cons, show (i + 1) * 4 = i * 4 + 1 + 1 + 1 + 1 by omega]
      simpa [jt] using this
theorem flatJ_inner (js : List Jt) (i : Nat) (x y : Int) (h : i < js.length) : ((flatJ js).set (i * 4) (.int .i64 x)).set (i * 4 + 1) (.int .i64 y) = flatJ (js.set i ((x, y), (jt js i).2)) := by
  induction js generalizing i with
  | nil => simp at h
  | cons j js ih =>
    cases i with
    | zero => rfl
    | succ i =>
      have := ih i (by simpa using h)
      rw [flatJ_cons, show (i + 1) * 4 = i * 4 + 1 + 1 + 1 + 1 by omega]
      simp only [List.set_cons_succ]
      rw [this, flatJ_cons]
      rfl
theorem flatJ_outer (js : List Jt) (i : Nat) (x y : Int) (h : i < js.length) : ((flatJ js).set (i * 4 + 2) (.int .i64 x)).set (i * 4 + 3) (.int .i64 y) = flatJ (js.set i ((jt js i).1, (x, y))) := by
  induction js generalizing i with
  | nil => simp at h
  | cons j js ih =>
    cases i with
    | zero => rfl
    | succ i =>
      have := ih i (by simpa using h)
      rw [flatJ_cons, show (i + 1) * 4 = i * 4 + 1 + 1 + 1 + 1 by omega]
      simp only [List.set_cons_succ]
      rw [this, flatJ_cons]
      rfl

/-- A slice of joints in a row of the program's own. -/
def JRow (w : World) (B : Nat) (v : Value) (js : List Jt) : Prop := w.ownsRow B 85 4 v js.length (flatJ js)
/-- A row at the head of block g. -/
def JRowAt (w : World) (B g cap : Nat) (js : List Jt) : Prop := JRow w B (.slice (some ⟨g, 0, none⟩) js.length cap) js
theorem JRow.cases {w : World} {B : Nat} {v : Value} {js : List Jt} (h : JRow w B v js) (h0 : 0 < js.length) :
    ∃ g cap, v = .slice (some ⟨g, 0, none⟩) js.length cap ∧ JRowAt w B g cap js ∧ B ≤ g ∧ g < w.heap.size ∧ js.length ≤ cap ∧ cap ≤ maxLen := by
  have hh := h
  rcases h.2 with ⟨rfl, hz⟩ | ⟨g, cap, cur, rfl, hB, hg, hc, hm, -⟩
  · omega
  · exact ⟨g, cap, rfl, hh, hB, by have := (Array.getElem?_eq_some_iff.1 hg).1; exact this, hc, hm⟩
theorem JRowAt.lt {w : World} {B g cap : Nat} {js : List Jt} (h : JRowAt w B g cap js) : B ≤ g ∧ g < w.heap.size ∧ js.length ≤ cap ∧ cap ≤ maxLen := by
  rcases h.2 with ⟨h1, -⟩ | ⟨g', cap', cur, h1, hB, hg, hc, hm, -⟩
  · simp at h1
  · simp at h1; obtain ⟨rfl, rfl⟩ := h1; exact ⟨hB, by have := (Array.getElem?_eq_some_iff.1 hg).1; exact this, hc, hm⟩
theorem JRowAt.cells {w : World} {B g cap : Nat} {js : List Jt} (h : JRowAt w B g cap js) (i : Nat) (hi : i < js.length) :
    w.cell? ⟨g, i * 4, none⟩ = some (.int .i64 (jt js i).1.1) ∧ w.cell? ⟨g, i * 4 + 1, none⟩ = some (.int .i64 (jt js i).1.2) ∧ w.cell? ⟨g, i * 4 + 2, none⟩ = some (.int .i64 (jt js i).2.1) ∧ w.cell? ⟨g, i * 4 + 3, none⟩ = some (.int .i64 (jt js i).2.2) := by
  rw [World.ownsRow.cellAt h (i * 4) (by omega), World.ownsRow.cellAt h (i * 4 + 1) (by omega), World.ownsRow.cellAt h (i * 4 + 2) (by omega), World.ownsRow.cellAt h (i * 4 + 3) (by omega)]
  exact flatJ_at js i hi
theorem JRowAt.below {w w' : World} {B g cap : Nat} {js : List Jt} (h : JRowAt w B g cap js) (hb : Below w.heap.size w w') : JRowAt w' B g cap js := owns_below h hb
theorem JRow.below {w w' : World} {B : Nat} {v : Value} {js : List Jt} (h : JRow w B v js) (hb : Below w.heap.size w w') : JRow w' B v js := owns_below h hb
theorem JRow.base {w : World} {B B' : Nat} {v : Value} {js : List Jt} (h : JRow w B v js) (hb : B' ≤ B) : JRow w B' v js := owns_base h hb
theorem JRowAt.base {w : World} {B B' g cap : Nat} {js : List Jt} (h : JRowAt w B g cap js) (hb : B' ≤ B) : JRowAt w B' g cap js := owns_base h hb

/-- A new arch was handed back, in new memory; what was there is as it was. -/
def NewArch (js : List Jt) (w : World) (e : Ending) (w' : World) : Prop :=
  ∃ g cap, e = .returned (.agg #[.slice (some ⟨g, 0, none⟩) js.length cap]) ∧ JRowAt w' w.heap.size g cap js ∧ Below w.heap.size w w'

set_option maxHeartbeats 1000000 in
theorem l06Shape (k : Nat) (hk : k < 6) (w : World) :
    Calls Try.prog 71 #[.int .i64 k] w (NewArch (shape k) w) := by
  have lit : ∀ (cs : Array Value) (v : Value) (js : List Jt), cs.toList = flatJ js → cs.size = js.length * 4 → js.length ≤ 8 →
      JRowAt ((w.alloc (.cells #[v] 40)).alloc (.cells cs 85)) w.heap.size (w.heap.size + 1) js.length js := by
    intro cs v js h1 h2 h3
    have hro := World.ownsRow_lit (base := w.heap.size) (e := 85) (size := 4) (w.alloc (.cells #[v] 40)) cs js.length (by simp) (by unfold maxLen; omega) h2
    rw [h1] at hro
    simp only [World.size_alloc] at hro
    exact hro
  have hbel : ∀ (o1 o2 : Obj), Below w.heap.size w ((w.alloc o1).alloc o2) := fun o1 o2 =>
    ((Below.refl w.heap.size w).alloc (Nat.le_refl _) _).alloc (by simp) _
  have HL := Lib.hid lit
  have HB := Lib.hid hbel
  clear lit hbel
  rcases (show k = 0 ∨ k = 1 ∨ k = 2 ∨ k = 3 ∨ k = 4 ∨ k = 5 by omega) with rfl | rfl | rfl | rfl | rfl | rfl
  · go_enter Try.func71, Try.ntmps71
    go_wp2_with fail
    refine bodyPost_ret (v := .agg #[.slice (some ⟨w.heap.size + 1, 0, none⟩) 6 6]) (by simp [results, Try.results71, go_sem]) rfl ⟨_, _, rfl, ?_, HB.out _ _⟩
    exact HL.out _ _ (shape 0) (by rfl) (by rfl) (by decide)
  · go_enter Try.func71, Try.ntmps71
    go_wp2_with fail
    refine bodyPost_ret (v := .agg #[.slice (some ⟨w.heap.size + 1, 0, none⟩) 4 4]) (by simp [results, Try.results71, go_sem]) rfl ⟨_, _, rfl, ?_, HB.out _ _⟩
    exact HL.out _ _ (shape 1) (by rfl) (by rfl) (by decide)
  · go_enter Try.func71, Try.ntmps71
    go_wp2_with fail
    refine bodyPost_ret (v := .agg #[.slice (some ⟨w.heap.size + 1, 0, none⟩) 5 5]) (by simp [results, Try.results71, go_sem]) rfl ⟨_, _, rfl, ?_, HB.out _ _⟩
    exact HL.out _ _ (shape 2) (by rfl) (by rfl) (by decide)
  · go_enter Try.func71, Try.ntmps71
    go_wp2_with fail
    refine bodyPost_ret (v := .agg #[.slice (some ⟨w.heap.size + 1, 0, none⟩) 4 4]) (by simp [results, Try.results71, go_sem]) rfl ⟨_, _, rfl, ?_, HB.out _ _⟩
    exact HL.out _ _ (shape 3) (by rfl) (by rfl) (by decide)
  · go_enter Try.func71, Try.ntmps71
    go_wp2_with fail
    refine bodyPost_ret (v := .agg #[.slice (some ⟨w.heap.size + 1, 0, none⟩) 5 5]) (by simp [results, Try.results71, go_sem]) rfl ⟨_, _, rfl, ?_, HB.out _ _⟩
    exact HL.out _ _ (shape 4) (by rfl) (by rfl) (by decide)
  · go_enter Try.func71, Try.ntmps71
    go_wp2_with fail
    refine bodyPost_ret (v := .agg #[.slice (some ⟨w.heap.size + 1, 0, none⟩) 3 3]) (by simp [results, Try.results71, go_sem]) rfl ⟨_, _, rfl, ?_, HB.out _ _⟩
    exact HL.out _ _ (shape 5) (by rfl) (by rfl) (by decide)

end Go.Proofs.Ytdaiffaedejnbaa

/- Arches in the laws: an arch as it comes in, its size, its copy, the comparison of arches. -/
namespace Go.Proofs.Ytdaiffaedejnbaa
set_option maxRecDepth 100000
open Go.ChangeShapes Go.WideShapes Go.ChangeAt Go.RowKit Go.Joins Go.Deep


/-- Joints that came in: whatever address; each four ints. -/
def InJts (w : World) (a : Option Addr) (n cap : Nat) (js : List Jt) : Prop :=
  js.length = n ∧ n ≤ cap ∧ cap ≤ maxLen ∧
  ((a = none ∧ n = 0 ∧ cap = 0) ∨ ∃ x, a = some x ∧ ∀ i, i < n → w.cell? (x.add (i * 4)) = some (.int .i64 (jt js i).1.1) ∧ w.cell? (x.add (i * 4 + 1)) = some (.int .i64 (jt js i).1.2) ∧ w.cell? (x.add (i * 4 + 2)) = some (.int .i64 (jt js i).2.1) ∧ w.cell? (x.add (i * 4 + 3)) = some (.int .i64 (jt js i).2.2))

theorem InJts.below {w w' : World} {a : Option Addr} {n cap : Nat} {js : List Jt} (h : InJts w a n cap js) (hb : Below w.heap.size w w') : InJts w' a n cap js := by
  obtain ⟨h1, h2, h3, h5⟩ := h
  refine ⟨h1, h2, h3, h5.imp id ?_⟩
  rintro ⟨x, rfl, hx⟩
  exact ⟨x, rfl, fun i hi => ⟨(hb.cell (cell_block_lt (hx i hi).1)).trans (hx i hi).1, (hb.cell (cell_block_lt (hx i hi).2.1)).trans (hx i hi).2.1, (hb.cell (cell_block_lt (hx i hi).2.2.1)).trans (hx i hi).2.2.1, (hb.cell (cell_block_lt (hx i hi).2.2.2)).trans (hx i hi).2.2.2⟩⟩

theorem jts_of {n : Nat} {q : Nat → Jt → Prop} (h : ∀ i, i < n → ∃ p, q i p) : ∃ js : List Jt, js.length = n ∧ ∀ i, i < n → q i (jt js i) := by
  induction n with
  | zero => exact ⟨[], rfl, fun i hi => absurd hi (Nat.not_lt_zero i)⟩
  | succ n ih =>
    obtain ⟨js, hl, hq⟩ := ih fun i hi => h i (by omega)
    obtain ⟨p, hp⟩ := h n (by omega)
    refine ⟨js ++ [p], by simp [hl], fun i hi => ?_⟩
    by_cases he : i < n
    · have := hq i he
      unfold jt at this ⊢
      rw [List.getD_eq_getElem?_getD, List.getElem?_append_left (by omega), ← List.getD_eq_getElem?_getD]
      exact this
    · obtain rfl : i = n := by omega
      unfold jt
      rw [List.getD_eq_getElem?_getD, List.getElem?_append_right (by omega), hl]
      simpa using hp

/-- Joints as far as they have been copied. -/
def flatJTo (js : List Jt) (k : Nat) : List Value := flatJ (js.take k) ++ List.replicate ((js.length - k) * 4) (.int .i64 0)
theorem flatJ_append (a b : List Jt) : flatJ (a ++ b) = flatJ a ++ flatJ b := by unfold flatJ; rw [List.flatMap_append]
theorem flatJTo_zero (js : List Jt) : flatJTo js 0 = List.replicate (js.length * 4) (.int .i64 0) := by simp [flatJTo, flatJ]
theorem flatJTo_end (js : List Jt) : flatJTo js js.length = flatJ js := by simp [flatJTo]
theorem flatJTo_next (js : List Jt) (k : Nat) (h : k < js.length) : ((((flatJTo js k).set (k * 4) (.int .i64 (jt js k).1.1)).set (k * 4 + 1) (.int .i64 (jt js k).1.2)).set (k * 4 + 2) (.int .i64 (jt js k).2.1)).set (k * 4 + 3) (.int .i64 (jt js k).2.2) = flatJTo js (k + 1) := by
  have hl : (flatJ (js.take k)).length = k * 4 := by rw [flatJ_length, List.length_take]; omega
  unfold flatJTo
  rw [show (js.length - k) * 4 = (js.length - (k + 1)) * 4 + 1 + 1 + 1 + 1 by omega]
  simp only [List.replicate_succ]
  rw [List.set_append_right _ _ (by omega), hl, Nat.sub_self, List.set_cons_zero, List.set_append_right _ _ (by omega), hl, show k * 4 + 1 - k * 4 = 1 by omega, List.set_cons_succ, List.set_cons_zero,
    List.set_append_right _ _ (by omega), hl, show k * 4 + 2 - k * 4 = 2 by omega, List.set_cons_succ, List.set_cons_succ, List.set_cons_zero,
    List.set_append_right _ _ (by omega), hl, show k * 4 + 3 - k * 4 = 3 by omega, List.set_cons_succ, List.set_cons_succ, List.set_cons_succ, List.set_cons_zero]
  rw [List.take_succ_eq_append_getElem h, flatJ_append, List.append_assoc, jt_get h]
  rfl
theorem flatJTo_at (js : List Jt) (k i : Nat) (h : k < js.length) (hi : i < 4) : (flatJTo js k)[k * 4 + i]? = some (.int .i64 0) := by
  have hl : (flatJ (js.take k)).length = k * 4 := by rw [flatJ_length, List.length_take]; omega
  unfold flatJTo
  rw [List.getElem?_append_right (by omega), hl, List.getElem?_replicate, if_pos (by omega)]

theorem made_zeroJ (n : Nat) : (madeCells (Value.agg #[.int .i64 0, .int .i64 0, .int .i64 0, .int .i64 0]).cells n).toList = List.replicate n (Value.int .i64 0) := by
  unfold madeCells
  rw [Array.toList_map]
  refine List.ext_getElem (by simp) fun i h1 h2 => ?_
  rw [List.getElem_map, List.getElem_replicate]
  have : i % 4 = 0 ∨ i % 4 = 1 ∨ i % 4 = 2 ∨ i % 4 = 3 := by omega
  simp [Value.cells]
  rcases this with h | h | h | h <;> simp [h]
theorem Try.infoJn : (Try.prog.info? 85).map (fun i => (i.zero, i.size, i.bytes)) = some (some (.agg #[.int .i64 0, .int .i64 0, .int .i64 0, .int .i64 0]), 4, 32) := by kernel_rfl


theorem JRow.nil (w : World) (B : Nat) : JRow w B (.slice none 0 0) [] := World.ownsRow_nil w B _ _
theorem JRow.cases' {w : World} {B : Nat} {v : Value} {js : List Jt} (h : JRow w B v js) :
    (v = .slice none 0 0 ∧ js = []) ∨ ∃ g cap, v = .slice (some ⟨g, 0, none⟩) js.length cap ∧ JRowAt w B g cap js ∧ B ≤ g ∧ g < w.heap.size ∧ js.length ≤ cap ∧ cap ≤ maxLen := by
  have hh := h
  rcases h.2 with ⟨rfl, hz⟩ | ⟨g, cap, cur, rfl, hB, hg, hc, hm, -⟩
  · exact .inl ⟨rfl, List.length_eq_zero_iff.1 hz⟩
  · exact .inr ⟨g, cap, rfl, hh, hB, by have := (Array.getElem?_eq_some_iff.1 hg).1; exact this, hc, hm⟩
theorem jrow_slice {w : World} {B : Nat} {v : Value} {js : List Jt} (h : JRow w B v js) : ∃ a cap, v = .slice a js.length cap ∧ js.length ≤ cap ∧ cap ≤ maxLen := by
  rcases h.cases' with ⟨rfl, rfl⟩ | ⟨g, cap, rfl, -, -, -, h1, h2⟩
  · exact ⟨none, 0, rfl, Nat.le_refl _, Nat.zero_le _⟩
  · exact ⟨_, cap, rfl, h1, h2⟩
theorem JRowAt.alloc {w : World} {B g cap : Nat} {js : List Jt} (h : JRowAt w B g cap js) (o : Obj) : JRowAt (w.alloc o) B g cap js := World.ownsRow.alloc h o
theorem JRowAt.row {w : World} {B g cap : Nat} {js : List Jt} (h : JRowAt w B g cap js) : JRow w B (.slice (some ⟨g, 0, none⟩) js.length cap) js := h
theorem JRow.after {w w' : World} {B n : Nat} {v : Value} {js : List Jt} (h : JRow w B v js) (hb : Below (w.drewN n).heap.size (w.drewN n) w') : JRow w' B v js := owns_below (w := w.drewN n) h hb
theorem JRowAt.after {w w' : World} {B g cap n : Nat} {js : List Jt} (h : JRowAt w B g cap js) (hb : Below (w.drewN n).heap.size (w.drewN n) w') : JRowAt w' B g cap js := owns_below (w := w.drewN n) h hb

end Go.Proofs.Ytdaiffaedejnbaa

/- Arches: the contract of the model's ArchOk. -/
namespace Go.Proofs.Ytdaiffaedejnbaa
set_option maxRecDepth 100000
open Go.ChangeShapes Go.WideShapes Go.ChangeAt Go.RowKit

theorem l01In38 (n : Nat) (w : World) :
    Calls Try.prog 55 #[.int .i64 n, .int .i64 3, .int .i64 8] w fun e w' => e = .returned (.bool (decide (3 ≤ n ∧ n ≤ 8))) ∧ w = w' := by
  have h := l01InM (n : Int) 3 8 3 8 w (by decide) (by decide)
  have he : amid (n : Int) 3 8 = decide (3 ≤ n ∧ n ≤ 8) := by
    unfold amid
    rw [Bool.eq_iff_iff, decide_eq_true_iff, decide_eq_true_iff]
    omega
  rw [he] at h
  exact h

theorem st_drew2 {w w' : World} {n : Nat} (h : Below (w.drewN n).heap.size (w.drewN n) w') : Below w.heap.size w w' := (below_drewN (Below.refl w.heap.size w) n).trans h
theorem st_al2 {w w' : World} {o : Obj} (h : Below (w.alloc o).heap.size (w.alloc o) w') : Below w.heap.size w w' := ((Below.refl w.heap.size w).alloc (Nat.le_refl _) o).trans (h.mono (by simp))
theorem st_dal2 {w w' : World} {n : Nat} {o : Obj} (h : Below ((w.drewN n).alloc o).heap.size ((w.drewN n).alloc o) w') : Below w.heap.size w w' := (below_drewN (Below.refl w.heap.size w) n).trans (st_al2 h)
theorem fr_al2 {w w' : World} {v : Value} {t : TypeId} (h : Below (w.alloc (.cells #[v] t)).heap.size (w.alloc (.cells #[v] t)) w') : w'.cell? ⟨w.heap.size, 0, none⟩ = some v ∧ w'.frozen? ⟨w.heap.size, 0, none⟩ = false ∧ w.heap.size < w'.heap.size :=
  ⟨cell_kept (w := w.alloc (.cells #[v] t)) (by go_simp) h, (h.frozen (p := ⟨w.heap.size, 0, none⟩) (by simp)).trans (by go_simp), by have := h.size; simp at this; omega⟩
theorem fr_dal2 {w w' : World} {n : Nat} {v : Value} {t : TypeId} (h : Below ((w.drewN n).alloc (.cells #[v] t)).heap.size ((w.drewN n).alloc (.cells #[v] t)) w') : w'.cell? ⟨w.heap.size, 0, none⟩ = some v ∧ w'.frozen? ⟨w.heap.size, 0, none⟩ = false ∧ w.heap.size < w'.heap.size := fr_al2 (w := w.drewN n) h
theorem cell_sf2 {w : World} {b o c d : Nat} {v u : Value} (h : w.cell? ⟨b, o, none⟩ = some v) (hb : b ≠ c) : (w.setCell ⟨c, d, none⟩ u).cell? ⟨b, o, none⟩ = some v := by
  rw [World.cell?_of_block (w := w) (Below.heap_setCell w ⟨c, d, none⟩ u b (fun e => hb e))]; exact h
theorem below_al2 {a w : World} (h : Below a.heap.size a w) (o : Obj) : Below a.heap.size a (w.alloc o) := h.alloc h.size o

theorem arch_no {n k j : Nat} {js : List Jt} (hn : js.length = n) (hl : linksV js = allFrom (n - 1) 0 (linkV js)) (ha : allFrom (n - 1) (k - 1) (linkV js) = allFrom (n - 1) 0 (linkV js)) (hj : j + 1 = k) (hk : k < n) (h : linkV js j = false) : archV js = false := by
  unfold archV
  rw [hl, ← ha, show k - 1 = j by omega, allFrom_no (by omega) h, Bool.false_and]

set_option maxRecDepth 100000 in
set_option maxHeartbeats 2000000 in
theorem specArchOk (w : World) (B g cap n : Nat) (js : List Jt) (hr : JRowAt w B g cap js) (hn : js.length = n) (h8 : n ≤ 1048576) :
    Calls Try.prog 72 #[.agg #[.slice (some ⟨g, 0, none⟩) n cap]] w fun e w' => e = .returned (.bool (archV js)) ∧ Below w.heap.size w w' := by
  have hlt := hr.lt
  have HR := Lib.hid hr
  have hb0 := (Below.refl w.heap.size w).alloc (Nat.le_refl _) (.cells #[.slice (some ⟨g, 0, none⟩) n cap] 40)
  have hs0 : (w.alloc (.cells #[.slice (some ⟨g, 0, none⟩) n cap] 40)).cell? ⟨w.heap.size, 0, none⟩ = some (.slice (some ⟨g, 0, none⟩) n cap) := by go_simp
  have HB0 := Lib.hid hb0
  have HS0 := Lib.hid hs0
  have HN := Lib.hid hn
  have hlv : linksV js = allFrom (n - 1) 0 (linkV js) := by rw [← hn]; rfl
  have HLV := Lib.hid hlv
  obtain ⟨-, hgw, hcap, hcm⟩ := hlt
  rw [hn] at hcap
  unfold maxLen at hcm
  clear hr hb0 hs0 hn hlv
  go_enter Try.func72, Try.ntmps72
  go_wp2_with fail
  go_loopw [3] (fun t wr => ∃ k : Nat, 1 ≤ k ∧ (k ≤ n ∨ k = 1) ∧ t = .int .i64 k ∧ allFrom (n - 1) (k - 1) (linkV js) = allFrom (n - 1) 0 (linkV js) ∧ Below w.heap.size w wr ∧ wr.cell? ⟨w.heap.size, 0, none⟩ = some (.slice (some ⟨g, 0, none⟩) n cap))
    (fun t _ => n - (intOf t).toNat)
  case atStart => exact ⟨1, Nat.le_refl _, .inr rfl, rfl, rfl, HB0.out, HS0.out⟩
  case round =>
    obtain ⟨k, hk1, hkn, rfl, hall, hbw, hsw⟩ := hrel
    have HB := Lib.hid hbw
    have HA := Lib.hid hall
    clear hbw hall
    by_cases hlt : k < n
    · have hlN := HN.out
      obtain ⟨j, hj⟩ : ∃ j : Nat, j + 1 = k := ⟨k - 1, by omega⟩
      have hrw := JRowAt.below HR.out HB.out
      obtain ⟨a0, a1, a2, a3⟩ := hrw.cells j (by omega)
      obtain ⟨c0, c1, c2, c3⟩ := hrw.cells k (by omega)
      obtain ⟨⟨⟨ax, ay⟩, ⟨bx, by_⟩⟩, ea⟩ : ∃ p, jt js j = p := ⟨_, rfl⟩
      obtain ⟨⟨⟨cx, cy⟩, ⟨dx, dy⟩⟩, ec⟩ : ∃ p, jt js k = p := ⟨_, rfl⟩
      rw [ea] at a0 a1 a2 a3
      rw [ec] at c0 c1 c2 c3
      dsimp only at a0 a1 a2 a3 c0 c1 c2 c3
      have hL : linkV js j = (stoneV (betw ((ax, ay), (bx, by_)) ((cx, cy), (dx, dy))) && decide (ax < cx)) := by unfold linkV; rw [hj, ea, ec]
      have hSB := fun W => specStoneBetween ax ay bx by_ cx cy dx dy W
      unfold BetAns at hSB
      generalize stoneV (betw ((ax, ay), (bx, by_)) ((cx, cy), (dx, dy))) = S at *
      generalize betV ((ax, ay), (bx, by_)) ((cx, cy), (dx, dy)) = V at *
      have HSB := Lib.hid hSB
      have HL := Lib.hid hL
      have HJ := Lib.hid hj
      have hj0 : (0 : Int) ≤ (j : Int) := Int.natCast_nonneg _
      have hjn : (j : Int) < (n : Int) := by omega
      have hk0 : (0 : Int) ≤ (k : Int) := Int.natCast_nonneg _
      have hkn' : (k : Int) < (n : Int) := by omega
      have e1 : IntKind.i64.wrap ((k : Int) - 1) = (j : Int) := by rw [IntWalk.i64_in _ (by omega)]; omega
      have mw := Nat.ne_of_lt (cell_block_lt hsw)
      have mg := Nat.ne_of_lt (cell_block_lt a0)
      dsimp only at mw mg
      have nw := Ne.symm mw
      have ng := Ne.symm mg
      clear hSB hL hj ea ec hrw hlN
      go_wp2_with fail
      go_cut [4, 5] from 13 to 27 (fun p q wx => ∃ b : Nat, p = .pointer (some ⟨b, 0, none⟩) ∧ q = .bool S ∧ Below wr.heap.size wr wx)
      case first =>
        go_region_held3 (fun w' => w'.cell? ⟨w.heap.size, 0, none⟩ = some (.slice (some ⟨g, 0, none⟩) n cap) ∧ w'.cell? ⟨g, j * 4, none⟩ = some (.int .i64 ax) ∧ w'.cell? ⟨g, j * 4 + 1, none⟩ = some (.int .i64 ay) ∧ w'.cell? ⟨g, j * 4 + 2, none⟩ = some (.int .i64 bx) ∧ w'.cell? ⟨g, j * 4 + 3, none⟩ = some (.int .i64 by_) ∧ w'.cell? ⟨g, k * 4, none⟩ = some (.int .i64 cx) ∧ w'.cell? ⟨g, k * 4 + 1, none⟩ = some (.int .i64 cy) ∧ w'.cell? ⟨g, k * 4 + 2, none⟩ = some (.int .i64 dx) ∧ w'.cell? ⟨g, k * 4 + 3, none⟩ = some (.int .i64 dy))
          (first | (refine ⟨?_, ?_, ?_, ?_, ?_, ?_, ?_, ?_, ?_⟩ <;> exact cell_sf2 (by assumption) (by assumption)) | go_keep | trivial)
          (first
            | (go_at_call 73; refine (HSB.out _).mono ?_; rintro e w4 ⟨u4, rfl, hr4, hb4⟩; obtain ⟨sa, sc, hu4, -⟩ := row_sliceS hr4; have hs4 : Below wr.heap.size wr w4 := (by first | exact hb4 | exact st_drew2 hb4 | exact st_al2 hb4 | exact st_dal2 hb4); have s4 : w4.cell? ⟨w.heap.size, 0, none⟩ = some (.slice (some ⟨g, 0, none⟩) n cap) := cell_kept hsw hs4; have a04 : w4.cell? ⟨g, j * 4, none⟩ = some (.int .i64 ax) := cell_kept a0 hs4; have a14 : w4.cell? ⟨g, j * 4 + 1, none⟩ = some (.int .i64 ay) := cell_kept a1 hs4; have a24 : w4.cell? ⟨g, j * 4 + 2, none⟩ = some (.int .i64 bx) := cell_kept a2 hs4; have a34 : w4.cell? ⟨g, j * 4 + 3, none⟩ = some (.int .i64 by_) := cell_kept a3 hs4; have c04 : w4.cell? ⟨g, k * 4, none⟩ = some (.int .i64 cx) := cell_kept c0 hs4; have c14 : w4.cell? ⟨g, k * 4 + 1, none⟩ = some (.int .i64 cy) := cell_kept c1 hs4; have c24 : w4.cell? ⟨g, k * 4 + 2, none⟩ = some (.int .i64 dx) := cell_kept c2 hs4; have c34 : w4.cell? ⟨g, k * 4 + 3, none⟩ = some (.int .i64 dy) := cell_kept c3 hs4; (first | (have z4 := fr_dal2 (w := wr) hb4) | (have z4 := fr_al2 (w := wr) hb4) | skip); (try (obtain ⟨zc4, zf4, zl4⟩ := z4)); have mw4 := Nat.ne_of_lt (cell_block_lt s4); have mg4 := Nat.ne_of_lt (cell_block_lt a04); dsimp only at mw4 mg4; have nw4 := Ne.symm mw4; have ng4 := Ne.symm mg4; have HB4 := Lib.hid hs4; clear hr4 hb4 hs4; subst hu4))
        all_goals
          go_wp2_with fail
          go_meet
          refine ⟨_, rfl, rfl, ?_⟩
        all_goals
          repeat (first | refine Below.setCell ?_ (by first | exact Nat.le_refl _ | exact HB4.out.size) _ | exact HB4.out | exact below_al2 HB4.out _)
      case rest =>
        obtain ⟨b, rfl, rfl, hX⟩ := hcut
        have HB5 := Lib.hid (HB.out.trans (hX.mono HB.out.size))
        have s5 : wc.cell? ⟨w.heap.size, 0, none⟩ = some (.slice (some ⟨g, 0, none⟩) n cap) := cell_kept hsw hX
        have a05 : wc.cell? ⟨g, j * 4, none⟩ = some (.int .i64 ax) := cell_kept a0 hX
        have a15 : wc.cell? ⟨g, j * 4 + 1, none⟩ = some (.int .i64 ay) := cell_kept a1 hX
        have a25 : wc.cell? ⟨g, j * 4 + 2, none⟩ = some (.int .i64 bx) := cell_kept a2 hX
        have a35 : wc.cell? ⟨g, j * 4 + 3, none⟩ = some (.int .i64 by_) := cell_kept a3 hX
        have c05 : wc.cell? ⟨g, k * 4, none⟩ = some (.int .i64 cx) := cell_kept c0 hX
        have c15 : wc.cell? ⟨g, k * 4 + 1, none⟩ = some (.int .i64 cy) := cell_kept c1 hX
        have c25 : wc.cell? ⟨g, k * 4 + 2, none⟩ = some (.int .i64 dx) := cell_kept c2 hX
        have c35 : wc.cell? ⟨g, k * 4 + 3, none⟩ = some (.int .i64 dy) := cell_kept c3 hX
        clear hX mw mg nw ng
        cases S
        · have HL0 := Lib.hid (show linkV js j = false from HL.out)
          go_wp2_with fail
          have hn1 := Since.nonempty wc
          have t0 := fun (x : Since wc) => (x.cell w.heap.size 0 (cell_block_lt s5)).trans s5
          refine wp_region_since (by kernel_rfl) (by kernel_rfl) ?_
          repeat (go_big_quiet_step (fail))
          refine wpQuiet_nil ?_
          rintro w6 ⟨⟨w6, hb6⟩, rfl⟩
          go_wp2_with fail
          go_ret
          exact ⟨ret_bool (arch_no HN.out HLV.out HA.out HJ.out hlt HL0.out).symm, HB5.out.trans (hb6.mono HB5.out.size)⟩
        · by_cases hx : cx ≤ ax
          · have HL0 := Lib.hid (show linkV js j = false by rw [HL.out, decide_eq_false (by omega)]; rfl)
            have hd : decide (cx ≤ ax) = true := decide_eq_true hx
            clear hx
            go_wp2_with fail
            have hn1 := Since.nonempty wc
            have t0 := fun (x : Since wc) => (x.cell w.heap.size 0 (cell_block_lt s5)).trans s5
            have t1 := fun (x : Since wc) => (x.cell g (j * 4) (cell_block_lt a05)).trans a05
            have t2 := fun (x : Since wc) => (x.cell g (k * 4) (cell_block_lt c05)).trans c05
            refine wp_region_since (by kernel_rfl) (by kernel_rfl) ?_
            repeat (go_big_quiet_step (fail))
            refine wpQuiet_nil ?_
            rintro w6 ⟨⟨w6, hb6⟩, rfl⟩
            go_wp2_with fail
            go_ret
            exact ⟨ret_bool (arch_no HN.out HLV.out HA.out HJ.out hlt HL0.out).symm, HB5.out.trans (hb6.mono HB5.out.size)⟩
          · have HL0 := Lib.hid (show linkV js j = true by rw [HL.out, decide_eq_true (by omega)]; rfl)
            have hd : decide (cx ≤ ax) = false := decide_eq_false hx
            clear hx
            go_wp2_with fail
            have hn1 := Since.nonempty wc
            have t0 := fun (x : Since wc) => (x.cell w.heap.size 0 (cell_block_lt s5)).trans s5
            have t1 := fun (x : Since wc) => (x.cell g (j * 4) (cell_block_lt a05)).trans a05
            have t2 := fun (x : Since wc) => (x.cell g (k * 4) (cell_block_lt c05)).trans c05
            refine wp_region_since (by kernel_rfl) (by kernel_rfl) ?_
            repeat (go_big_quiet_step (fail))
            refine wpQuiet_nil ?_
            rintro w6 ⟨⟨w6, hb6⟩, rfl⟩
            go_wp2_with fail
            have HB7 := Lib.hid (HB5.out.trans (hb6.mono HB5.out.size))
            have s7 := cell_kept s5 hb6
            clear hb6
            go_roundw
            case rel => exact ⟨k + 1, by omega, by omega, by go_num, by have h1 := HJ.out; rw [← HA.out, show k + 1 - 1 = j + 1 by omega, show k - 1 = j by omega]; exact allFrom_yes (by omega) HL0.out, HB7.out, s7⟩
            case measure => simp [intOf]; omega
    · have hk : k - 1 = n - 1 := by omega
      have HK := Lib.hid hk
      clear hk
      go_wp2_with fail
      refine (l01In38 _ _).mono ?_
      rintro e w1 ⟨rfl, rfl⟩
      go_wp2_with fail
      go_ret
      exact ⟨ret_bool (by unfold archV; rw [HLV.out, ← HA.out, HK.out, allFrom_end, HN.out, Bool.true_and]; simp), HB.out⟩
end Go.Proofs.Ytdaiffaedejnbaa

/- Rows of sums: the numbers that a sum comes by, as an own slice of ints. -/
namespace Go.Proofs.Ytdaiffaedejnbaa
set_option maxRecDepth 100000
open Go.ChangeShapes Go.WideShapes Go.ChangeAt Go.RowKit

theorem Try.infoIn : (Try.prog.info? 3).map (fun i => (i.zero, i.size, i.bytes)) = some (some (.int .i64 0), 1, 8) := by kernel_rfl
/-- The cells of the first k of these numbers. -/
def sums (f : Nat → Int) (k : Nat) : List Value := (List.range k).map fun i => .int .i64 (sumTo f i)
theorem sums_length (f : Nat → Int) (k : Nat) : (sums f k).length = k := by simp [sums]
theorem sums_next (f : Nat → Int) (k : Nat) : sums f (k + 1) = sums f k ++ [.int .i64 (sumTo f k)] := by unfold sums; rw [List.range_succ, List.map_append]; rfl
theorem sums_at (f : Nat → Int) (k i : Nat) (h : i < k) : (sums f k)[i]? = some (.int .i64 (sumTo f i)) := by
  unfold sums
  rw [List.getElem?_map, List.getElem?_range h]
  rfl
/-- A row of sums of the call's own. -/
def SumRow (w : World) (H : Nat) (g c k : Nat) (f : Nat → Int) : Prop := w.ownsRow H 3 1 (.slice (some ⟨g, 0, none⟩) k c) k (sums f k)
theorem SumRow.below {w w' : World} {H g c k : Nat} {f : Nat → Int} (h : SumRow w H g c k f) (hb : Below w.heap.size w w') : SumRow w' H g c k f := owns_below h hb
theorem SumRow.lt {w : World} {H g c k : Nat} {f : Nat → Int} (h : SumRow w H g c k f) : H ≤ g ∧ g < w.heap.size ∧ k ≤ c ∧ c ≤ maxLen := by
  rcases h.2 with ⟨h1, -⟩ | ⟨g', cap', cur, h1, hB, hg, hc, hm, -⟩
  · simp at h1
  · simp at h1; obtain ⟨rfl, rfl⟩ := h1; exact ⟨hB, (Array.getElem?_eq_some_iff.1 hg).1, hc, hm⟩
theorem SumRow.cell {w : World} {H g c k : Nat} {f : Nat → Int} (h : SumRow w H g c k f) (i : Nat) (hi : i < k) : w.cell? ⟨g, i, none⟩ = some (.int .i64 (sumTo f i)) := by
  rw [World.ownsRow.cellAt h i (by omega)]
  exact sums_at f k i hi
theorem SumRow.kept {w w' : World} {H g c k : Nat} {f : Nat → Int} {row : Option Nat} (h : SumRow w H g c k f) (hg : w.grownBy w' row) (hne : some g ≠ row) : SumRow w' H g c k f :=
  World.ownsRow.kept h hg (.inr (by show some g ≠ row; exact hne))
theorem sum_one (w : World) (H : Nat) (f : Nat → Int) (hH : H ≤ w.heap.size) : SumRow (w.alloc (.cells #[.int .i64 0] 3)) H w.heap.size 1 1 f := by
  have := World.ownsRow_lit (base := H) (e := 3) (size := 1) w #[.int .i64 0] 1 hH (by unfold maxLen; omega) rfl
  exact this
end Go.Proofs.Ytdaiffaedejnbaa
