/- Arches: rows of joints as flat cells; the contracts of the model's shapes, of a copy; Arches in the laws: an arch as it comes in, its size, its copy, the comparison of arches; Arches: the contract of the model's ArchOk; Rows of sums: the numbers that a sum comes by, as an own slice of ints; Marks in the joints of an arch: what is written is read again. -/
import Derived.Test.YtbmlcfdilopmgaaGPlain
import Derived.Test.YtbmlcfdilopmgaaStoneC
import Derived.Test.YtbmlcfdilopmgaaGJoint
import Derived.Deep.AppendLies
import Derived.Deep.Cut
import Derived.Deep.CutRange
import Derived.Test.YtbmlcfdilopmgaaGStone
import Derived.Deep.Slices

/- Arches: rows of joints as flat cells; the contracts of the model's shapes, of a copy. -/
namespace Go.Proofs.Ytbmlcfdilopmgaa
set_option maxRecDepth 100000
open Go.ChangeShapes Go.WideShapes Go.ChangeAt Go.RowKit

/-- The cells of joints. -/
def flatJ (js : List Jt) : List Value := js.flatMap fun j => [.int .i64 j.1.1, .int .i64 j.1.2, .int .i64 j.2.1, .int .i64 j.2.2]
theorem flatJ_cons (j : Jt) (js : List Jt) : flatJ (j :: js) = .int .i64 j.1.1 :: .int .i64 j.1.2 :: .int .i64 j.2.1 :: .int .i64 j.2.2 :: flatJ js := rfl
theorem flatJ_length (js : List Jt) : (flatJ js).length = js.length * 4 := by
  induction js with
  | nil => rfl
  | cons j js ih => rw [flatJ_cons]; simp [ih]; omega
theorem flatJ_at (js : List Jt) (i : Nat) (h : i < js.length) :
    (flatJ js)[i * 4]? = some (.int .i64 (jt js i).1.1) ∧ (flatJ js)[i * 4 + 1]? = some (.int .i64 (jt js i).1.2) ∧ (flatJ js)[i * 4 + 2]? = some (.int .i64 (jt js i).2.1) ∧ (flatJ js)[i * 4 + 3]? = some (.int .i64 (jt js i).2.2) := by
  induction js generalizing i with
  | nil => simp at h
  | cons j js ih =>
    cases i with
    | zero => exact ⟨rfl, rfl, rfl, rfl⟩
    | succ i =>
      have := ih i (by simpa using h)
      rw [flatJ_cons, show (i + 1) * 4 = i * 4 + 1 + 1 + 1 + 1 by omega]
      simpa [jt] using this
theorem flatJ_inner (js : List Jt) (i : Nat) (x y : Int) (h : i < js.length) : ((flatJ js).set (i * 4) (.int .i64 x)).set (i * 4 + 1) (.int .i64 y) = flatJ (js.set i ((x, y), (jt js i).2)) := by
  induction js generalizing i with
  | nil => simp at h
  | cons j js ih =>
    cases i with
    | zero => rfl
    | succ i =>
      have := ih i (by simpa using h)
      rw [flatJ_cons, show (i + 1) * 4 = i * 4 + 1 + 1 + 1 + 1 by omega]
      simp only [List.set_cons_succ]
      rw [this, flatJ_cons]
      rfl
theorem flatJ_outer (js : List Jt) (i : Nat) (x y : Int) (h : i < js.length) : ((flatJ js).set (i * 4 + 2) (.int .i64 x)).set (i * 4 + 3) (.int .i64 y) = flatJ (js.set i ((jt js i).1, (x, y))) := by
  induction js generalizing i with
  | nil => simp at h
  | cons j js ih =>
    cases i with
    | zero => rfl
    | succ i =>
      have := ih i (by simpa using h)
      rw [flatJ_cons, show (i + 1) * 4 = i * 4 + 1 + 1 + 1 + 1 by omega]
      simp only [List.set_cons_succ]
      rw [this, flatJ_cons]
      rfl

/-- A slice of joints in a row of the program's own. -/
def JRow (w : World) (B : Nat) (v : Value) (js : List Jt) : Prop := w.ownsRow B 102 4 v js.length (flatJ js)
/-- A row at the head of block g. -/
def JRowAt (w : World) (B g cap : Nat) (js : List Jt) : Prop := JRow w B (.slice (some ⟨g, 0, none⟩) js.length cap) js
theorem JRow.cases {w : World} {B : Nat} {v : Value} {js : List Jt} (h : JRow w B v js) (h0 : 0 < js.length) :
    ∃ g cap, v = .slice (some ⟨g, 0, none⟩) js.length cap ∧ JRowAt w B g cap js ∧ B ≤ g ∧ g < w.heap.size ∧ js.length ≤ cap ∧ cap ≤ maxLen := by
  have hh := h
  rcases h.2 with ⟨rfl, hz⟩ | ⟨g, cap, cur, rfl, hB, hg, hc, hm, -⟩
  · omega
  · exact ⟨g, cap, rfl, hh, hB, by have := (Array.getElem?_eq_some_iff.1 hg).1; exact this, hc, hm⟩
theorem JRowAt.lt {w : World} {B g cap : Nat} {js : List Jt} (h : JRowAt w B g cap js) : B ≤ g ∧ g < w.heap.size ∧ js.length ≤ cap ∧ cap ≤ maxLen := by
  rcases h.2 with ⟨h1, -⟩ | ⟨g', cap', cur, h1, hB, hg, hc, hm, -⟩
  · simp at h1
  · simp at h1; obtain ⟨rfl, rfl⟩ := h1; exact ⟨hB, by have := (Array.getElem?_eq_some_iff.1 hg).1; exact this, hc, hm⟩
theorem JRowAt.cells {w : World} {B g cap : Nat} {js : List Jt} (h : JRowAt w B g cap js) (i : Nat) (hi : i < js.length) :
    w.cell? ⟨g, i * 4, none⟩ = some (.int .i64 (jt js i).1.1) ∧ w.cell? ⟨g, i * 4 + 1, none⟩ = some (.int .i64 (jt js i).1.2) ∧ w.cell? ⟨g, i * 4 + 2, none⟩ = some (.int .i64 (jt js i).2.1) ∧ w.cell? ⟨g, i * 4 + 3, none⟩ = some (.int .i64 (jt js i).2.2) := by
  rw [World.ownsRow.cellAt h (i * 4) (by omega), World.ownsRow.cellAt h (i * 4 + 1) (by omega), World.ownsRow.cellAt h (i * 4 + 2) (by omega), World.ownsRow.cellAt h (i * 4 + 3) (by omega)]
  exact flatJ_at js i hi
theorem JRowAt.below {w w' : World} {B g cap : Nat} {js : List Jt} (h : JRowAt w B g cap js) (hb : Below w.heap.size w w') : JRowAt w' B g cap js := owns_below h hb
theorem JRow.below {w w' : World} {B : Nat} {v : Value} {js : List Jt} (h : JRow w B v js) (hb : Below w.heap.size w w') : JRow w' B v js := owns_below h hb
theorem JRow.base {w : World} {B B' : Nat} {v : Value} {js : List Jt} (h : JRow w B v js) (hb : B' ≤ B) : JRow w B' v js := owns_base h hb
theorem JRowAt.base {w : World} {B B' g cap : Nat} {js : List Jt} (h : JRowAt w B g cap js) (hb : B' ≤ B) : JRowAt w B' g cap js := owns_base h hb

/-- A new arch was handed back, in new memory; what was there is as it was. -/
def NewArch (js : List Jt) (w : World) (e : Ending) (w' : World) : Prop :=
  ∃ g cap, e = .returned (.agg #[.slice (some ⟨g, 0, none⟩) js.length cap]) ∧ JRowAt w' w.heap.size g cap js ∧ Below w.heap.size w w'

set_option maxHeartbeats 1000000 in
theorem l06Shape (k : Nat) (hk : k < 6) (w : World) :
    Calls Try.prog 51 #[.int .i64 k] w (NewArch (shape k) w) := by
  have lit : ∀ (cs : Array Value) (v : Value) (js : List Jt), cs.toList = flatJ js → cs.size = js.length * 4 → js.length ≤ 8 →
      JRowAt ((w.alloc (.cells #[v] 26)).alloc (.cells cs 102)) w.heap.size (w.heap.size + 1) js.length js := by
    intro cs v js h1 h2 h3
    have hro := World.ownsRow_lit (base := w.heap.size) (e := 102) (size := 4) (w.alloc (.cells #[v] 26)) cs js.length (by simp) (by unfold maxLen; omega) h2
    rw [h1] at hro
    simp only [World.size_alloc] at hro
    exact hro
  have hbel : ∀ (o1 o2 : Obj), Below w.heap.size w ((w.alloc o1).alloc o2) := fun o1 o2 =>
    ((Below.refl w.heap.size w).alloc (Nat.le_refl _) _).alloc (by simp) _
  have HL := Lib.hid lit
  have HB := Lib.hid hbel
  clear lit hbel
  rcases (show k = 0 ∨ k = 1 ∨ k = 2 ∨ k = 3 ∨ k = 4 ∨ k = 5 by omega) with rfl | rfl | rfl | rfl | rfl | rfl
  · go_enter Try.func51, Try.ntmps51
    go_wp2_with fail
    refine bodyPost_ret (v := .agg #[.slice (some ⟨w.heap.size + 1, 0, none⟩) 6 6]) (by simp [results, Try.results51, go_sem]) rfl ⟨_, _, rfl, ?_, HB.out _ _⟩
    exact HL.out _ _ (shape 0) (by rfl) (by rfl) (by decide)
  · go_enter Try.func51, Try.ntmps51
    go_wp2_with fail
    refine bodyPost_ret (v := .agg #[.slice (some ⟨w.heap.size + 1, 0, none⟩) 4 4]) (by simp [results, Try.results51, go_sem]) rfl ⟨_, _, rfl, ?_, HB.out _ _⟩
    exact HL.out _ _ (shape 1) (by rfl) (by rfl) (by decide)
  · go_enter Try.func51, Try.ntmps51
    go_wp2_with fail
    refine bodyPost_ret (v := .agg #[.slice (some ⟨w.heap.size + 1, 0, none⟩) 5 5]) (by simp [results, Try.results51, go_sem]) rfl ⟨_, _, rfl, ?_, HB.out _ _⟩
    exact HL.out _ _ (shape 2) (by rfl) (by rfl) (by decide)
  · go_enter Try.func51, Try.ntmps51
    go_wp2_with fail
    refine bodyPost_ret (v := .agg #[.slice (some ⟨w.heap.size + 1, 0, none⟩) 4 4]) (by simp [results, Try.results51, go_sem]) rfl ⟨_, _, rfl, ?_, HB.out _ _⟩
    exact HL.out _ _ (shape 3) (by rfl) (by rfl) (by decide)
  · go_enter Try.func51, Try.ntmps51
    go_wp2_with fail
    refine bodyPost_ret (v := .agg #[.slice (some ⟨w.heap.size + 1, 0, none⟩) 5 5]) (by simp [results, Try.results51, go_sem]) rfl ⟨_, _, rfl, ?_, HB.out _ _⟩
    exact HL.out _ _ (shape 4) (by rfl) (by rfl) (by decide)
  · go_enter Try.func51, Try.ntmps51
    go_wp2_with fail
    refine bodyPost_ret (v := .agg #[.slice (some ⟨w.heap.size + 1, 0, none⟩) 3 3]) (by simp [results, Try.results51, go_sem]) rfl ⟨_, _, rfl, ?_, HB.out _ _⟩
    exact HL.out _ _ (shape 5) (by rfl) (by rfl) (by decide)

end Go.Proofs.Ytbmlcfdilopmgaa

/- Arches in the laws: an arch as it comes in, its size, its copy, the comparison of arches. -/
namespace Go.Proofs.Ytbmlcfdilopmgaa
set_option maxRecDepth 100000
open Go.ChangeShapes Go.WideShapes Go.ChangeAt Go.RowKit Go.Joins Go.Deep

theorem cellsArch : Try.prog.cellsOf 46 = 1 := by kernel_rfl

/-- Joints that came in: whatever address; each four ints. -/
def InJts (w : World) (a : Option Addr) (n cap : Nat) (js : List Jt) : Prop :=
  js.length = n ∧ n ≤ cap ∧ cap ≤ maxLen ∧
  ((a = none ∧ n = 0 ∧ cap = 0) ∨ ∃ x, a = some x ∧ ∀ i, i < n → w.cell? (x.add (i * 4)) = some (.int .i64 (jt js i).1.1) ∧ w.cell? (x.add (i * 4 + 1)) = some (.int .i64 (jt js i).1.2) ∧ w.cell? (x.add (i * 4 + 2)) = some (.int .i64 (jt js i).2.1) ∧ w.cell? (x.add (i * 4 + 3)) = some (.int .i64 (jt js i).2.2))

theorem InJts.below {w w' : World} {a : Option Addr} {n cap : Nat} {js : List Jt} (h : InJts w a n cap js) (hb : Below w.heap.size w w') : InJts w' a n cap js := by
  obtain ⟨h1, h2, h3, h5⟩ := h
  refine ⟨h1, h2, h3, h5.imp id ?_⟩
  rintro ⟨x, rfl, hx⟩
  exact ⟨x, rfl, fun i hi => ⟨(hb.cell (cell_block_lt (hx i hi).1)).trans (hx i hi).1, (hb.cell (cell_block_lt (hx i hi).2.1)).trans (hx i hi).2.1, (hb.cell (cell_block_lt (hx i hi).2.2.1)).trans (hx i hi).2.2.1, (hb.cell (cell_block_lt (hx i hi).2.2.2)).trans (hx i hi).2.2.2⟩⟩

theorem jts_of {n : Nat} {q : Nat → Jt → Prop} (h : ∀ i, i < n → ∃ p, q i p) : ∃ js : List Jt, js.length = n ∧ ∀ i, i < n → q i (jt js i) := by
  induction n with
  | zero => exact ⟨[], rfl, fun i hi => absurd hi (Nat.not_lt_zero i)⟩
  | succ n ih =>
    obtain ⟨js, hl, hq⟩ := ih fun i hi => h i (by omega)
    obtain ⟨p, hp⟩ := h n (by omega)
    refine ⟨js ++ [p], by simp [hl], fun i hi => ?_⟩
    by_cases he : i < n
    · have := hq i he
      unfold jt at this ⊢
      rw [List.getD_eq_getElem?_getD, List.getElem?_append_left (by omega), ← List.getD_eq_getElem?_getD]
      exact this
    · obtain rfl : i = n := by omega
      unfold jt
      rw [List.getD_eq_getElem?_getD, List.getElem?_append_right (by omega), hl]
      simpa using hp

/-- Four cells that read as a joint are four ints. -/
theorem joint_cells {H : Type} {enc : TypeId × Value → H} {w : World} {base fuel : Nat} {spare : Nat → Bool} {held : Bool} {c0 c1 c2 c3 : Value} {d : DataW H × List MemPlace}
    (hf : DataW.trod enc Try.prog w base spare held fuel 118 [c0, c1, c2, c3] = some d) : ∃ x y z u : Int, c0 = .int .i64 x ∧ c1 = .int .i64 y ∧ c2 = .int .i64 z ∧ c3 = .int .i64 u := by
  obtain ⟨y0, y1, n, hx, -, h0, h1⟩ := trod_struct2 Try.underlying118 hf
  have cp : Try.prog.cellsOf 116 = 2 := by kernel_rfl
  simp only [cp, List.drop_zero, List.take_succ_cons, List.take_zero, List.drop_succ_cons] at h0 h1
  obtain ⟨x, y, rfl, rfl, ix, iy⟩ := point_cells h0
  obtain ⟨z, u, rfl, rfl, iz, iu⟩ := point_cells h1
  exact ⟨x, y, z, u, rfl, rfl, rfl, rfl⟩

/-- An arch's one cell. -/
theorem arch_cell {H : Type} {enc : TypeId × Value → H} {w : World} {base fuel : Nat} {spare : Nat → Bool} {held : Bool} {c0 : Value} {d : DataW H × List MemPlace}
    (hf : DataW.trod enc Try.prog w base spare held fuel 46 [c0] = some d) :
    ∃ (a : Option Addr) (n cap : Nat) (js : List Jt), c0 = .slice a n cap ∧ InJts w a n cap js := by
  have hs := Try.underlying46
  obtain ⟨xs, n, _, hx, _, hlen, hg⟩ := DataW.trod_struct hs hf
  have k0 : Try.prog.cellsOf 44 = 1 := by kernel_rfl
  have hg0 : DataW.trod enc Try.prog w base spare held n 44 (List.take (Try.prog.cellsOf 44) (List.drop 0 [c0])) = xs[0]? := hg 0 _ rfl
  have hg1 : DataW.trod enc Try.prog w base spare held n 44 [c0] = xs[0]? := by rw [k0] at hg0; simpa using hg0
  have hx0 : xs[0]? = some (xs[0]'(by rw [hlen]; decide)) := List.getElem?_eq_getElem _
  rw [hx0] at hg1
  have cj : Try.prog.cellsOf 118 = 4 := by kernel_rfl
  rcases open_slice Try.underlying44 hg1 with ⟨hc, _⟩ | ⟨a, len, cap, m, fu, D, Pl, hc, _, hl, hm, hmm, _, hcell⟩
  · simp at hc
    subst hc
    exact ⟨none, 0, 0, [], rfl, rfl, Nat.le_refl _, Nat.zero_le _, .inl ⟨rfl, rfl, rfl⟩⟩
  · simp at hc
    subst hc
    have hlm : len ≤ m := by rw [hmm]; split <;> omega
    rw [cj] at hcell
    obtain ⟨js, hcl, hq⟩ := jts_of (n := len) (q := fun i p => w.cell? (a.add (i * 4)) = some (.int .i64 p.1.1) ∧ w.cell? (a.add (i * 4 + 1)) = some (.int .i64 p.1.2) ∧ w.cell? (a.add (i * 4 + 2)) = some (.int .i64 p.2.1) ∧ w.cell? (a.add (i * 4 + 3)) = some (.int .i64 p.2.2)) (fun i hi => by
      obtain ⟨cs', h1, h2⟩ := hcell i (by omega)
      obtain ⟨_, hlen', hat⟩ := World.cells?_some h1
      match cs', hlen' with
      | [v0, v1, v2, v3], _ =>
        obtain ⟨x, y, z, u, rfl, rfl, rfl, rfl⟩ := joint_cells h2
        have e0 := hat 0 (by omega)
        have e1 := hat 1 (by omega)
        have e2 := hat 2 (by omega)
        have e3 := hat 3 (by omega)
        rw [Go.Deep.add_add] at e0 e1 e2 e3
        exact ⟨((x, y), (z, u)), by simpa using e0, by simpa using e1, by simpa using e2, by simpa using e3⟩)
    exact ⟨some a, len, cap, js, rfl, hcl, hl, hm, .inr ⟨a, rfl, fun i hi => hq i hi⟩⟩

/-- An arch that came in. -/
theorem open_arch {H : Type} {enc : TypeId × Value → H} {w : World} {r : Reach} {b0 base : Nat} {spare : Nat → Bool} {held : Bool} {v : Value} {d : DataW H} {p : List MemPlace}
    (hv : Value.okWide Try.prog w r b0 46 v) (h : DataW.Trod enc Try.prog w base spare held 46 v d p) :
    ∃ (a : Option Addr) (n cap : Nat) (js : List Jt), v = .agg #[.slice a n cap] ∧ InJts w a n cap js := by
  have hs := Try.underlying46
  obtain ⟨cs, rfl, hsz⟩ := okWide_struct hs hv
  obtain ⟨l⟩ := cs
  match l, hsz.trans cellsArch with
  | [c0], _ =>
    obtain ⟨fuel, hf⟩ := h
    obtain ⟨a, n, cap, js, rfl, hi⟩ := arch_cell (c0 := c0) (by simpa [Value.cells] using hf)
    exact ⟨a, n, cap, js, rfl, hi⟩

/-- What szArch answers. -/
def szJ (n : Nat) : Int := if n ≤ 1048576 then 1048576 - n else -1

theorem szJointS (a : Option Addr) (n cap : Nat) (w : World) (hn : n ≤ maxLen) :
    Calls Try.prog 38 #[.slice a n cap, .int .i64 1048576] w fun e w' => e = .returned (.int .i64 (szJ n)) ∧ w = w' := by
  unfold maxLen at hn
  by_cases h : n ≤ 1048576
  · go_enter Try.func38, Try.ntmps38
    go_wp2
    go_ret
    exact ⟨ret_i64 (by unfold szJ; rw [if_pos h]), rfl⟩
  · go_enter Try.func38, Try.ntmps38
    go_wp2
    go_ret
    exact ⟨ret_i64 (by unfold szJ; rw [if_neg h]), rfl⟩

theorem szArch (a : Option Addr) (n cap : Nat) (w : World) (hn : n ≤ maxLen) :
    Calls Try.prog 15 #[.agg #[.slice a n cap], .int .i64 1048576] w fun e w' => e = .returned (.int .i64 (szJ n)) ∧ Below w.heap.size w w' := by
  have hv : -1 ≤ szJ n ∧ szJ n ≤ 1048576 := by unfold szJ; split <;> omega
  by_cases h : szJ n < 0
  · have hV : szJ n = -1 := by omega
    have HV := Lib.hid hV
    generalize hU : szJ n = V at *
    have HU := Lib.hid hU
    clear hU hV
    go_enter Try.func15, Try.ntmps15
    go_wp2_with fail
    refine (szJointS _ _ _ _ hn).mono ?_
    rintro e w1 ⟨rfl, rfl⟩
    rw [HU.out]
    go_wp2_with fail
    go_ret
    exact ⟨ret_i64 HV.out.symm, by repeat (first | exact Below.refl _ _ | refine Below.alloc ?_ (by simp <;> omega) _)⟩
  · generalize hU : szJ n = V at *
    have HU := Lib.hid hU
    clear hU
    go_enter Try.func15, Try.ntmps15
    go_wp2_with fail
    refine (szJointS _ _ _ _ hn).mono ?_
    rintro e w1 ⟨rfl, rfl⟩
    rw [HU.out]
    go_wp2_with fail
    go_ret
    exact ⟨rfl, by repeat (first | exact Below.refl _ _ | refine Below.alloc ?_ (by simp <;> omega) _)⟩

/-- Joints as far as they have been copied. -/
def flatJTo (js : List Jt) (k : Nat) : List Value := flatJ (js.take k) ++ List.replicate ((js.length - k) * 4) (.int .i64 0)
theorem flatJ_append (a b : List Jt) : flatJ (a ++ b) = flatJ a ++ flatJ b := by unfold flatJ; rw [List.flatMap_append]
theorem flatJTo_zero (js : List Jt) : flatJTo js 0 = List.replicate (js.length * 4) (.int .i64 0) := by simp [flatJTo, flatJ]
theorem flatJTo_end (js : List Jt) : flatJTo js js.length = flatJ js := by simp [flatJTo]
theorem flatJTo_next (js : List Jt) (k : Nat) (h : k < js.length) : ((((flatJTo js k).set (k * 4) (.int .i64 (jt js k).1.1)).set (k * 4 + 1) (.int .i64 (jt js k).1.2)).set (k * 4 + 2) (.int .i64 (jt js k).2.1)).set (k * 4 + 3) (.int .i64 (jt js k).2.2) = flatJTo js (k + 1) := by
  have hl : (flatJ (js.take k)).length = k * 4 := by rw [flatJ_length, List.length_take]; omega
  unfold flatJTo
  rw [show (js.length - k) * 4 = (js.length - (k + 1)) * 4 + 1 + 1 + 1 + 1 by omega]
  simp only [List.replicate_succ]
  rw [List.set_append_right _ _ (by omega), hl, Nat.sub_self, List.set_cons_zero, List.set_append_right _ _ (by omega), hl, show k * 4 + 1 - k * 4 = 1 by omega, List.set_cons_succ, List.set_cons_zero,
    List.set_append_right _ _ (by omega), hl, show k * 4 + 2 - k * 4 = 2 by omega, List.set_cons_succ, List.set_cons_succ, List.set_cons_zero,
    List.set_append_right _ _ (by omega), hl, show k * 4 + 3 - k * 4 = 3 by omega, List.set_cons_succ, List.set_cons_succ, List.set_cons_succ, List.set_cons_zero]
  rw [List.take_succ_eq_append_getElem h, flatJ_append, List.append_assoc, jt_get h]
  rfl
theorem flatJTo_at (js : List Jt) (k i : Nat) (h : k < js.length) (hi : i < 4) : (flatJTo js k)[k * 4 + i]? = some (.int .i64 0) := by
  have hl : (flatJ (js.take k)).length = k * 4 := by rw [flatJ_length, List.length_take]; omega
  unfold flatJTo
  rw [List.getElem?_append_right (by omega), hl, List.getElem?_replicate, if_pos (by omega)]

theorem made_zeroJ (n : Nat) : (madeCells (Value.agg #[.int .i64 0, .int .i64 0, .int .i64 0, .int .i64 0]).cells n).toList = List.replicate n (Value.int .i64 0) := by
  unfold madeCells
  rw [Array.toList_map]
  refine List.ext_getElem (by simp) fun i h1 h2 => ?_
  rw [List.getElem_map, List.getElem_replicate]
  have : i % 4 = 0 ∨ i % 4 = 1 ∨ i % 4 = 2 ∨ i % 4 = 3 := by omega
  simp [Value.cells]
  rcases this with h | h | h | h <;> simp [h]
theorem Try.infoJn : (Try.prog.info? 102).map (fun i => (i.zero, i.size, i.bytes)) = some (some (.agg #[.int .i64 0, .int .i64 0, .int .i64 0, .int .i64 0]), 4, 32) := by kernel_rfl

set_option maxHeartbeats 1000000 in
theorem toJointS (a : Option Addr) (n cap : Nat) (js : List Jt) (w : World) (h : InJts w a n cap js) (hn : n ≤ 1048576) :
    Calls Try.prog 40 #[.slice a n cap] w fun e w' => e = .returned (.slice (some ⟨w.heap.size, 0, none⟩) n n) ∧ JRowAt w' w.heap.size w.heap.size n js ∧ Below w.heap.size w w' := by
  obtain ⟨i0, hi, hz0, hz1, hz2⟩ := info_parts Try.infoJn
  obtain ⟨hl, hc, hm, hcase⟩ := h
  have hX : ∃ ad : Addr, 0 < n → a = some ad ∧ ∀ i, i < n → w.cell? (ad.add (i * 4)) = some (.int .i64 (jt js i).1.1) ∧ w.cell? (ad.add (i * 4 + 1)) = some (.int .i64 (jt js i).1.2) ∧ w.cell? (ad.add (i * 4 + 2)) = some (.int .i64 (jt js i).2.1) ∧ w.cell? (ad.add (i * 4 + 3)) = some (.int .i64 (jt js i).2.2) := by
    rcases hcase with ⟨rfl, h0, -⟩ | ⟨x, rfl, hx⟩
    · exact ⟨⟨0, 0, none⟩, fun h => absurd h (by omega)⟩
    · exact ⟨x, fun _ => ⟨rfl, hx⟩⟩
  clear hcase
  unfold maxLen at hm
  subst hl
  go_enter Try.func40, Try.ntmps40
  go_wp2_with (at_make; refine wpList_make_full _ rfl _ _ 24 rfl w.heap.size 102 i0 (.agg #[.int .i64 0, .int .i64 0, .int .i64 0, .int .i64 0]) 4 Try.underlying24 hi hz0 hz1 .i64 .i64 _ _ js.length rfl rfl rfl rfl (by rw [hz2]; omega) (by unfold maxLen; omega) (Nat.le_refl _) ?_; intro w0 hown0 hgrow0)
  rw [made_zeroJ, ← flatJTo_zero] at hown0
  have hb0 : Below w.heap.size w w0 := (Below.refl _ _).grown hgrow0 (Nat.le_refl _) (fun k hk => by cases hk)
  clear hgrow0
  obtain ⟨ad, hX⟩ := hX
  have HX := Lib.hid hX
  clear hX
  generalize hN : js.length = N at *
  have HN := Lib.hid hN
  clear hN
  go_loopw [4] (fun t wr => ∃ k : Nat, k ≤ N ∧ t = .int .i64 k ∧ wr.ownsRow w.heap.size 102 4 (.slice (some ⟨w.heap.size, 0, none⟩) N N) N (flatJTo js k) ∧ Below w.heap.size w wr)
    (fun t _ => N - (intOf t).toNat)
  case atStart => exact ⟨0, Nat.zero_le _, rfl, hown0, hb0⟩
  case round =>
    obtain ⟨k, hk, rfl, hown, hbw⟩ := hrel
    have HO := Lib.hid hown
    have HB := Lib.hid hbw
    by_cases hlt : k < N
    · obtain ⟨rfl, hcell⟩ := HX.out (by omega)
      obtain ⟨q0, q1, q2, q3⟩ := hcell k hlt
      have hadlt := cell_block_lt q0
      rw [adb] at hadlt
      have r0 : wr.cell? (ad.add (k * 4)) = some (.int .i64 (jt js k).1.1) := by rw [hbw.cell (by rw [adb]; exact hadlt)]; exact q0
      have r1 : wr.cell? ⟨(ad.add (k * 4)).block, (ad.add (k * 4)).off + 1, none⟩ = some (.int .i64 (jt js k).1.2) := by rw [ad1, Go.Deep.add_add, hbw.cell (by rw [adb]; exact hadlt)]; exact q1
      have r2 : wr.cell? ⟨(ad.add (k * 4)).block, (ad.add (k * 4)).off + 2, none⟩ = some (.int .i64 (jt js k).2.1) := by rw [show (⟨(ad.add (k * 4)).block, (ad.add (k * 4)).off + 2, none⟩ : Addr) = (ad.add (k * 4)).add 2 from rfl, Go.Deep.add_add, hbw.cell (by rw [adb]; exact hadlt)]; exact q2
      have r3 : wr.cell? ⟨(ad.add (k * 4)).block, (ad.add (k * 4)).off + 3, none⟩ = some (.int .i64 (jt js k).2.2) := by rw [show (⟨(ad.add (k * 4)).block, (ad.add (k * 4)).off + 3, none⟩ : Addr) = (ad.add (k * 4)).add 3 from rfl, Go.Deep.add_add, hbw.cell (by rw [adb]; exact hadlt)]; exact q3
      clear q0 q1 q2 q3 hcell HX hown hbw
      have HP := Lib.hid hlt
      obtain ⟨px, hpx⟩ : ∃ px, px = (jt js k).1.1 := ⟨_, rfl⟩
      obtain ⟨py, hpy⟩ : ∃ py, py = (jt js k).1.2 := ⟨_, rfl⟩
      obtain ⟨pz, hpz⟩ : ∃ pz, pz = (jt js k).2.1 := ⟨_, rfl⟩
      obtain ⟨pu, hpu⟩ : ∃ pu, pu = (jt js k).2.2 := ⟨_, rfl⟩
      rw [← hpx] at r0
      rw [← hpy] at r1
      rw [← hpz] at r2
      rw [← hpu] at r3
      have HPX := Lib.hid hpx
      have HPY := Lib.hid hpy
      have HPZ := Lib.hid hpz
      have HPU := Lib.hid hpu
      clear hpx hpy hpz hpu
      go_wp2_with fail
      refine (toJoint _ _ _ _ _).mono ?_
      rintro e w1 ⟨rfl, hb1⟩
      have ho1 := owns_below HO.out hb1
      have hlN := HN.out
      have c0 : w1.cell? ⟨w.heap.size, k * 4, none⟩ = some (.int .i64 0) := (World.ownsRow.cellAt ho1 (k * 4) (by omega)).trans (flatJTo_at js k 0 (by omega) (by omega))
      have c1 : w1.cell? ⟨w.heap.size, k * 4 + 1, none⟩ = some (.int .i64 0) := (World.ownsRow.cellAt ho1 (k * 4 + 1) (by omega)).trans (flatJTo_at js k 1 (by omega) (by omega))
      have c2 : w1.cell? ⟨w.heap.size, k * 4 + 2, none⟩ = some (.int .i64 0) := (World.ownsRow.cellAt ho1 (k * 4 + 2) (by omega)).trans (flatJTo_at js k 2 (by omega) (by omega))
      have c3 : w1.cell? ⟨w.heap.size, k * 4 + 3, none⟩ = some (.int .i64 0) := (World.ownsRow.cellAt ho1 (k * 4 + 3) (by omega)).trans (flatJTo_at js k 3 (by omega) (by omega))
      have hfr := fun j => World.ownsRow.frozenAt ho1 j
      have f0 := hfr (k * 4)
      have f1 := hfr (k * 4 + 1)
      have f2 := hfr (k * 4 + 2)
      have f3 := hfr (k * 4 + 3)
      have ho2 := (World.ownsRow.stored (World.ownsRow.stored (World.ownsRow.stored (World.ownsRow.stored ho1 (k * 4) (.int .i64 px)).1 (k * 4 + 1) (.int .i64 py)).1 (k * 4 + 2) (.int .i64 pz)).1 (k * 4 + 3) (.int .i64 pu)).1
      rw [HPX.out, HPY.out, HPZ.out, HPU.out, flatJTo_next js k (by omega), ← HPX.out, ← HPY.out, ← HPZ.out, ← HPU.out] at ho2
      have hbb : Below w.heap.size w ((((w1.setCell ⟨w.heap.size, k * 4, none⟩ (.int .i64 px)).setCell ⟨w.heap.size, k * 4 + 1, none⟩ (.int .i64 py)).setCell ⟨w.heap.size, k * 4 + 2, none⟩ (.int .i64 pz)).setCell ⟨w.heap.size, k * 4 + 3, none⟩ (.int .i64 pu)) :=
        ((((HB.out.trans (hb1.mono HB.out.size)).setCell (p := ⟨w.heap.size, k * 4, none⟩) (Nat.le_refl _) _).setCell (p := ⟨w.heap.size, k * 4 + 1, none⟩) (Nat.le_refl _) _).setCell (p := ⟨w.heap.size, k * 4 + 2, none⟩) (Nat.le_refl _) _).setCell (p := ⟨w.heap.size, k * 4 + 3, none⟩) (Nat.le_refl _) _
      have HO2 := Lib.hid ho2
      have HBB := Lib.hid hbb
      clear hfr ho1 ho2 hbb hlN HO HB hb1
      go_wp2_with fail
      go_roundw
      case rel => exact ⟨k + 1, by omega, by go_num, HO2.out, HBB.out⟩
      case measure => simp [intOf]; omega
    · obtain rfl : k = N := by omega
      clear hown hbw
      go_wp2_with fail
      go_ret
      have hlN := HN.out
      refine ⟨by rw [hlN]; rfl, ?_, HB.out⟩
      have := HO.out
      rw [← hlN, flatJTo_end] at this
      exact this

set_option maxHeartbeats 1000000 in
theorem toArch (a : Option Addr) (n cap : Nat) (js : List Jt) (w : World) (h : InJts w a n cap js) (hn : n ≤ 1048576) :
    Calls Try.prog 18 #[.agg #[.slice a n cap]] w fun e w' => ∃ g, w.heap.size ≤ g ∧ e = .returned (.agg #[.slice (some ⟨g, 0, none⟩) n n]) ∧ JRowAt w' w.heap.size g n js ∧ Below w.heap.size w w' := by
  have hl := h.1
  have hb0 := ((Below.refl w.heap.size w).alloc (by simp <;> omega) (.cells #[.slice a n cap] 46) |>.alloc (by simp <;> omega) (.cells #[.slice none 0 0] 26) |>.alloc (by simp <;> omega) (.cells #[.slice none 0 0] 26))
  have HI := Lib.hid (h.below hb0)
  have HB0 := Lib.hid hb0
  have HL := Lib.hid hl
  clear h hb0 hl
  go_enter Try.func18, Try.ntmps18
  go_wp2_with fail
  refine (toJointS _ _ _ js _ HI.out hn).mono ?_
  rintro e w1 ⟨rfl, ho, hb1⟩
  have hz := ho.lt
  obtain ⟨hc1, hf1⟩ := bcell hb1
  simp only [World.size_alloc] at hb1 ho hz
  have HO := Lib.hid ho
  clear ho
  go_wp2_with fail
  refine bodyPost_ret (v := .agg #[.slice (some ⟨w.heap.size + 1 + 1 + 1, 0, none⟩) n n]) (by simp [results, Try.results18, go_sem, hc1]) rfl ⟨_, ?_, rfl, ?_, ?_⟩
  · omega
  · have hl := HL.out
    subst hl
    have h1 := HO.out.base (B' := w.heap.size) (by omega)
    exact ownsRow_setCell_other (ownsRow_setCell_other h1 (a := ⟨_, _, none⟩) (fun he => by simp [Value.ownBlock] at he <;> omega) _) (a := ⟨_, _, none⟩) (fun he => by simp [Value.ownBlock] at he <;> omega) _
  · refine Below.setCell (Below.setCell ?_ (by simp <;> omega) _) (by simp <;> omega) _
    exact HB0.out.trans (hb1.mono (by omega))

theorem JRow.nil (w : World) (B : Nat) : JRow w B (.slice none 0 0) [] := World.ownsRow_nil w B _ _
theorem JRow.cases' {w : World} {B : Nat} {v : Value} {js : List Jt} (h : JRow w B v js) :
    (v = .slice none 0 0 ∧ js = []) ∨ ∃ g cap, v = .slice (some ⟨g, 0, none⟩) js.length cap ∧ JRowAt w B g cap js ∧ B ≤ g ∧ g < w.heap.size ∧ js.length ≤ cap ∧ cap ≤ maxLen := by
  have hh := h
  rcases h.2 with ⟨rfl, hz⟩ | ⟨g, cap, cur, rfl, hB, hg, hc, hm, -⟩
  · exact .inl ⟨rfl, List.length_eq_zero_iff.1 hz⟩
  · exact .inr ⟨g, cap, rfl, hh, hB, by have := (Array.getElem?_eq_some_iff.1 hg).1; exact this, hc, hm⟩
theorem jrow_slice {w : World} {B : Nat} {v : Value} {js : List Jt} (h : JRow w B v js) : ∃ a cap, v = .slice a js.length cap ∧ js.length ≤ cap ∧ cap ≤ maxLen := by
  rcases h.cases' with ⟨rfl, rfl⟩ | ⟨g, cap, rfl, -, -, -, h1, h2⟩
  · exact ⟨none, 0, rfl, Nat.le_refl _, Nat.zero_le _⟩
  · exact ⟨_, cap, rfl, h1, h2⟩
theorem JRowAt.alloc {w : World} {B g cap : Nat} {js : List Jt} (h : JRowAt w B g cap js) (o : Obj) : JRowAt (w.alloc o) B g cap js := World.ownsRow.alloc h o
theorem JRowAt.row {w : World} {B g cap : Nat} {js : List Jt} (h : JRowAt w B g cap js) : JRow w B (.slice (some ⟨g, 0, none⟩) js.length cap) js := h
theorem JRow.after {w w' : World} {B n : Nat} {v : Value} {js : List Jt} (h : JRow w B v js) (hb : Below (w.drewN n).heap.size (w.drewN n) w') : JRow w' B v js := owns_below (w := w.drewN n) h hb
theorem JRowAt.after {w w' : World} {B g cap n : Nat} {js : List Jt} (h : JRowAt w B g cap js) (hb : Below (w.drewN n).heap.size (w.drewN n) w') : JRowAt w' B g cap js := owns_below (w := w.drewN n) h hb

set_option maxHeartbeats 2000000 in
/-- Two rows of the same joints are told equal. -/
theorem eqJointS_rows (w : World) (B1 g1 cap1 B2 g2 cap2 n : Nat) (js : List Jt) (hn : js.length = n) (h1 : JRowAt w B1 g1 cap1 js) (h2 : JRowAt w B2 g2 cap2 js) :
    Calls Try.prog 43 #[.slice (some ⟨g1, 0, none⟩) n cap1, .slice (some ⟨g2, 0, none⟩) n cap2] w fun e w' => e = .returned (.bool true) ∧ Below w.heap.size w w' := by
  obtain ⟨-, hg1, hc1, hm1⟩ := h1.lt
  obtain ⟨-, hg2, hc2, hm2⟩ := h2.lt
  unfold maxLen at hm1
  have H1 := Lib.hid h1
  have H2 := Lib.hid h2
  have HN := Lib.hid hn
  rw [hn] at hc1 hc2
  clear h1 h2 hn
  go_enter Try.func43, Try.ntmps43
  go_wp2_with fail
  go_loopw [5] (fun t wr => ∃ k : Nat, k ≤ n ∧ t = .int .i64 k ∧ Below w.heap.size w wr)
    (fun t _ => n - (intOf t).toNat)
  case atStart => exact ⟨0, Nat.zero_le _, rfl, Below.refl _ _⟩
  case round =>
    obtain ⟨k, hk, rfl, hbw⟩ := hrel
    have HB := Lib.hid hbw
    by_cases hlt : k < n
    · have hlN := HN.out
      obtain ⟨a0, a1, a2, a3⟩ := (H1.out.below hbw).cells k (by omega)
      obtain ⟨b0, b1, b2, b3⟩ := (H2.out.below hbw).cells k (by omega)
      generalize (jt js k).1.1 = px at *
      generalize (jt js k).1.2 = py at *
      generalize (jt js k).2.1 = pz at *
      generalize (jt js k).2.2 = pu at *
      clear hbw hlN
      go_wp2_with fail
      have hn1 := Since.nonempty wr
      have hz := HB.out.size
      have sa0 := fun (x : Since wr) => (x.cell g1 (k * 4) (by omega)).trans a0
      have sa1 := fun (x : Since wr) => (x.cell g1 (k * 4 + 1) (by omega)).trans a1
      have sa2 := fun (x : Since wr) => (x.cell g1 (k * 4 + 2) (by omega)).trans a2
      have sa3 := fun (x : Since wr) => (x.cell g1 (k * 4 + 3) (by omega)).trans a3
      have sb0 := fun (x : Since wr) => (x.cell g2 (k * 4) (by omega)).trans b0
      have sb1 := fun (x : Since wr) => (x.cell g2 (k * 4 + 1) (by omega)).trans b1
      have sb2 := fun (x : Since wr) => (x.cell g2 (k * 4 + 2) (by omega)).trans b2
      have sb3 := fun (x : Since wr) => (x.cell g2 (k * 4 + 3) (by omega)).trans b3
      refine wp_region_since (by kernel_rfl) (by kernel_rfl) ?_
      repeat (go_big_quiet_step (first
        | (go_at_call 67; exact Since.call (eqJoint_same _ _ _ _ _))))
      refine wpQuiet_nil ?_
      rintro w2 ⟨⟨_, hb2⟩, rfl⟩
      have HB2 := Lib.hid (HB.out.trans (hb2.mono hz))
      clear sa0 sa1 sa2 sa3 sb0 sb1 sb2 sb3 hb2 a0 a1 a2 a3 b0 b1 b2 b3
      go_wp2_with fail
      go_roundw
      case rel => exact ⟨k + 1, by omega, by go_num, HB2.out⟩
      case measure => simp [intOf]; omega
    · obtain rfl : k = n := by omega
      clear hbw
      go_wp2_with fail
      go_ret
      exact ⟨rfl, HB.out⟩

/-- No joints are told equal to no joints. -/
theorem eqJointS_none (w : World) (a1 a2 : Option Addr) (cap1 cap2 : Nat) :
    Calls Try.prog 43 #[.slice a1 0 cap1, .slice a2 0 cap2] w fun e w' => e = .returned (.bool true) ∧ Below w.heap.size w w' := by
  go_enter Try.func43, Try.ntmps43
  go_wp2_with fail
  refine wp_loop_rounds 1 ?_
  rw [rounds_succ]
  go_wp2
  go_ret
  exact ⟨rfl, Below.refl _ _⟩

theorem eqJointS_same (w : World) (B1 B2 : Nat) (v1 v2 : Value) (js : List Jt) (h1 : JRow w B1 v1 js) (h2 : JRow w B2 v2 js) :
    Calls Try.prog 43 #[v1, v2] w fun e w' => e = .returned (.bool true) ∧ Below w.heap.size w w' := by
  rcases h1.cases' with ⟨rfl, rfl⟩ | ⟨g1, cap1, rfl, r1, -⟩
  · rcases h2.cases' with ⟨rfl, -⟩ | ⟨g2, cap2, rfl, r2, -⟩
    · exact eqJointS_none _ _ _ _ _
    · exact eqJointS_none _ _ _ _ _
  · rcases h2.cases' with ⟨rfl, rfl⟩ | ⟨g2, cap2, rfl, r2, -⟩
    · exact eqJointS_none _ _ _ _ _
    · exact eqJointS_rows _ _ _ _ _ _ _ _ js rfl r1 r2

theorem eqArch_same (w : World) (B1 B2 : Nat) (v1 v2 : Value) (js : List Jt) (h1 : JRow w B1 v1 js) (h2 : JRow w B2 v2 js) :
    Calls Try.prog 22 #[.agg #[v1], .agg #[v2]] w fun e w' => e = .returned (.bool true) ∧ Below w.heap.size w w' := by
  have hv1 : ∃ a1 n1 c1, v1 = .slice a1 n1 c1 := by obtain ⟨a, cap, rfl, -⟩ := jrow_slice h1; exact ⟨_, _, _, rfl⟩
  have hv2 : ∃ a2 n2 c2, v2 = .slice a2 n2 c2 := by obtain ⟨a, cap, rfl, -⟩ := jrow_slice h2; exact ⟨_, _, _, rfl⟩
  obtain ⟨a1, n1, c1, rfl⟩ := hv1
  obtain ⟨a2, n2, c2, rfl⟩ := hv2
  have H1 := Lib.hid h1
  have H2 := Lib.hid h2
  clear h1 h2
  go_enter Try.func22, Try.ntmps22
  go_wp2_with fail
  have hb0 := ((Below.refl w.heap.size w).alloc (Nat.le_refl _) (.cells #[.slice a1 n1 c1] 26) |>.alloc (by simp) (.cells #[.slice a2 n2 c2] 26))
  refine (eqJointS_same _ _ _ _ _ js (H1.out.below hb0) (H2.out.below hb0)).mono ?_
  rintro e w1 ⟨rfl, hb1⟩
  have hb2 := hb0.trans (hb1.mono (by simp <;> omega))
  go_wp2_with fail
  go_ret
  exact ⟨rfl, hb2⟩
end Go.Proofs.Ytbmlcfdilopmgaa

/- Arches: the contract of the model's ArchOk. -/
namespace Go.Proofs.Ytbmlcfdilopmgaa
set_option maxRecDepth 100000
open Go.ChangeShapes Go.WideShapes Go.ChangeAt Go.RowKit

theorem l01In38 (n : Nat) (w : World) :
    Calls Try.prog 73 #[.int .i64 n, .int .i64 3, .int .i64 8] w fun e w' => e = .returned (.bool (decide (3 ≤ n ∧ n ≤ 8))) ∧ w = w' := by
  have h := l01InM (n : Int) 3 8 3 8 w (by decide) (by decide)
  have he : amid (n : Int) 3 8 = decide (3 ≤ n ∧ n ≤ 8) := by
    unfold amid
    rw [Bool.eq_iff_iff, decide_eq_true_iff, decide_eq_true_iff]
    omega
  rw [he] at h
  exact h

theorem st_drew2 {w w' : World} {n : Nat} (h : Below (w.drewN n).heap.size (w.drewN n) w') : Below w.heap.size w w' := (below_drewN (Below.refl w.heap.size w) n).trans h
theorem st_al2 {w w' : World} {o : Obj} (h : Below (w.alloc o).heap.size (w.alloc o) w') : Below w.heap.size w w' := ((Below.refl w.heap.size w).alloc (Nat.le_refl _) o).trans (h.mono (by simp))
theorem st_dal2 {w w' : World} {n : Nat} {o : Obj} (h : Below ((w.drewN n).alloc o).heap.size ((w.drewN n).alloc o) w') : Below w.heap.size w w' := (below_drewN (Below.refl w.heap.size w) n).trans (st_al2 h)
theorem fr_al2 {w w' : World} {v : Value} {t : TypeId} (h : Below (w.alloc (.cells #[v] t)).heap.size (w.alloc (.cells #[v] t)) w') : w'.cell? ⟨w.heap.size, 0, none⟩ = some v ∧ w'.frozen? ⟨w.heap.size, 0, none⟩ = false ∧ w.heap.size < w'.heap.size :=
  ⟨cell_kept (w := w.alloc (.cells #[v] t)) (by go_simp) h, (h.frozen (p := ⟨w.heap.size, 0, none⟩) (by simp)).trans (by go_simp), by have := h.size; simp at this; omega⟩
theorem fr_dal2 {w w' : World} {n : Nat} {v : Value} {t : TypeId} (h : Below ((w.drewN n).alloc (.cells #[v] t)).heap.size ((w.drewN n).alloc (.cells #[v] t)) w') : w'.cell? ⟨w.heap.size, 0, none⟩ = some v ∧ w'.frozen? ⟨w.heap.size, 0, none⟩ = false ∧ w.heap.size < w'.heap.size := fr_al2 (w := w.drewN n) h
theorem cell_sf2 {w : World} {b o c d : Nat} {v u : Value} (h : w.cell? ⟨b, o, none⟩ = some v) (hb : b ≠ c) : (w.setCell ⟨c, d, none⟩ u).cell? ⟨b, o, none⟩ = some v := by
  rw [World.cell?_of_block (w := w) (Below.heap_setCell w ⟨c, d, none⟩ u b (fun e => hb e))]; exact h
theorem below_al2 {a w : World} (h : Below a.heap.size a w) (o : Obj) : Below a.heap.size a (w.alloc o) := h.alloc h.size o

theorem arch_no {n k j : Nat} {js : List Jt} (hn : js.length = n) (hl : linksV js = allFrom (n - 1) 0 (linkV js)) (ha : allFrom (n - 1) (k - 1) (linkV js) = allFrom (n - 1) 0 (linkV js)) (hj : j + 1 = k) (hk : k < n) (h : linkV js j = false) : archV js = false := by
  unfold archV
  rw [hl, ← ha, show k - 1 = j by omega, allFrom_no (by omega) h, Bool.false_and]

set_option maxRecDepth 100000 in
set_option maxHeartbeats 2000000 in
theorem specArchOk (w : World) (B g cap n : Nat) (js : List Jt) (hr : JRowAt w B g cap js) (hn : js.length = n) (h8 : n ≤ 1048576) :
    Calls Try.prog 71 #[.agg #[.slice (some ⟨g, 0, none⟩) n cap]] w fun e w' => e = .returned (.bool (archV js)) ∧ Below w.heap.size w w' := by
  have hlt := hr.lt
  have HR := Lib.hid hr
  have hb0 := (Below.refl w.heap.size w).alloc (Nat.le_refl _) (.cells #[.slice (some ⟨g, 0, none⟩) n cap] 26)
  have hs0 : (w.alloc (.cells #[.slice (some ⟨g, 0, none⟩) n cap] 26)).cell? ⟨w.heap.size, 0, none⟩ = some (.slice (some ⟨g, 0, none⟩) n cap) := by go_simp
  have HB0 := Lib.hid hb0
  have HS0 := Lib.hid hs0
  have HN := Lib.hid hn
  have hlv : linksV js = allFrom (n - 1) 0 (linkV js) := by rw [← hn]; rfl
  have HLV := Lib.hid hlv
  obtain ⟨-, hgw, hcap, hcm⟩ := hlt
  rw [hn] at hcap
  unfold maxLen at hcm
  clear hr hb0 hs0 hn hlv
  go_enter Try.func71, Try.ntmps71
  go_wp2_with fail
  go_loopw [3] (fun t wr => ∃ k : Nat, 1 ≤ k ∧ (k ≤ n ∨ k = 1) ∧ t = .int .i64 k ∧ allFrom (n - 1) (k - 1) (linkV js) = allFrom (n - 1) 0 (linkV js) ∧ Below w.heap.size w wr ∧ wr.cell? ⟨w.heap.size, 0, none⟩ = some (.slice (some ⟨g, 0, none⟩) n cap))
    (fun t _ => n - (intOf t).toNat)
  case atStart => exact ⟨1, Nat.le_refl _, .inr rfl, rfl, rfl, HB0.out, HS0.out⟩
  case round =>
    obtain ⟨k, hk1, hkn, rfl, hall, hbw, hsw⟩ := hrel
    have HB := Lib.hid hbw
    have HA := Lib.hid hall
    clear hbw hall
    by_cases hlt : k < n
    · have hlN := HN.out
      obtain ⟨j, hj⟩ : ∃ j : Nat, j + 1 = k := ⟨k - 1, by omega⟩
      have hrw := JRowAt.below HR.out HB.out
      obtain ⟨a0, a1, a2, a3⟩ := hrw.cells j (by omega)
      obtain ⟨c0, c1, c2, c3⟩ := hrw.cells k (by omega)
      obtain ⟨⟨⟨ax, ay⟩, ⟨bx, by_⟩⟩, ea⟩ : ∃ p, jt js j = p := ⟨_, rfl⟩
      obtain ⟨⟨⟨cx, cy⟩, ⟨dx, dy⟩⟩, ec⟩ : ∃ p, jt js k = p := ⟨_, rfl⟩
      rw [ea] at a0 a1 a2 a3
      rw [ec] at c0 c1 c2 c3
      dsimp only at a0 a1 a2 a3 c0 c1 c2 c3
      have hL : linkV js j = (stoneV (betw ((ax, ay), (bx, by_)) ((cx, cy), (dx, dy))) && decide (ax < cx)) := by unfold linkV; rw [hj, ea, ec]
      have hSB := fun W => specStoneBetween ax ay bx by_ cx cy dx dy W
      unfold BetAns at hSB
      generalize stoneV (betw ((ax, ay), (bx, by_)) ((cx, cy), (dx, dy))) = S at *
      generalize betV ((ax, ay), (bx, by_)) ((cx, cy), (dx, dy)) = V at *
      have HSB := Lib.hid hSB
      have HL := Lib.hid hL
      have HJ := Lib.hid hj
      have hj0 : (0 : Int) ≤ (j : Int) := Int.natCast_nonneg _
      have hjn : (j : Int) < (n : Int) := by omega
      have hk0 : (0 : Int) ≤ (k : Int) := Int.natCast_nonneg _
      have hkn' : (k : Int) < (n : Int) := by omega
      have e1 : IntKind.i64.wrap ((k : Int) - 1) = (j : Int) := by rw [IntWalk.i64_in _ (by omega)]; omega
      have mw := Nat.ne_of_lt (cell_block_lt hsw)
      have mg := Nat.ne_of_lt (cell_block_lt a0)
      dsimp only at mw mg
      have nw := Ne.symm mw
      have ng := Ne.symm mg
      clear hSB hL hj ea ec hrw hlN
      go_wp2_with fail
      go_cut [4, 5] from 13 to 27 (fun p q wx => ∃ b : Nat, p = .pointer (some ⟨b, 0, none⟩) ∧ q = .bool S ∧ Below wr.heap.size wr wx)
      case first =>
        go_region_held3 (fun w' => w'.cell? ⟨w.heap.size, 0, none⟩ = some (.slice (some ⟨g, 0, none⟩) n cap) ∧ w'.cell? ⟨g, j * 4, none⟩ = some (.int .i64 ax) ∧ w'.cell? ⟨g, j * 4 + 1, none⟩ = some (.int .i64 ay) ∧ w'.cell? ⟨g, j * 4 + 2, none⟩ = some (.int .i64 bx) ∧ w'.cell? ⟨g, j * 4 + 3, none⟩ = some (.int .i64 by_) ∧ w'.cell? ⟨g, k * 4, none⟩ = some (.int .i64 cx) ∧ w'.cell? ⟨g, k * 4 + 1, none⟩ = some (.int .i64 cy) ∧ w'.cell? ⟨g, k * 4 + 2, none⟩ = some (.int .i64 dx) ∧ w'.cell? ⟨g, k * 4 + 3, none⟩ = some (.int .i64 dy))
          (first | (refine ⟨?_, ?_, ?_, ?_, ?_, ?_, ?_, ?_, ?_⟩ <;> exact cell_sf2 (by assumption) (by assumption)) | go_keep | trivial)
          (first
            | (go_at_call 77; refine (HSB.out _).mono ?_; rintro e w4 ⟨u4, rfl, hr4, hb4⟩; obtain ⟨sa, sc, hu4, -⟩ := row_sliceS hr4; have hs4 : Below wr.heap.size wr w4 := (by first | exact hb4 | exact st_drew2 hb4 | exact st_al2 hb4 | exact st_dal2 hb4); have s4 : w4.cell? ⟨w.heap.size, 0, none⟩ = some (.slice (some ⟨g, 0, none⟩) n cap) := cell_kept hsw hs4; have a04 : w4.cell? ⟨g, j * 4, none⟩ = some (.int .i64 ax) := cell_kept a0 hs4; have a14 : w4.cell? ⟨g, j * 4 + 1, none⟩ = some (.int .i64 ay) := cell_kept a1 hs4; have a24 : w4.cell? ⟨g, j * 4 + 2, none⟩ = some (.int .i64 bx) := cell_kept a2 hs4; have a34 : w4.cell? ⟨g, j * 4 + 3, none⟩ = some (.int .i64 by_) := cell_kept a3 hs4; have c04 : w4.cell? ⟨g, k * 4, none⟩ = some (.int .i64 cx) := cell_kept c0 hs4; have c14 : w4.cell? ⟨g, k * 4 + 1, none⟩ = some (.int .i64 cy) := cell_kept c1 hs4; have c24 : w4.cell? ⟨g, k * 4 + 2, none⟩ = some (.int .i64 dx) := cell_kept c2 hs4; have c34 : w4.cell? ⟨g, k * 4 + 3, none⟩ = some (.int .i64 dy) := cell_kept c3 hs4; (first | (have z4 := fr_dal2 (w := wr) hb4) | (have z4 := fr_al2 (w := wr) hb4) | skip); (try (obtain ⟨zc4, zf4, zl4⟩ := z4)); have mw4 := Nat.ne_of_lt (cell_block_lt s4); have mg4 := Nat.ne_of_lt (cell_block_lt a04); dsimp only at mw4 mg4; have nw4 := Ne.symm mw4; have ng4 := Ne.symm mg4; have HB4 := Lib.hid hs4; clear hr4 hb4 hs4; subst hu4))
        all_goals
          go_wp2_with fail
          go_meet
          refine ⟨_, rfl, rfl, ?_⟩
        all_goals
          repeat (first | refine Below.setCell ?_ (by first | exact Nat.le_refl _ | exact HB4.out.size) _ | exact HB4.out | exact below_al2 HB4.out _)
      case rest =>
        obtain ⟨b, rfl, rfl, hX⟩ := hcut
        have HB5 := Lib.hid (HB.out.trans (hX.mono HB.out.size))
        have s5 : wc.cell? ⟨w.heap.size, 0, none⟩ = some (.slice (some ⟨g, 0, none⟩) n cap) := cell_kept hsw hX
        have a05 : wc.cell? ⟨g, j * 4, none⟩ = some (.int .i64 ax) := cell_kept a0 hX
        have a15 : wc.cell? ⟨g, j * 4 + 1, none⟩ = some (.int .i64 ay) := cell_kept a1 hX
        have a25 : wc.cell? ⟨g, j * 4 + 2, none⟩ = some (.int .i64 bx) := cell_kept a2 hX
        have a35 : wc.cell? ⟨g, j * 4 + 3, none⟩ = some (.int .i64 by_) := cell_kept a3 hX
        have c05 : wc.cell? ⟨g, k * 4, none⟩ = some (.int .i64 cx) := cell_kept c0 hX
        have c15 : wc.cell? ⟨g, k * 4 + 1, none⟩ = some (.int .i64 cy) := cell_kept c1 hX
        have c25 : wc.cell? ⟨g, k * 4 + 2, none⟩ = some (.int .i64 dx) := cell_kept c2 hX
        have c35 : wc.cell? ⟨g, k * 4 + 3, none⟩ = some (.int .i64 dy) := cell_kept c3 hX
        clear hX mw mg nw ng
        cases S
        · have HL0 := Lib.hid (show linkV js j = false from HL.out)
          go_wp2_with fail
          have hn1 := Since.nonempty wc
          have t0 := fun (x : Since wc) => (x.cell w.heap.size 0 (cell_block_lt s5)).trans s5
          refine wp_region_since (by kernel_rfl) (by kernel_rfl) ?_
          repeat (go_big_quiet_step (fail))
          refine wpQuiet_nil ?_
          rintro w6 ⟨⟨w6, hb6⟩, rfl⟩
          go_wp2_with fail
          go_ret
          exact ⟨ret_bool (arch_no HN.out HLV.out HA.out HJ.out hlt HL0.out).symm, HB5.out.trans (hb6.mono HB5.out.size)⟩
        · by_cases hx : cx ≤ ax
          · have HL0 := Lib.hid (show linkV js j = false by rw [HL.out, decide_eq_false (by omega)]; rfl)
            have hd : decide (cx ≤ ax) = true := decide_eq_true hx
            clear hx
            go_wp2_with fail
            have hn1 := Since.nonempty wc
            have t0 := fun (x : Since wc) => (x.cell w.heap.size 0 (cell_block_lt s5)).trans s5
            have t1 := fun (x : Since wc) => (x.cell g (j * 4) (cell_block_lt a05)).trans a05
            have t2 := fun (x : Since wc) => (x.cell g (k * 4) (cell_block_lt c05)).trans c05
            refine wp_region_since (by kernel_rfl) (by kernel_rfl) ?_
            repeat (go_big_quiet_step (fail))
            refine wpQuiet_nil ?_
            rintro w6 ⟨⟨w6, hb6⟩, rfl⟩
            go_wp2_with fail
            go_ret
            exact ⟨ret_bool (arch_no HN.out HLV.out HA.out HJ.out hlt HL0.out).symm, HB5.out.trans (hb6.mono HB5.out.size)⟩
          · have HL0 := Lib.hid (show linkV js j = true by rw [HL.out, decide_eq_true (by omega)]; rfl)
            have hd : decide (cx ≤ ax) = false := decide_eq_false hx
            clear hx
            go_wp2_with fail
            have hn1 := Since.nonempty wc
            have t0 := fun (x : Since wc) => (x.cell w.heap.size 0 (cell_block_lt s5)).trans s5
            have t1 := fun (x : Since wc) => (x.cell g (j * 4) (cell_block_lt a05)).trans a05
            have t2 := fun (x : Since wc) => (x.cell g (k * 4) (cell_block_lt c05)).trans c05
            refine wp_region_since (by kernel_rfl) (by kernel_rfl) ?_
            repeat (go_big_quiet_step (fail))
            refine wpQuiet_nil ?_
            rintro w6 ⟨⟨w6, hb6⟩, rfl⟩
            go_wp2_with fail
            have HB7 := Lib.hid (HB5.out.trans (hb6.mono HB5.out.size))
            have s7 := cell_kept s5 hb6
            clear hb6
            go_roundw
            case rel => exact ⟨k + 1, by omega, by omega, by go_num, by have h1 := HJ.out; rw [← HA.out, show k + 1 - 1 = j + 1 by omega, show k - 1 = j by omega]; exact allFrom_yes (by omega) HL0.out, HB7.out, s7⟩
            case measure => simp [intOf]; omega
    · have hk : k - 1 = n - 1 := by omega
      have HK := Lib.hid hk
      clear hk
      go_wp2_with fail
      refine (l01In38 _ _).mono ?_
      rintro e w1 ⟨rfl, rfl⟩
      go_wp2_with fail
      go_ret
      exact ⟨ret_bool (by unfold archV; rw [HLV.out, ← HA.out, HK.out, allFrom_end, HN.out, Bool.true_and]; simp), HB.out⟩
end Go.Proofs.Ytbmlcfdilopmgaa

/- Rows of sums: the numbers that a sum comes by, as an own slice of ints. -/
namespace Go.Proofs.Ytbmlcfdilopmgaa
set_option maxRecDepth 100000
open Go.ChangeShapes Go.WideShapes Go.ChangeAt Go.RowKit

theorem Try.infoIn : (Try.prog.info? 3).map (fun i => (i.zero, i.size, i.bytes)) = some (some (.int .i64 0), 1, 8) := by kernel_rfl
/-- The cells of the first k of these numbers. -/
def sums (f : Nat → Int) (k : Nat) : List Value := (List.range k).map fun i => .int .i64 (sumTo f i)
theorem sums_length (f : Nat → Int) (k : Nat) : (sums f k).length = k := by simp [sums]
theorem sums_next (f : Nat → Int) (k : Nat) : sums f (k + 1) = sums f k ++ [.int .i64 (sumTo f k)] := by unfold sums; rw [List.range_succ, List.map_append]; rfl
theorem sums_at (f : Nat → Int) (k i : Nat) (h : i < k) : (sums f k)[i]? = some (.int .i64 (sumTo f i)) := by
  unfold sums
  rw [List.getElem?_map, List.getElem?_range h]
  rfl
/-- A row of sums of the call's own. -/
def SumRow (w : World) (H : Nat) (g c k : Nat) (f : Nat → Int) : Prop := w.ownsRow H 3 1 (.slice (some ⟨g, 0, none⟩) k c) k (sums f k)
theorem SumRow.below {w w' : World} {H g c k : Nat} {f : Nat → Int} (h : SumRow w H g c k f) (hb : Below w.heap.size w w') : SumRow w' H g c k f := owns_below h hb
theorem SumRow.lt {w : World} {H g c k : Nat} {f : Nat → Int} (h : SumRow w H g c k f) : H ≤ g ∧ g < w.heap.size ∧ k ≤ c ∧ c ≤ maxLen := by
  rcases h.2 with ⟨h1, -⟩ | ⟨g', cap', cur, h1, hB, hg, hc, hm, -⟩
  · simp at h1
  · simp at h1; obtain ⟨rfl, rfl⟩ := h1; exact ⟨hB, (Array.getElem?_eq_some_iff.1 hg).1, hc, hm⟩
theorem SumRow.cell {w : World} {H g c k : Nat} {f : Nat → Int} (h : SumRow w H g c k f) (i : Nat) (hi : i < k) : w.cell? ⟨g, i, none⟩ = some (.int .i64 (sumTo f i)) := by
  rw [World.ownsRow.cellAt h i (by omega)]
  exact sums_at f k i hi
theorem SumRow.kept {w w' : World} {H g c k : Nat} {f : Nat → Int} {row : Option Nat} (h : SumRow w H g c k f) (hg : w.grownBy w' row) (hne : some g ≠ row) : SumRow w' H g c k f :=
  World.ownsRow.kept h hg (.inr (by show some g ≠ row; exact hne))
theorem sum_one (w : World) (H : Nat) (f : Nat → Int) (hH : H ≤ w.heap.size) : SumRow (w.alloc (.cells #[.int .i64 0] 3)) H w.heap.size 1 1 f := by
  have := World.ownsRow_lit (base := H) (e := 3) (size := 1) w #[.int .i64 0] 1 hH (by unfold maxLen; omega) rfl
  exact this
end Go.Proofs.Ytbmlcfdilopmgaa

/- Marks in the joints of an arch: what is written is read again. -/
namespace Go.Proofs.Ytbmlcfdilopmgaa
set_option maxRecDepth 100000
open Go.ChangeShapes Go.WideShapes Go.ChangeAt Go.RowKit

/-- The numbers from k on, four for each joint. -/
def marksJ (k : Int) : Nat → List Jt
  | 0 => []
  | n + 1 => ((k, k + 1), (k + 1 + 1, k + 1 + 1 + 1)) :: marksJ (k + 4) n
theorem marksJ_length (k : Int) (n : Nat) : (marksJ k n).length = n := by
  induction n generalizing k with
  | zero => rfl
  | succ n ih => simp [marksJ, ih]
theorem marksJ_at (k : Int) (n i : Nat) (h : i < n) : jt (marksJ k n) i = ((k + 4 * i, k + 4 * i + 1), (k + 4 * i + 1 + 1, k + 4 * i + 1 + 1 + 1)) := by
  induction n generalizing k i with
  | zero => omega
  | succ n ih =>
    cases i with
    | zero => simp [marksJ, jt]
    | succ i =>
      have := ih (k + 4) i (by omega)
      unfold jt at this ⊢
      simp only [marksJ, List.getD_cons_succ]
      rw [this, show k + 4 + 4 * (i : Int) = k + 4 * ((i + 1 : Nat) : Int) by omega]
theorem marksJ_next (k : Int) (n : Nat) : marksJ k (n + 1) = marksJ k n ++ [((k + 4 * n, k + 4 * n + 1), (k + 4 * n + 1 + 1, k + 4 * n + 1 + 1 + 1))] := by
  induction n generalizing k with
  | zero => simp [marksJ]
  | succ n ih =>
    rw [marksJ, ih (k + 4), marksJ, List.cons_append]
    rw [show k + 4 + 4 * (n : Int) = k + 4 * ((n + 1 : Nat) : Int) by omega]

/-- The cells as far as they have been marked. -/
def jtsMk (js : List Jt) (k : Int) (i : Nat) : List Jt := marksJ k i ++ js.drop i
theorem jtsMk_zero (js : List Jt) (k : Int) : jtsMk js k 0 = js := rfl
theorem jtsMk_end (js : List Jt) (k : Int) : jtsMk js k js.length = marksJ k js.length := by simp [jtsMk]
theorem jtsMk_length (js : List Jt) (k : Int) (i : Nat) (h : i ≤ js.length) : (jtsMk js k i).length = js.length := by simp [jtsMk, marksJ_length]; omega
theorem flatJ_set (js : List Jt) (i : Nat) (x y z u : Int) (h : i < js.length) : ((((flatJ js).set (i * 4) (.int .i64 x)).set (i * 4 + 1) (.int .i64 y)).set (i * 4 + 2) (.int .i64 z)).set (i * 4 + 3) (.int .i64 u) = flatJ (js.set i ((x, y), (z, u))) := by
  induction js generalizing i with
  | nil => simp at h
  | cons j js ih =>
    cases i with
    | zero => rfl
    | succ i =>
      have := ih i (by simpa using h)
      rw [flatJ_cons, show (i + 1) * 4 = i * 4 + 1 + 1 + 1 + 1 by omega]
      simp only [List.set_cons_succ]
      rw [flatJ_cons, this]
theorem jtsMk_set (js : List Jt) (k : Int) (i : Nat) (h : i < js.length) : (jtsMk js k i).set i ((k + 4 * i, k + 4 * i + 1), (k + 4 * i + 1 + 1, k + 4 * i + 1 + 1 + 1)) = jtsMk js k (i + 1) := by
  unfold jtsMk
  rw [List.set_append_right _ _ (by simp [marksJ_length]), marksJ_length, Nat.sub_self, List.drop_eq_getElem_cons h, List.set_cons_zero, marksJ_next, List.append_assoc]
  rfl

theorem grownK_trans {a b c : World} {r : Option Nat} (h : a.grownBy b r) (k : b.grownBy c r) : a.grownBy c r :=
  ⟨k.os.trans h.os, k.tape.trans h.tape, k.output.trans h.output, Nat.le_trans h.size k.size, fun i hi hne => (k.block i (Nat.lt_of_lt_of_le hi h.size) hne).trans (h.block i hi hne)⟩

set_option maxHeartbeats 2000000 in
theorem markJointS (w : World) (B g cap n : Nat) (js : List Jt) (hr : JRowAt w B g cap js) (hn : js.length = n) (hm : n ≤ 1048576) :
    Calls Try.prog 45 #[.slice (some ⟨g, 0, none⟩) n cap, .int .i64 1] w fun e w' => e = .returned (.int .i64 (1 + 4 * n)) ∧ JRowAt w' B g cap (marksJ 1 n) ∧ w.grownBy w' (some g) := by
  have HR := Lib.hid hr
  obtain ⟨-, hg, hc, hcm⟩ := hr.lt
  rw [hn] at hc
  unfold maxLen at hcm
  have HN := Lib.hid hn
  clear hr hn
  go_enter Try.func45, Try.ntmps45
  go_wp2_with fail
  go_loopw [1, 5] (fun q t wr => ∃ k : Nat, k ≤ n ∧ t = .int .i64 k ∧ q = .int .i64 (1 + 4 * (k : Int)) ∧ JRowAt wr B g cap (jtsMk js 1 k) ∧ w.grownBy wr (some g))
    (fun _ t _ => n - (intOf t).toNat)
  case atStart => exact ⟨0, Nat.zero_le _, rfl, rfl, HR.out, World.grownBy.refl _ _⟩
  case round =>
    obtain ⟨k, hk, rfl, rfl, hrow, hgr⟩ := hrel
    have HO := Lib.hid hrow
    have HG := Lib.hid hgr
    have hlN := HN.out
    have hz : g < wr.heap.size := hrow.lt.2.1
    by_cases hlt : k < n
    · have hl := jtsMk_length js 1 k (by omega)
      obtain ⟨c0, c1, c2, c3⟩ := hrow.cells k (by omega)
      have f0 := World.ownsRow.frozenAt hrow (k * 4)
      have f1 := World.ownsRow.frozenAt hrow (k * 4 + 1)
      have f2 := World.ownsRow.frozenAt hrow (k * 4 + 2)
      have f3 := World.ownsRow.frozenAt hrow (k * 4 + 3)
      have hs1 := World.ownsRow.stored hrow (k * 4) (.int .i64 (1 + 4 * (k : Int)))
      have hs2 := World.ownsRow.stored hs1.1 (k * 4 + 1) (.int .i64 (1 + 4 * (k : Int) + 1))
      have hs3 := World.ownsRow.stored hs2.1 (k * 4 + 2) (.int .i64 (1 + 4 * (k : Int) + 1 + 1))
      have hs4 := World.ownsRow.stored hs3.1 (k * 4 + 3) (.int .i64 (1 + 4 * (k : Int) + 1 + 1 + 1))
      have hrow2 : JRowAt ((((wr.setCell ⟨g, k * 4, none⟩ (.int .i64 (1 + 4 * (k : Int)))).setCell ⟨g, k * 4 + 1, none⟩ (.int .i64 (1 + 4 * (k : Int) + 1))).setCell ⟨g, k * 4 + 2, none⟩ (.int .i64 (1 + 4 * (k : Int) + 1 + 1))).setCell ⟨g, k * 4 + 3, none⟩ (.int .i64 (1 + 4 * (k : Int) + 1 + 1 + 1))) B g cap (jtsMk js 1 (k + 1)) := by
        have := hs4.1
        rw [flatJ_set _ _ _ _ _ _ (by omega), jtsMk_set js 1 k (by omega)] at this
        have hl2 := jtsMk_length js 1 (k + 1) (by omega)
        show World.ownsRow _ _ _ _ (.slice _ (jtsMk js 1 (k + 1)).length cap) (jtsMk js 1 (k + 1)).length _
        rw [hl2, ← hl]
        exact this
      have HO2 := Lib.hid hrow2
      have HG2 := Lib.hid (grownK_trans (grownK_trans (grownK_trans (grownK_trans hgr hs1.2) hs2.2) hs3.2) hs4.2)
      generalize (jt (jtsMk js 1 k) k).1.1 = q0 at *
      generalize (jt (jtsMk js 1 k) k).1.2 = q1 at *
      generalize (jt (jtsMk js 1 k) k).2.1 = q2 at *
      generalize (jt (jtsMk js 1 k) k).2.2 = q3 at *
      clear hs1 hs2 hs3 hs4 hrow2 hrow hgr hlN hl
      go_wp2_with fail
      go_roundw
      case rel => exact ⟨k + 1, by omega, by go_num, by first | rfl | (congr 1; omega), HO2.out, HG2.out⟩
      case measure => simp [intOf]; omega
    · have hkn : k = n := by omega
      rw [hkn] at hrow ⊢
      have hrow2 : JRowAt wr B g cap (marksJ 1 n) := by rw [← hlN, ← jtsMk_end, hlN]; exact hrow
      have HO2 := Lib.hid hrow2
      clear hrow hgr hlN hkn hlt hk hrow2
      go_wp2_with fail
      go_ret
      exact ⟨rfl, HO2.out, HG.out⟩


theorem markJointS_none (w : World) (a : Option Addr) (cap : Nat) :
    Calls Try.prog 45 #[.slice a 0 cap, .int .i64 1] w fun e w' => e = .returned (.int .i64 1) ∧ w = w' := by
  go_enter Try.func45, Try.ntmps45
  go_wp2_with fail
  refine wp_loop_rounds 1 ?_
  rw [rounds_succ]
  go_wp2
  go_ret
  exact ⟨rfl, rfl⟩

/-- An arch is marked: its own row alone is written. -/
theorem markArch (w : World) (B : Nat) (v : Value) (js : List Jt) (hr : JRow w B v js) (hm : js.length ≤ 1048576) :
    Calls Try.prog 24 #[.agg #[v], .int .i64 1] w fun e w' => e = .returned (.int .i64 (1 + 4 * js.length)) ∧ JRow w' B v (marksJ 1 js.length) ∧ w.heap.size ≤ w'.heap.size ∧ w'.os = w.os ∧ w'.tape = w.tape ∧ w'.output = w.output ∧
      ∀ (b : Nat), b < w.heap.size → some b ≠ v.ownBlock → w'.heap[b]? = w.heap[b]? := by
  rcases hr.cases' with ⟨rfl, rfl⟩ | ⟨g, cap, rfl, r, -⟩
  · go_enter Try.func24, Try.ntmps24
    go_wp2_with fail
    refine (markJointS_none _ _ _).mono ?_
    rintro e w1 ⟨rfl, rfl⟩
    go_wp2_with fail
    go_ret
    have hb := (Below.refl w.heap.size w).alloc (Nat.le_refl _) (.cells #[.slice none 0 0] 26)
    exact ⟨rfl, JRow.nil _ _, hb.size, hb.os, hb.tape, hb.output, fun b hbl _ => hb.block b hbl⟩
  · generalize hn : js.length = n at *
    have HN := Lib.hid hn
    have HR := Lib.hid r
    clear hn r hr
    go_enter Try.func24, Try.ntmps24
    go_wp2_with fail
    refine (markJointS _ B g cap n js (HR.out.alloc _) HN.out hm).mono ?_
    rintro e w1 ⟨rfl, hrow, hgr⟩
    have HO := Lib.hid hrow
    have HG := Lib.hid hgr
    clear hrow hgr
    go_wp2_with fail
    go_ret
    have hb := (Below.refl w.heap.size w).alloc (Nat.le_refl _) (.cells #[.slice (some ⟨g, 0, none⟩) n cap] 26)
    have hg := HG.out
    refine ⟨rfl, ?_, Nat.le_trans hb.size hg.size, hg.os.trans hb.os, hg.tape.trans hb.tape, hg.output.trans hb.output, fun b hbl hne => ?_⟩
    · have := HO.out.row
      rw [marksJ_length] at this
      exact this
    · exact (hg.block b (Nat.lt_of_lt_of_le hbl hb.size) hne).trans (hb.block b hbl)

end Go.Proofs.Ytbmlcfdilopmgaa
