/- Points: the struct as it comes in, and the contracts of the functions that tell a valid one. -/
import Derived.Test.YtoholdpobkgffaaBaseC
import Derived.Lib.SmallJoins
namespace Go.Proofs.Ytoholdpobkgffaa
set_option maxRecDepth 100000
open Go.ChangeShapes Go.WideShapes Go.ChangeAt Go.RowKit Go.Joins

theorem cellsPoint : Try.prog.cellsOf 56 = 2 := by kernel_rfl

/-- A point that came in: two ints. -/
theorem open_point {H : Type} {enc : TypeId × Value → H} {w : World} {r : Reach} {b0 base : Nat} {spare : Nat → Bool} {held : Bool} {v : Value} {d : DataW H} {p : List MemPlace}
    (hv : Value.okWide Try.prog w r b0 56 v) (h : DataW.Trod enc Try.prog w base spare held 56 v d p) : ∃ x y : Int, v = .agg #[.int .i64 x, .int .i64 y] ∧ I64 x ∧ I64 y := by
  obtain ⟨c0, c1, y0, y1, m, rfl, rfl, rfl, hy0, hy1⟩ := open_agg2 Try.underlying56 (by kernel_rfl) cellsPoint hv h
  obtain ⟨a, e0, rfl, wa⟩ := DataW.trod_int Try.underlying3 hy0
  obtain ⟨b, e1, rfl, wb⟩ := DataW.trod_int Try.underlying3 hy1
  simp at e0 e1
  subst e0 e1
  exact ⟨a, b, rfl, I64.of_wf wa, I64.of_wf wb⟩

/-- A coordinate in its range. -/
def inP (n : Int) : Bool := decide (-60 ≤ n ∧ n ≤ 60)
/-- A valid point. -/
def okP (x y : Int) : Bool := inP x && inP y
theorem inP_iff {n : Int} : inP n = true ↔ -60 ≤ n ∧ n ≤ 60 := by unfold inP; simp
theorem inP_no {n : Int} : inP n = false ↔ ¬ (-60 ≤ n ∧ n ≤ 60) := by unfold inP; simp
theorem okP_iff {x y : Int} : okP x y = true ↔ (-60 ≤ x ∧ x ≤ 60) ∧ -60 ≤ y ∧ y ≤ 60 := by unfold okP; rw [Bool.and_eq_true, inP_iff, inP_iff]

set_option maxHeartbeats 400000 in
theorem toPoint (x y : Int) (w : World) :
    Calls Try.prog 25 #[.agg #[.int .i64 x, .int .i64 y]] w fun e w' => e = .returned (.agg #[.int .i64 x, .int .i64 y]) ∧ Below w.heap.size w w' := by
  go_enter Try.func25, Try.ntmps25
  go_wp2
  refine bodyPost_ret (v := .agg #[.int .i64 x, .int .i64 y]) (by simp [results, Try.results25, go_sem]) rfl ⟨rfl, ?_⟩
  repeat (first | exact Below.refl _ _ | refine Below.alloc ?_ (by simp <;> omega) _ | refine Below.setCell ?_ (by simp <;> omega) _)

theorem l01In60 (n : Int) (w : World) :
    Calls Try.prog 18 #[.int .i64 n, .int .i64 (-60), .int .i64 60] w fun e w' => e = .returned (.bool (inP n)) ∧ w = w' := by
  by_cases h : n < -60
  · go_enter Try.func18, Try.ntmps18
    go_wp2
    go_ret
    exact ⟨ret_bool (by unfold inP; simp; omega), rfl⟩
  · go_enter Try.func18, Try.ntmps18
    go_wp2
    go_ret
    exact ⟨ret_bool (by unfold inP; simp; omega), rfl⟩

theorem isPlace (n : Int) (w : World) :
    Calls Try.prog 33 #[.int .i64 n] w fun e w' => e = .returned (.bool (inP n)) ∧ w = w' := by
  by_cases h : n < -60
  · go_enter Try.func33, Try.ntmps33
    go_wp2
    go_ret
    exact ⟨ret_bool (by unfold inP; simp; omega), rfl⟩
  · go_enter Try.func33, Try.ntmps33
    go_wp2
    go_ret
    exact ⟨ret_bool (by unfold inP; simp; omega), rfl⟩

theorem specPointOk (x y : Int) (w : World) :
    Calls Try.prog 31 #[.agg #[.int .i64 x, .int .i64 y]] w fun e w' => e = .returned (.bool (okP x y)) ∧ Below w.heap.size w w' := by
  cases hx : inP x
  all_goals
    go_enter Try.func31, Try.ntmps31
    go_wp2_with (go_at_call 18; refine (l01In60 _ _).mono ?_; rintro e w' ⟨rfl, rfl⟩)
    go_ret
    exact ⟨ret_bool (by unfold okP; rw [hx]; simp), by repeat (first | exact Below.refl _ _ | refine Below.alloc ?_ (by simp <;> omega) _)⟩

theorem isValid (x y : Int) (w : World) :
    Calls Try.prog 27 #[.agg #[.int .i64 x, .int .i64 y]] w fun e w' => e = .returned (.bool (okP x y)) ∧ Below w.heap.size w w' := by
  cases hx : inP x
  all_goals
    go_enter Try.func27, Try.ntmps27
    go_wp2_with (go_at_call 33; refine (isPlace _ _).mono ?_; rintro e w' ⟨rfl, rfl⟩)
    go_ret
    exact ⟨ret_bool (by unfold okP; rw [hx]; simp), by repeat (first | exact Below.refl _ _ | refine Below.alloc ?_ (by simp <;> omega) _)⟩

theorem implPointOk (x y : Int) (w : World) :
    Calls Try.prog 35 #[.agg #[.int .i64 x, .int .i64 y]] w fun e w' => e = .returned (.bool (okP x y)) ∧ Below w.heap.size w w' := by
  go_enter Try.func35, Try.ntmps35
  go_wp2_with (go_at_call 27; refine (isValid _ _ _).mono ?_; rintro e w1 ⟨rfl, hb1⟩)
  go_ret
  exact ⟨rfl, ((Below.refl _ _).alloc (by simp <;> omega) _).trans (hb1.mono (by simp <;> omega))⟩
end Go.Proofs.Ytoholdpobkgffaa
