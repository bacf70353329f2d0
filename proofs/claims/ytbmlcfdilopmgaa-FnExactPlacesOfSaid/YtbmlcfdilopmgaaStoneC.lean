/- Stones: the rows of points that the program makes, as flat cells; the contract of corner. -/
import Derived.Test.YtbmlcfdilopmgaaGPt
import Derived.Deep.SlicePairs
import Derived.Deep.RegionHeld3
import Derived.OwnWalk
import Derived.Laws.OwnMore
namespace Go.Proofs.Ytbmlcfdilopmgaa
set_option maxRecDepth 100000
open Go.ChangeShapes Go.WideShapes Go.ChangeAt Go.RowKit

/-- The cells of points. -/
def flat (cs : List (Int × Int)) : List Value := cs.flatMap fun p => [.int .i64 p.1, .int .i64 p.2]
theorem flat_nil : flat [] = [] := rfl
theorem flat_cons (p : Int × Int) (cs : List (Int × Int)) : flat (p :: cs) = .int .i64 p.1 :: .int .i64 p.2 :: flat cs := rfl
theorem flat_append (a b : List (Int × Int)) : flat (a ++ b) = flat a ++ flat b := by unfold flat; rw [List.flatMap_append]
theorem flat_length (cs : List (Int × Int)) : (flat cs).length = cs.length * 2 := by
  induction cs with
  | nil => rfl
  | cons p cs ih => rw [flat_cons]; simp [ih]; omega
/-- The point at an index (0, 0 past the end). -/
def pt (cs : List (Int × Int)) (i : Nat) : Int × Int := cs.getD i (0, 0)
theorem flat_at (cs : List (Int × Int)) (i : Nat) (h : i < cs.length) : (flat cs)[i * 2]? = some (.int .i64 (pt cs i).1) ∧ (flat cs)[i * 2 + 1]? = some (.int .i64 (pt cs i).2) := by
  induction cs generalizing i with
  | nil => simp at h
  | cons p cs ih =>
    cases i with
    | zero => exact ⟨rfl, rfl⟩
    | succ i =>
      have := ih i (by simpa using h)
      rw [flat_cons, show (i + 1) * 2 = i * 2 + 1 + 1 by omega]
      simpa [pt] using this

/-- A slice of points in a row of the program's own. -/
def Row (w : World) (B : Nat) (v : Value) (cs : List (Int × Int)) : Prop := w.ownsRow B 100 2 v cs.length (flat cs)
/-- A row at the head of block g. -/
def RowAt (w : World) (B g cap : Nat) (cs : List (Int × Int)) : Prop := Row w B (.slice (some ⟨g, 0, none⟩) cs.length cap) cs

theorem Row.nil (w : World) (B : Nat) : Row w B (.slice none 0 0) [] := World.ownsRow_nil w B _ _
theorem Row.cases {w : World} {B : Nat} {v : Value} {cs : List (Int × Int)} (h : Row w B v cs) :
    (v = .slice none 0 0 ∧ cs = []) ∨ ∃ g cap, v = .slice (some ⟨g, 0, none⟩) cs.length cap ∧ RowAt w B g cap cs ∧ B ≤ g ∧ g < w.heap.size ∧ cs.length ≤ cap ∧ cap ≤ maxLen := by
  have h0 := h
  rcases h.2 with ⟨rfl, hz⟩ | ⟨g, cap, cur, rfl, hB, hg, hc, hm, -⟩
  · exact .inl ⟨rfl, List.eq_nil_of_length_eq_zero hz⟩
  · exact .inr ⟨g, cap, rfl, h0, hB, by have := (Array.getElem?_eq_some_iff.1 hg).1; exact this, hc, hm⟩
theorem RowAt.lt {w : World} {B g cap : Nat} {cs : List (Int × Int)} (h : RowAt w B g cap cs) : B ≤ g ∧ g < w.heap.size ∧ cs.length ≤ cap ∧ cap ≤ maxLen := by
  rcases Row.cases h with ⟨h1, -⟩ | ⟨g', cap', h1, -, h2, h3, h4, h5⟩
  · simp at h1
  · simp at h1; obtain ⟨rfl, rfl⟩ := h1; exact ⟨h2, h3, h4, h5⟩
theorem RowAt.cells {w : World} {B g cap : Nat} {cs : List (Int × Int)} (h : RowAt w B g cap cs) (i : Nat) (hi : i < cs.length) :
    w.cell? ⟨g, i * 2, none⟩ = some (.int .i64 (pt cs i).1) ∧ w.cell? ⟨g, i * 2 + 1, none⟩ = some (.int .i64 (pt cs i).2) := by
  rw [World.ownsRow.cellAt h (i * 2) (by omega), World.ownsRow.cellAt h (i * 2 + 1) (by omega)]
  exact flat_at cs i hi
/-- Rows stay rows where nothing that was there is written. -/
theorem owns_below {w w' : World} {B n size : Nat} {e : TypeId} {v : Value} {xs : List Value} (h : w.ownsRow B e size v n xs) (hb : Below w.heap.size w w') : w'.ownsRow B e size v n xs := by
  refine ⟨h.1, h.2.imp id ?_⟩
  rintro ⟨g, cap, cur, rfl, h1, hg, h3⟩
  have hlt : g < w.heap.size := (Array.getElem?_eq_some_iff.1 hg).1
  exact ⟨g, cap, cur, rfl, h1, (hb.block g hlt).trans hg, h3⟩
theorem Row.below {w w' : World} {B : Nat} {v : Value} {cs : List (Int × Int)} (h : Row w B v cs) (hb : Below w.heap.size w w') : Row w' B v cs := owns_below h hb
theorem owns_base {w : World} {B B' n size : Nat} {e : TypeId} {v : Value} {xs : List Value} (h : w.ownsRow B e size v n xs) (hb : B' ≤ B) : w.ownsRow B' e size v n xs := by
  refine ⟨h.1, h.2.imp id ?_⟩
  rintro ⟨g, cap, cur, rfl, h1, h2⟩
  exact ⟨g, cap, cur, rfl, Nat.le_trans hb h1, h2⟩
theorem Row.base {w : World} {B B' : Nat} {v : Value} {cs : List (Int × Int)} (h : Row w B v cs) (hb : B' ≤ B) : Row w B' v cs := owns_base h hb
theorem RowAt.base {w : World} {B B' g cap : Nat} {cs : List (Int × Int)} (h : RowAt w B g cap cs) (hb : B' ≤ B) : RowAt w B' g cap cs := owns_base h hb
theorem RowAt.setCell {w : World} {B g cap : Nat} {cs : List (Int × Int)} (h : RowAt w B g cap cs) (b o : Nat) (hb : b ≠ g) (u : Value) : RowAt (w.setCell ⟨b, o, none⟩ u) B g cap cs :=
  ownsRow_setCell_other h (a := ⟨b, o, none⟩) (fun he => hb (by simp [Value.ownBlock] at he; exact he.symm)) u
theorem RowAt.alloc {w : World} {B g cap : Nat} {cs : List (Int × Int)} (h : RowAt w B g cap cs) (o : Obj) : RowAt (w.alloc o) B g cap cs := World.ownsRow.alloc h o
theorem RowAt.drew {w : World} {B g cap : Nat} {cs : List (Int × Int)} (h : RowAt w B g cap cs) : RowAt w.drew B g cap cs := h
theorem RowAt.row {w : World} {B g cap : Nat} {cs : List (Int × Int)} (h : RowAt w B g cap cs) : Row w B (.slice (some ⟨g, 0, none⟩) cs.length cap) cs := h

theorem RowAt.below {w w' : World} {B g cap : Nat} {cs : List (Int × Int)} (h : RowAt w B g cap cs) (hb : Below w.heap.size w w') : RowAt w' B g cap cs := Row.below h hb
theorem RowAt.drewN {w : World} {B g cap : Nat} {cs : List (Int × Int)} (h : RowAt w B g cap cs) (n : Nat) : RowAt (w.drewN n) B g cap cs := h
theorem RowAt.after {w w' : World} {B g cap n : Nat} {cs : List (Int × Int)} (h : RowAt w B g cap cs) (hb : Below (w.drewN n).heap.size (w.drewN n) w') : RowAt w' B g cap cs := owns_below (w := w.drewN n) h hb
theorem Row.after {w w' : World} {B n : Nat} {v : Value} {cs : List (Int × Int)} (h : Row w B v cs) (hb : Below (w.drewN n).heap.size (w.drewN n) w') : Row w' B v cs := owns_below (w := w.drewN n) h hb
theorem below_after {a w w' : World} {n : Nat} (h : Below a.heap.size a w) (k : Below (w.drewN n).heap.size (w.drewN n) w') : Below a.heap.size a w' := (below_drewN h n).trans (k.mono h.size)
theorem cell_after {w w' : World} {b o n : Nat} {v : Value} (h : w.cell? ⟨b, o, none⟩ = some v) (k : Below (w.drewN n).heap.size (w.drewN n) w') : w'.cell? ⟨b, o, none⟩ = some v := (k.cell (p := ⟨b, o, none⟩) (cell_block_lt h)).trans h
theorem cell_kept {w w' : World} {b o : Nat} {v : Value} (h : w.cell? ⟨b, o, none⟩ = some v) (k : Below w.heap.size w w') : w'.cell? ⟨b, o, none⟩ = some v := (k.cell (p := ⟨b, o, none⟩) (cell_block_lt h)).trans h

set_option maxHeartbeats 400000 in
theorem corner (w : World) (B g cap : Nat) (cs : List (Int × Int)) (i : Nat) (hr : RowAt w B g cap cs) (h0 : 0 < cs.length) (h6 : cs.length ≤ 6) (hi : i ≤ 20) :
    Calls Try.prog 122 #[.agg #[.slice (some ⟨g, 0, none⟩) cs.length cap], .int .i64 i] w
      fun e w' => e = .returned (.agg #[.int .i64 (pt cs (i % cs.length)).1, .int .i64 (pt cs (i % cs.length)).2]) ∧ Below w.heap.size w w' := by
  have hlt := hr.lt
  have hj : i % cs.length < cs.length := Nat.mod_lt _ h0
  obtain ⟨cx, cy⟩ := hr.cells _ hj
  have ht : (i : Int).tmod (cs.length : Int) = ((i % cs.length : Nat) : Int) := by rw [Int.tmod_eq_emod_of_nonneg (by omega)]; simp
  generalize (pt cs (i % cs.length)).1 = x at *
  generalize (pt cs (i % cs.length)).2 = y at *
  generalize hJ : i % cs.length = j at *
  clear hJ hr
  generalize cs.length = n at *
  have hx := hlt.2.1
  go_enter Try.func122, Try.ntmps122
  go_wp2_with fail
  go_region
  go_wp2_with fail
  refine bodyPost_ret (v := .agg #[.int .i64 x, .int .i64 y]) (by simp [results, Try.results122, go_sem]) rfl ⟨rfl, ?_⟩
  repeat (first | exact Below.refl _ _ | refine Below.drew ?_ | refine Below.alloc ?_ (by simp <;> omega) _ | refine Below.setCell ?_ (by simp <;> omega) _)
end Go.Proofs.Ytbmlcfdilopmgaa
