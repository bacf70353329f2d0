/- Rows of sums: the numbers that a sum comes by, as an own slice of ints. -/
import Derived.Test.YtiallkkleilgiaaArchH
import Derived.Test.YtiallkkleilgiaaStoneC
namespace Go.Proofs.Ytiallkkleilgiaa
set_option maxRecDepth 100000
open Go.ChangeShapes Go.WideShapes Go.ChangeAt Go.RowKit

theorem Try.infoIn : (Try.prog.info? 3).map (fun i => (i.zero, i.size, i.bytes)) = some (some (.int .i64 0), 1, 8) := by kernel_rfl
/-- The cells of the first k of these numbers. -/
def sums (f : Nat → Int) (k : Nat) : List Value := (List.range k).map fun i => .int .i64 (sumTo f i)
theorem sums_length (f : Nat → Int) (k : Nat) : (sums f k).length = k := by simp [sums]
theorem sums_next (f : Nat → Int) (k : Nat) : sums f (k + 1) = sums f k ++ [.int .i64 (sumTo f k)] := by unfold sums; rw [List.range_succ, List.map_append]; rfl
theorem sums_at (f : Nat → Int) (k i : Nat) (h : i < k) : (sums f k)[i]? = some (.int .i64 (sumTo f i)) := by
  unfold sums
  rw [List.getElem?_map, List.getElem?_range h]
  rfl
/-- A row of sums of the call's own. -/
def SumRow (w : World) (H : Nat) (g c k : Nat) (f : Nat → Int) : Prop := w.ownsRow H 3 1 (.slice (some ⟨g, 0, none⟩) k c) k (sums f k)
theorem SumRow.below {w w' : World} {H g c k : Nat} {f : Nat → Int} (h : SumRow w H g c k f) (hb : Below w.heap.size w w') : SumRow w' H g c k f := owns_below h hb
theorem SumRow.lt {w : World} {H g c k : Nat} {f : Nat → Int} (h : SumRow w H g c k f) : H ≤ g ∧ g < w.heap.size ∧ k ≤ c ∧ c ≤ maxLen := by
  rcases h.2 with ⟨h1, -⟩ | ⟨g', cap', cur, h1, hB, hg, hc, hm, -⟩
  · simp at h1
  · simp at h1; obtain ⟨rfl, rfl⟩ := h1; exact ⟨hB, (Array.getElem?_eq_some_iff.1 hg).1, hc, hm⟩
theorem SumRow.cell {w : World} {H g c k : Nat} {f : Nat → Int} (h : SumRow w H g c k f) (i : Nat) (hi : i < k) : w.cell? ⟨g, i, none⟩ = some (.int .i64 (sumTo f i)) := by
  rw [World.ownsRow.cellAt h i (by omega)]
  exact sums_at f k i hi
theorem SumRow.kept {w w' : World} {H g c k : Nat} {f : Nat → Int} {row : Option Nat} (h : SumRow w H g c k f) (hg : w.grownBy w' row) (hne : some g ≠ row) : SumRow w' H g c k f :=
  World.ownsRow.kept h hg (.inr (by show some g ≠ row; exact hne))
theorem sum_one (w : World) (H : Nat) (f : Nat → Int) (hH : H ≤ w.heap.size) : SumRow (w.alloc (.cells #[.int .i64 0] 3)) H w.heap.size 1 1 f := by
  have := World.ownsRow_lit (base := H) (e := 3) (size := 1) w #[.int .i64 0] 1 hH (by unfold maxLen; omega) rfl
  exact this
end Go.Proofs.Ytiallkkleilgiaa
