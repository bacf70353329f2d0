/- Stones: the rows of points that the program makes, as flat cells; the contract of corner. -/
import Derived.Test.YtidmhpeaehmmhaaDoorPtP
import Derived.Deep.SlicePairs
import Derived.Deep.RegionHeld3
import Derived.OwnWalk
import Derived.Laws.OwnMore
namespace Go.Proofs.YtidmhpeaehmmhaaDoor
set_option maxRecDepth 100000
open Go.ChangeShapes Go.WideShapes Go.ChangeAt Go.RowKit

/-- The cells of points. -/
def flat (cs : List (Int × Int)) : List Value := cs.flatMap fun p => [.int .i64 p.1, .int .i64 p.2]
theorem flat_nil : flat [] = [] := rfl
theorem flat_cons (p : Int × Int) (cs : List (Int × Int)) : flat (p :: cs) = .int .i64 p.1 :: .int .i64 p.2 :: flat cs := rfl
theorem flat_append (a b : List (Int × Int)) : flat (a ++ b) = flat a ++ flat b := by unfold flat; rw [List.flatMap_append]
theorem flat_length (cs : List (Int × Int)) : (flat cs).length = cs.length * 2 := by
  induction cs with
  | nil => rfl
  | cons p cs ih => rw [flat_cons]; simp [ih]; omega
/-- The point at an index (0, 0 past the end). -/
def pt (cs : List (Int × Int)) (i : Nat) : Int × Int := cs.getD i (0, 0)
theorem flat_at (cs : List (Int × Int)) (i : Nat) (h : i < cs.length) : (flat cs)[i * 2]? = some (.int .i64 (pt cs i).1) ∧ (flat cs)[i * 2 + 1]? = some (.int .i64 (pt cs i).2) := by
  induction cs generalizing i with
  | nil => simp at h
  | cons p cs ih =>
    cases i with
    | zero => exact ⟨rfl, rfl⟩
    | succ i =>
      have := ih i (by simpa using h)
      rw [flat_cons, show (i + 1) * 2 = i * 2 + 1 + 1 by omega]
      simpa [pt] using this

/-- Rows stay rows where nothing that was there is written. -/
theorem owns_below {w w' : World} {B n size : Nat} {e : TypeId} {v : Value} {xs : List Value} (h : w.ownsRow B e size v n xs) (hb : Below w.heap.size w w') : w'.ownsRow B e size v n xs := by
  refine ⟨h.1, h.2.imp id ?_⟩
  rintro ⟨g, cap, cur, rfl, h1, hg, h3⟩
  have hlt : g < w.heap.size := (Array.getElem?_eq_some_iff.1 hg).1
  exact ⟨g, cap, cur, rfl, h1, (hb.block g hlt).trans hg, h3⟩

theorem owns_base {w : World} {B B' n size : Nat} {e : TypeId} {v : Value} {xs : List Value} (h : w.ownsRow B e size v n xs) (hb : B' ≤ B) : w.ownsRow B' e size v n xs := by
  refine ⟨h.1, h.2.imp id ?_⟩
  rintro ⟨g, cap, cur, rfl, h1, h2⟩
  exact ⟨g, cap, cur, rfl, Nat.le_trans hb h1, h2⟩

theorem below_after {a w w' : World} {n : Nat} (h : Below a.heap.size a w) (k : Below (w.drewN n).heap.size (w.drewN n) w') : Below a.heap.size a w' := (below_drewN h n).trans (k.mono h.size)
theorem cell_after {w w' : World} {b o n : Nat} {v : Value} (h : w.cell? ⟨b, o, none⟩ = some v) (k : Below (w.drewN n).heap.size (w.drewN n) w') : w'.cell? ⟨b, o, none⟩ = some v := (k.cell (p := ⟨b, o, none⟩) (cell_block_lt h)).trans h
theorem cell_kept {w w' : World} {b o : Nat} {v : Value} (h : w.cell? ⟨b, o, none⟩ = some v) (k : Below w.heap.size w w') : w'.cell? ⟨b, o, none⟩ = some v := (k.cell (p := ⟨b, o, none⟩) (cell_block_lt h)).trans h


end Go.Proofs.YtidmhpeaehmmhaaDoor
