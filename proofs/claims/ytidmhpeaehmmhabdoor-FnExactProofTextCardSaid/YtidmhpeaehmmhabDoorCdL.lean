/- Rows of Row in the laws: as flat cells; as they come in, their size, their copy, their comparison. -/
import Derived.Test.YtidmhpeaehmmhabDoorFourP
import Derived.Test.YtidmhpeaehmmhabDoorThrustC
import Derived.Deep.Slices
import Derived.Deep.Strs
namespace Go.Proofs.YtidmhpeaehmmhabDoor
set_option maxRecDepth 100000
open Go.ChangeShapes Go.WideShapes Go.ChangeAt Go.RowKit Go.Joins Go.Deep

/-- What came in: whatever address; each four ints. -/
def InCds (w : World) (a : Option Addr) (n cap : Nat) (rs : List Cd) : Prop :=
  rs.length = n ∧ n ≤ cap ∧ cap ≤ maxLen ∧
  ((a = none ∧ n = 0 ∧ cap = 0) ∨ ∃ x, a = some x ∧ ∀ i, i < n → w.cell? (x.add (i * 4)) = some (.int .i64 (cd rs i).1) ∧ w.cell? (x.add (i * 4 + 1)) = some (.int .i64 (cd rs i).2.1) ∧ w.cell? (x.add (i * 4 + 2)) = some (.int .i64 (cd rs i).2.2.1) ∧ w.cell? (x.add (i * 4 + 3)) = some (.int .i64 (cd rs i).2.2.2))
theorem InCds.below {w w' : World} {a : Option Addr} {n cap : Nat} {rs : List Cd} (h : InCds w a n cap rs) (hb : Below w.heap.size w w') : InCds w' a n cap rs := by
  obtain ⟨h1, h2, h3, h5⟩ := h
  refine ⟨h1, h2, h3, h5.imp id ?_⟩
  rintro ⟨x, rfl, hx⟩
  exact ⟨x, rfl, fun i hi => ⟨(hb.cell (cell_block_lt (hx i hi).1)).trans (hx i hi).1, (hb.cell (cell_block_lt (hx i hi).2.1)).trans (hx i hi).2.1, (hb.cell (cell_block_lt (hx i hi).2.2.1)).trans (hx i hi).2.2.1, (hb.cell (cell_block_lt (hx i hi).2.2.2)).trans (hx i hi).2.2.2⟩⟩


end Go.Proofs.YtidmhpeaehmmhabDoor
