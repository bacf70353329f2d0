/- Corners: the contract of the program's appendCorner. -/
import Derived.Test.YtibcalpkmjjilaaThreeK
import Derived.Test.YtibcalpkmjjilaaThreeQ
import Derived.Test.YtibcalpkmjjilaaThreeH
import Derived.Test.YtibcalpkmjjilaaStepC
namespace Go.Proofs.Ytibcalpkmjjilaa
set_option maxRecDepth 100000
open Go.ChangeShapes Go.WideShapes Go.ChangeAt Go.RowKit

theorem g_of_below {w w' : World} (h : Below w.heap.size w w') (r : Option Nat) : w.grownBy w' r := ⟨h.os, h.tape, h.output, h.size, fun k hk _ => h.block k hk⟩
theorem g_trans {a b c : World} {r : Option Nat} (h : a.grownBy b r) (k : b.grownBy c r) : a.grownBy c r :=
  ⟨k.os.trans h.os, k.tape.trans h.tape, k.output.trans h.output, Nat.le_trans h.size k.size, fun j hj hne => (k.block j (Nat.lt_of_lt_of_le hj h.size) hne).trans (h.block j hj hne)⟩
theorem Try.infoTr : (Try.prog.info? 29).map (fun i => (i.zero, i.size, i.bytes)) = some (some (.agg #[.int .i64 0, .int .i64 0, .int .i64 0, .int .i64 0]), 4, 32) := by kernel_rfl
/-- A value's own block is another one, or one that was made since. -/
def OwnNew (w : World) (v v' : Value) : Prop := v'.ownBlock = v.ownBlock ∨ ∃ g, v'.ownBlock = some g ∧ w.heap.size ≤ g
/-- The list of corners as it is handed back. -/
def CoAns (w : World) (B : Nat) (v : Value) (l : List Cd) (e : Ending) (w' : World) : Prop := ∃ v', e = .returned v' ∧ ThRow w' B v' l ∧ w.grownBy w' v.ownBlock ∧ OwnNew w v v'

end Go.Proofs.Ytibcalpkmjjilaa
