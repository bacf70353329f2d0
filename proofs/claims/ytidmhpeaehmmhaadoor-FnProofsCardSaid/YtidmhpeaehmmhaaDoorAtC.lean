/- The contract of 'at': a number from 0 to 255 out of a draw's bytes; and of 'big' there are two in DrawC. -/
import Derived.Test.YtidmhpeaehmmhaaDoorDrawC
namespace Go.Proofs.YtidmhpeaehmmhaaDoor
set_option maxRecDepth 100000
open Go.ChangeShapes Go.WideShapes Go.ChangeAt Go.RowKit

/-- A number from 0 to 255; the world is as it was. -/
def AtPost (w : World) (e : Ending) (w' : World) : Prop := ∃ x : Int, 0 ≤ x ∧ x ≤ 255 ∧ e = .returned (.int .i64 x) ∧ w = w'


end Go.Proofs.YtidmhpeaehmmhaaDoor
