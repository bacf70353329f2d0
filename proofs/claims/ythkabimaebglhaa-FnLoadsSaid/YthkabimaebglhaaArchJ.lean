/- Arches: the contracts of the program's SpanOf, RiseOf, StoneOf. -/
import Derived.Test.YthkabimaebglhaaArchI
namespace Go.Proofs.Ythkabimaebglhaa
set_option maxRecDepth 100000
open Go.ChangeShapes Go.WideShapes Go.ChangeAt Go.RowKit



/-- A stone of an arch was handed back, in new memory; what was there is as it was. -/
def SoAns (js : List Jt) (k : Int) (w : World) (e : Ending) (w' : World) : Prop :=
  ∃ u, e = .returned (.agg #[u]) ∧ Row w' w.heap.size u (soV js k) ∧ Below w.heap.size w w'

end Go.Proofs.Ythkabimaebglhaa
