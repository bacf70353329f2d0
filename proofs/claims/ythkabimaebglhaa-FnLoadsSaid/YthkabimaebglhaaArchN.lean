/- Arches: the contracts of the model's CountStones, SpanOf, RiseOf, StoneOf. -/
import Derived.Test.YthkabimaebglhaaArchE
import Derived.Test.YthkabimaebglhaaArchQ
import Derived.StillTailTactics
import Derived.Deep.Cut
namespace Go.Proofs.Ythkabimaebglhaa
set_option maxRecDepth 100000
open Go.ChangeShapes Go.WideShapes Go.ChangeAt Go.RowKit



end Go.Proofs.Ythkabimaebglhaa
