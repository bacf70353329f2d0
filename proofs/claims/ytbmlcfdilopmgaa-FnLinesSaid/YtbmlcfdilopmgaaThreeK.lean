/- Three rows: the contract of the program's SolveRows. -/
import Derived.Test.YtbmlcfdilopmgaaGThree
import Derived.Test.YtbmlcfdilopmgaaGCond
import Derived.Deep.RegionHeld3
import Derived.Deep.CutRange
namespace Go.Proofs.Ytbmlcfdilopmgaa
set_option maxRecDepth 100000
open Go.ChangeShapes Go.WideShapes Go.ChangeAt Go.RowKit

end Go.Proofs.Ytbmlcfdilopmgaa
