/- The contract of the program's Same: it tells whether two trees are one. -/
import Derived.Test.YtlcgjehepalmcaaVB
import Derived.Deep.RegionWith
namespace Go.Proofs.Ytlcgjehepalmcaa
open Go.ChangeShapes Go.WideShapes Go.ChangeAt Go.RowKit
end Go.Proofs.Ytlcgjehepalmcaa
