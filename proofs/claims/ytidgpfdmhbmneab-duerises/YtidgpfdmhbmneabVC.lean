/- The contract of the program's Same: it tells whether two trees are one. -/
import Derived.Test.YtidgpfdmhbmneabVB
import Derived.Deep.RegionWith
namespace Go.Proofs.Ytidgpfdmhbmneab
open Go.ChangeShapes Go.WideShapes Go.ChangeAt Go.RowKit
end Go.Proofs.Ytidgpfdmhbmneab
