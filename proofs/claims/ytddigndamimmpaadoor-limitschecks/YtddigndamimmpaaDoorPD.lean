/- The contracts of pack's reader where it has an error: nothing is read, nothing is turned. Condition: its Err answers an error. -/
import Derived.Test.YtddigndamimmpaaDoorPE
namespace Go.Proofs.YtddigndamimmpaaDoor
open Go.ChangeShapes Go.WideShapes Go.ChangeAt Go.RowKit
end Go.Proofs.YtddigndamimmpaaDoor
