/- The contracts of pack's reader where it has an error: nothing is read, nothing is turned. Condition: its Err answers an error. -/
import Derived.Test.YtcdhlklmnnmpoaaGreatPE
namespace Go.Proofs.YtcdhlklmnnmpoaaGreat
open Go.ChangeShapes Go.WideShapes Go.ChangeAt Go.RowKit
end Go.Proofs.YtcdhlklmnnmpoaaGreat
