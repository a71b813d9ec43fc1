/- The contract of Check: OK of a value that may be, else ErrArg. -/
import Derived.Test.YtjmonkhkcmcfiaaVI
namespace Go.Proofs.Ytjmonkhkcmcfiaa
open Go.ChangeShapes Go.WideShapes Go.ChangeAt Go.RowKit
/-- A value may be. -/
def May (n : Nat) (t : Tv) : Prop := ShapeT n 4 t ∧ (bytesT n t).length ≤ 1000
end Go.Proofs.Ytjmonkhkcmcfiaa
