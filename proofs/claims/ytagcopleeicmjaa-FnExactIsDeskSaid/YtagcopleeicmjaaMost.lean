/- l1Most, with the world as it was. -/
import Derived.Test.YtagcopleeicmjaaOwn
namespace Go.Proofs.Ytagcopleeicmjaa
open Go.ChangeShapes Go.WideShapes Go.ChangeAt Go.RowKit


end Go.Proofs.Ytagcopleeicmjaa
