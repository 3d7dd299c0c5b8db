/- l1Most, with the world as it was. -/
import Derived.Test.YtmlamcimncfmcabDoorOwn
namespace Go.Proofs.YtmlamcimncfmcabDoor
open Go.ChangeShapes Go.WideShapes Go.ChangeAt Go.RowKit


end Go.Proofs.YtmlamcimncfmcabDoor
