/- l1Most, with the world as it was. -/
import Derived.Test.YtodlpdbmiicdfabDoorOwn
namespace Go.Proofs.YtodlpdbmiicdfabDoor
open Go.ChangeShapes Go.WideShapes Go.ChangeAt Go.RowKit


end Go.Proofs.YtodlpdbmiicdfabDoor
