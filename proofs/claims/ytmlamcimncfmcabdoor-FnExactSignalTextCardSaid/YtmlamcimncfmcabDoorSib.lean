/- Chapter 8: the model's siComes, siMeet, siFirst. -/
import Derived.Test.YtmlamcimncfmcabDoorSia
import Derived.Test.YtmlamcimncfmcabDoorAny
namespace Go.Proofs.YtmlamcimncfmcabDoor
open Go.ChangeShapes Go.WideShapes Go.ChangeAt Go.RowKit
open Si




end Go.Proofs.YtmlamcimncfmcabDoor
