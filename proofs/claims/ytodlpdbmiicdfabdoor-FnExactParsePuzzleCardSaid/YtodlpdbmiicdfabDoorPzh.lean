/- Chapter 9, the model: pzWithout. -/
import Derived.Test.YtodlpdbmiicdfabDoorPze
import Derived.Test.YtodlpdbmiicdfabDoorAppC
namespace Go.Proofs.YtodlpdbmiicdfabDoor
open Go.ChangeShapes Go.WideShapes Go.ChangeAt Go.RowKit
open Pz


end Go.Proofs.YtodlpdbmiicdfabDoor
