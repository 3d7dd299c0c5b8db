/- Chapter 9, the model: pzAll. -/
import Derived.Test.YtodlpdbmiicdfabDoorPzd
namespace Go.Proofs.YtodlpdbmiicdfabDoor
open Go.ChangeShapes Go.WideShapes Go.ChangeAt Go.RowKit
open Pz


end Go.Proofs.YtodlpdbmiicdfabDoor
