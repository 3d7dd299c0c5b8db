/- Chapter 9, the model: pzFits, DoesFit, pzAll. -/
import Derived.Test.YtodlpdbmiicdfabDoorPzc
import Derived.Test.YtodlpdbmiicdfabDoorStr
import Derived.Deep.RegionHeldLaw
namespace Go.Proofs.YtodlpdbmiicdfabDoor
open Go.ChangeShapes Go.WideShapes Go.ChangeAt Go.RowKit
open Pz



end Go.Proofs.YtodlpdbmiicdfabDoor
