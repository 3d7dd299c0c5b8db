/- Chapter 3, the program's functions of numbers: who may stand where, hollow squares, places. -/
import Derived.Test.YthnbimfdodfhoaaFo
import Derived.Test.YthnbimfdodfhoaaFoR
namespace Go.Proofs.Ythnbimfdodfhoaa
open Go.ChangeShapes Go.WideShapes Go.ChangeAt Go.RowKit
open Fo













end Go.Proofs.Ythnbimfdodfhoaa
