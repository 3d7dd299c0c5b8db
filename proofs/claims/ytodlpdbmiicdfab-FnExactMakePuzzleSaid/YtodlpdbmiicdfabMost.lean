/- l1Most, with the world as it was. -/
import Derived.Test.YtodlpdbmiicdfabOwn
namespace Go.Proofs.Ytodlpdbmiicdfab
open Go.ChangeShapes Go.WideShapes Go.ChangeAt Go.RowKit


end Go.Proofs.Ytodlpdbmiicdfab
