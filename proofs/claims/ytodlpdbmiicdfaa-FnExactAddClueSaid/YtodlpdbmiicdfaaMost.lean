/- l1Most, with the world as it was. -/
import Derived.Test.YtodlpdbmiicdfaaOwn
namespace Go.Proofs.Ytodlpdbmiicdfaa
open Go.ChangeShapes Go.WideShapes Go.ChangeAt Go.RowKit


end Go.Proofs.Ytodlpdbmiicdfaa
