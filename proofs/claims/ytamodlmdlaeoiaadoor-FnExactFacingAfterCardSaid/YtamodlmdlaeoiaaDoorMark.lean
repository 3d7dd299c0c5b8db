/- The verifier's markText. -/
import Derived.Test.YtamodlmdlaeoiaaDoorOwn
import Derived.Laws.BytesArg
namespace Go.Proofs.YtamodlmdlaeoiaaDoor
open Go.ChangeShapes Go.WideShapes Go.ChangeAt Go.RowKit


end Go.Proofs.YtamodlmdlaeoiaaDoor
