/- The verifier's markText. -/
import Derived.Test.YtjbomclildkjaaaDoorOwn
import Derived.Laws.BytesArg
namespace Go.Proofs.YtjbomclildkjaaaDoor
open Go.ChangeShapes Go.WideShapes Go.ChangeAt Go.RowKit


end Go.Proofs.YtjbomclildkjaaaDoor
