/- l1Least, with the world as it was. -/
import Derived.Test.YtpoceonmlpnhlabOwn
namespace Go.Proofs.Ytpoceonmlpnhlab
open Go.ChangeShapes Go.WideShapes Go.ChangeAt Go.RowKit


end Go.Proofs.Ytpoceonmlpnhlab
