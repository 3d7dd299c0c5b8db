/- l1Most, with the world as it was. -/
import Derived.Test.YtpoceonmlpnhlabDoorOwn
namespace Go.Proofs.YtpoceonmlpnhlabDoor
open Go.ChangeShapes Go.WideShapes Go.ChangeAt Go.RowKit


end Go.Proofs.YtpoceonmlpnhlabDoor
