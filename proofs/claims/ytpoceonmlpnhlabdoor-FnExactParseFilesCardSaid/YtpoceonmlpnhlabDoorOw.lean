/- l1Own: a copy of a slice of ints, empty or not. -/
import Derived.Test.YtpoceonmlpnhlabDoorClone
import Derived.Laws.AppendOwnNone
namespace Go.Proofs.YtpoceonmlpnhlabDoor
open Go.ChangeShapes Go.WideShapes Go.ChangeAt Go.RowKit


end Go.Proofs.YtpoceonmlpnhlabDoor
