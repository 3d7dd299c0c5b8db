/- Slices of Signal: what came in, what a call owns; the verifier's sz, to, eq, mark, held. Written by a program of mine (tools/gen_rec.py). -/
import Derived.Test.YtmlamcimncfmcabRec
import Derived.Test.YtmlamcimncfmcabOpen
import Derived.Test.YtmlamcimncfmcabKinds
import Derived.Deep.RegionHeldLaw
namespace Go.Proofs.Ytmlamcimncfmcab
open Go.ChangeShapes Go.WideShapes Go.ChangeAt Go.RowKit

abbrev RSignal := Int × Bool × Int
def zSignal : RSignal := (0, false, 0)
def cSignal (p : RSignal) : List Value := [.int .i64 p.1, .bool p.2.1, .int .i64 p.2.2]









end Go.Proofs.Ytmlamcimncfmcab
