/- Chapter 9, the model: Solutions, CountSolutions, FirstSolution, IsSolved. -/
import Derived.Test.YtodlpdbmiicdfabDoorPze
namespace Go.Proofs.YtodlpdbmiicdfabDoor
open Go.ChangeShapes Go.WideShapes Go.ChangeAt Go.RowKit
open Pz

def outSolutions_1 (s : Int) (cs : List RClue) : Bool := goodP s cs
def outSolutions_0 (s : Int) (cs : List RClue) : List ByteArray := if goodP s cs then solL s.toNat cs else []

def outCountSolutions_1 (s : Int) (cs : List RClue) : Bool := goodP s cs
def outCountSolutions_0 (s : Int) (cs : List RClue) : Int := if goodP s cs then ((solL s.toNat cs).length : Nat) else 0

def outFirstSolution_1 (s : Int) (cs : List RClue) : Bool := goodP s cs && decide (0 < (solL s.toNat cs).length)
def outFirstSolution_0 (s : Int) (cs : List RClue) : ByteArray := if outFirstSolution_1 s cs then (solL s.toNat cs).getD 0 ByteArray.empty else ByteArray.empty


def outIsSolved_1 (s : Int) (cs : List RClue) : Bool := goodP s cs
def outIsSolved_0 (s : Int) (cs : List RClue) : Bool := goodP s cs && decide ((solL s.toNat cs).length = 1)

end Go.Proofs.YtodlpdbmiicdfabDoor
