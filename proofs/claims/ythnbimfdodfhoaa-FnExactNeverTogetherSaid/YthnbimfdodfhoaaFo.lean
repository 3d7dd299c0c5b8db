/- Chapter 3, numbers: plain facts, and the model's functions of numbers alone. -/
import Derived.Test.YthnbimfdodfhoaaIn
namespace Go.Proofs.Ythnbimfdodfhoaa
open Go.ChangeShapes Go.WideShapes Go.ChangeAt Go.RowKit

namespace Fo
def hollowB (s t : Int) : Bool := inB s 3 1000 && inB t 1 ((s - 1) / 2)
def placedB (c s : Int) : Bool := inB c 1 1000 && inB s 0 999999
def atB (c r k : Int) : Bool := inB c 1 1000 && (inB r 0 1000 && inB k 0 (c - 1))
def snake (c r k : Int) : Int := if r % 2 = 1 then c - 1 - k else k
def greatB (n t : Int) : Bool := inB n 1 1000000 && (inB t 1 1000 && decide (2 * t < n / 4 / t + t))
end Fo
open Fo
def outCountHollow_0 (s t : Int) : Int := if hollowB s t then 4 * t * (s - t) else 0
def outCountHollow_1 (s t : Int) : Bool := hollowB s t
def outPlaceIn_0 (c s : Int) : Int := if placedB c s then s / c else 0
def outPlaceIn_1 (c s : Int) : Int := if placedB c s then s % c else 0
def outPlaceIn_2 (c s : Int) : Bool := placedB c s
def outSnakePlace_0 (c s : Int) : Int := if placedB c s then s / c else 0
def outSnakePlace_1 (c s : Int) : Int := if placedB c s then snake c (s / c) (s % c) else 0
def outSnakePlace_2 (c s : Int) : Bool := placedB c s
def outSoldierAt_0 (c r k : Int) : Int := if atB c r k then r * c + k else 0
def outSoldierAt_1 (c r k : Int) : Bool := atB c r k
def outSoldierOfSnake_0 (c r k : Int) : Int := if atB c r k then r * c + snake c r k else 0
def outSoldierOfSnake_1 (c r k : Int) : Bool := atB c r k
def outGreatestHollow_0 (n t : Int) : Int := if greatB n t then n / 4 / t + t else 0
def outGreatestHollow_1 (n t : Int) : Int := if greatB n t then n - 4 * t * (n / 4 / t) else 0
def outGreatestHollow_2 (n t : Int) : Bool := greatB n t












end Go.Proofs.Ythnbimfdodfhoaa
