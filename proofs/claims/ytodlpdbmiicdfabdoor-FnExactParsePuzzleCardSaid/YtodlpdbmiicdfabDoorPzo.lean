/- Chapter 9: the model's pzNext, pzOf. Written by a program of mine (tools/mk/mk_pzo.py). -/
import Derived.Test.YtodlpdbmiicdfabDoorPzj
import Derived.Test.YtodlpdbmiicdfabDoorPzc
import Derived.Test.YtodlpdbmiicdfabDoorAgg
namespace Go.Proofs.YtodlpdbmiicdfabDoor
open Go.ChangeShapes Go.WideShapes Go.ChangeAt Go.RowKit
open Pz

namespace Pz
def nextZ (z : Nat) : Nat := (223 * z + 2161) % 10007
theorem nextZ_lt (z : Nat) : nextZ z < 10007 := Nat.mod_lt _ (by decide)
def ofA (k y n : Nat) : Nat := if k = 0 ∨ k = 4 then y % n else 0
def ofB (k y : Nat) : Nat := if k = 0 then y / 11 % 4 else 0
/-- a clue of a kind that a row fits -/
def clueOf (k y : Nat) (l : List Bool) : RClue := ((k : Int), ((ofA k y l.length : Nat) : Int), ((ofB k y : Nat) : Int), ((valueN k (ofA k y l.length) (ofB k y) l : Nat) : Int))
theorem ofA_lt {k y n : Nat} (h : 0 < n) : ofA k y n < n := by unfold ofA; split; exact Nat.mod_lt _ h; exact h
theorem ofB_lt (k y : Nat) : ofB k y ≤ 20 := by
  unfold ofB
  split
  · have := Nat.mod_lt (y / 11) (show 0 < 4 by decide); omega
  · omega
end Pz



end Go.Proofs.YtodlpdbmiicdfabDoor
