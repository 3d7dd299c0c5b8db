/- Chapter 8: the model's WaitsFor, MiddleMeeting. -/
import Derived.Test.YtmlamcimncfmcabDoorSib
import Derived.Test.YtmlamcimncfmcabDoorSie
namespace Go.Proofs.YtmlamcimncfmcabDoor
open Go.ChangeShapes Go.WideShapes Go.ChangeAt Go.RowKit
open Si

namespace Si
theorem waitsTo_succ (N f k : Nat) : waitsTo N f (k + 1) = waitsTo N f k ++ [((farTo N [f] N : Nat) : Int) - (nearN N [f] k : Nat)] := upTo_succ _ _
theorem length_waitsTo (N f k : Nat) : (waitsTo N f k).length = k := length_upTo _ _
/-- the first one below a number -/
def soonTo (p : Nat → Bool) (k : Nat) : Option Nat := (List.range k).find? p
theorem soonTo_hit {p : Nat → Bool} {k n : Nat} (h : ∀ j, j < k → p j = false) (hk : p k = true) (hn : k < n) : soonTo p n = some k := by
  unfold soonTo
  rw [List.find?_range_eq_some]
  exact ⟨hk, List.mem_range.2 hn, fun j hj => by rw [h j hj]; rfl⟩
theorem soonTo_miss {p : Nat → Bool} {n : Nat} (h : ∀ j, j < n → p j = false) : soonTo p n = none := by
  unfold soonTo
  rw [List.find?_eq_none]
  intro j hj
  rw [h j (List.mem_range.1 hj)]; decide
def midP (n t : Nat) : Bool := meetB n 0 false 1 0 false 3 (t + 1)
def midB (n : Int) : Bool := inB n 1 100 && decide (n ≠ 1)
end Si
def outMiddleMeeting_0 (n : Int) : Int := if midB n then (match soonTo (midP n.toNat) 100000 with | some t => ((t + 1 : Nat) : Int) | none => 0) else 0
def outMiddleMeeting_1 (n : Int) : Int := if midB n then (match soonTo (midP n.toNat) 100000 with | some t => (posN n.toNat 0 false 1 (t + 1) : Nat) | none => 0) else 0
def outMiddleMeeting_2 (n : Int) : Bool := midB n && (soonTo (midP n.toNat) 100000).isSome



end Go.Proofs.YtmlamcimncfmcabDoor
