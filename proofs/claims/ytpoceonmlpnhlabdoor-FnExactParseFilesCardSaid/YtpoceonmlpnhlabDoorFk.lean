/- Chapter 6, the model: TurnFiles, AreRowsSorted, AreColumnsSorted, ShortestOfTallest, TallestOfShortest, SaddlePlaces. -/
import Derived.Test.YtpoceonmlpnhlabDoorFj
namespace Go.Proofs.YtpoceonmlpnhlabDoor
open Go.ChangeShapes Go.WideShapes Go.ChangeAt Go.RowKit
open Fi

theorem fits_nilF : ([] : List (List Int)).length ≤ 1000000000 ∧ total [] ≤ 1000000000 := ⟨by simp, by simp [total, tot]⟩
def outTurnFiles_0 (zss : List (List Int)) : List (List Int) := if goodF zss then turnL zss else []
def outTurnFiles_1 (zss : List (List Int)) : Bool := goodF zss
theorem lenTurnFiles_0 (zss : List (List Int)) : (outTurnFiles_0 zss).length ≤ 1000000000 ∧ total (outTurnFiles_0 zss) ≤ 1000000000 := by
  unfold outTurnFiles_0
  split
  · rename_i h
    exact fits_good (good_turn (good_of h))
  · exact fits_nilF
def outAreRowsSorted_0 (zss : List (List Int)) : Bool := goodF zss && sortedB zss
def outAreRowsSorted_1 (zss : List (List Int)) : Bool := goodF zss
def outAreColumnsSorted_0 (zss : List (List Int)) : Bool := goodF zss && sortedB (turnL zss)
def outAreColumnsSorted_1 (zss : List (List Int)) : Bool := goodF zss
def outShortestOfTallest_0 (zss : List (List Int)) : Int := if goodF zss then shortTo zss (row zss 0).length else 0
def outShortestOfTallest_1 (zss : List (List Int)) : Bool := goodF zss
def outTallestOfShortest_0 (zss : List (List Int)) : Int := if goodF zss then tallTo zss zss.length else 0
def outTallestOfShortest_1 (zss : List (List Int)) : Bool := goodF zss
namespace Fi
def sadB (zss : List (List Int)) (i k : Nat) : Bool := decide ((row zss i).getD k 0 = leastL (row zss i)) && decide ((row zss i).getD k 0 = mostL (row (turnL zss) k))
/-- the saddles of row i in its first k places -/
def sadRow (zss : List (List Int)) (i : Nat) : Nat → List (List Int)
  | 0 => []
  | k + 1 => if sadB zss i k then sadRow zss i k ++ [[(i : Int), (k : Int)]] else sadRow zss i k
/-- the saddles of the first i rows -/
def sadTo (zss : List (List Int)) : Nat → List (List Int)
  | 0 => []
  | i + 1 => sadTo zss i ++ sadRow zss i (row zss 0).length
theorem sadRow_mem (zss : List (List Int)) (i : Nat) : ∀ k, (sadRow zss i k).length ≤ k ∧ ∀ x ∈ sadRow zss i k, x.length = 2
  | 0 => ⟨by simp [sadRow], by simp [sadRow]⟩
  | k + 1 => by
    have h := sadRow_mem zss i k
    rw [sadRow]
    split
    · refine ⟨by rw [List.length_append]; simp; omega, fun x hx => ?_⟩
      rw [List.mem_append] at hx
      rcases hx with hx | hx
      · exact h.2 x hx
      · simp at hx; rw [hx]; rfl
    · exact ⟨by omega, h.2⟩
theorem sadTo_mem (zss : List (List Int)) : ∀ i, (sadTo zss i).length ≤ i * (row zss 0).length ∧ ∀ x ∈ sadTo zss i, x.length = 2
  | 0 => ⟨by simp [sadTo], by simp [sadTo]⟩
  | i + 1 => by
    have h := sadTo_mem zss i
    have h2 := sadRow_mem zss i (row zss 0).length
    rw [sadTo]
    refine ⟨by rw [List.length_append, Nat.succ_mul]; omega, fun x hx => ?_⟩
    rw [List.mem_append] at hx
    rcases hx with hx | hx
    · exact h.2 x hx
    · exact h2.2 x hx
end Fi
def outSaddlePlaces_0 (zss : List (List Int)) : List (List Int) := if goodF zss then sadTo zss zss.length else []
def outSaddlePlaces_1 (zss : List (List Int)) : Bool := goodF zss
theorem lenSaddlePlaces_0 (zss : List (List Int)) : (outSaddlePlaces_0 zss).length ≤ 1000000000 ∧ total (outSaddlePlaces_0 zss) ≤ 1000000000 := by
  unfold outSaddlePlaces_0
  split
  · rename_i h
    have g := good_of h
    have h1 := sadTo_mem zss zss.length
    have h2 : zss.length * (row zss 0).length ≤ 8 * 8 := Nat.mul_le_mul g.r8 g.c8
    exact fits_twos (by omega) h1.2
  · exact fits_nilF







end Go.Proofs.YtpoceonmlpnhlabDoor
