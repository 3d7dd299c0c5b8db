/- Chapter 6, the model: fiTurn, fiSorted, fiEnd; TurnFiles, AreRowsSorted, AreColumnsSorted, ShortestOfTallest, TallestOfShortest. -/
import Derived.Test.YtpoceonmlpnhlabDoorFi
import Derived.Test.YtpoceonmlpnhlabDoorLeast
import Derived.Test.YtpoceonmlpnhlabDoorMost
import Derived.Test.YtpoceonmlpnhlabDoorDrew
namespace Go.Proofs.YtpoceonmlpnhlabDoor
open Go.ChangeShapes Go.WideShapes Go.ChangeAt Go.RowKit
open Fi

namespace Fi
/-- column k -/
def col (zss : List (List Int)) (k : Nat) : List Int := upTo (fun i => (row zss i).getD k 0) zss.length
def turnTo (zss : List (List Int)) (k : Nat) : List (List Int) := (List.range k).map (col zss)
def turnL (zss : List (List Int)) : List (List Int) := turnTo zss (row zss 0).length
theorem turnTo_succ (zss : List (List Int)) (k : Nat) : turnTo zss (k + 1) = turnTo zss k ++ [col zss k] := by unfold turnTo; rw [List.range_succ, List.map_append]; rfl
theorem length_turnTo (zss : List (List Int)) (k : Nat) : (turnTo zss k).length = k := by simp [turnTo]
theorem length_col (zss : List (List Int)) (k : Nat) : (col zss k).length = zss.length := length_upTo _ _
theorem row_turn (zss : List (List Int)) (k : Nat) (h : k < (row zss 0).length) : row (turnL zss) k = col zss k := by
  unfold turnL turnTo
  show ((List.range _).map (col zss)).getD k [] = _
  rw [getD_range _ _ _ h]
theorem length_turnL (zss : List (List Int)) : (turnL zss).length = (row zss 0).length := length_turnTo _ _
theorem good_turn {zss : List (List Int)} {R C : Nat} (h : Good zss R C) : Good (turnL zss) C R := by
  have hC := h.cols 0 (by have := h.r1; omega)
  refine ⟨by rw [length_turnL, hC], h.c1, h.c8, h.r1, h.r8, fun i hi => ?_, fun i hi => ?_⟩
  · rw [row_turn _ _ (by omega), length_col, h.rows]
  · rw [row_turn _ _ (by omega)]
    refine allB_of fun j hj => ?_
    rw [length_col] at hj
    unfold col
    rw [getD_upTo _ _ _ hj]
    exact inB_of (h.get j i (by rw [← h.rows]; exact hj) hi)
theorem tot_good {zss : List (List Int)} {R C : Nat} (h : Good zss R C) : total zss ≤ 64 := by
  have := tot_rows zss C (fun x hx => by
    obtain ⟨i, hi, rfl⟩ := List.getElem_of_mem hx
    have e : zss[i] = row zss i := by unfold row; simp [List.getD_eq_getElem?_getD, hi]
    rw [e, h.cols i (by rw [← h.rows]; exact hi)]
    exact Nat.le_refl _) zss.length
  have h2 : zss.length * C ≤ 8 * 8 := Nat.mul_le_mul (by rw [h.rows]; exact h.r8) h.c8
  unfold total
  omega
theorem Good.fits {zss : List (List Int)} {R C : Nat} (h : Good zss R C) : FitsSS zss := ⟨by have := h.rows; have := h.r8; omega, by have := tot_good h; omega⟩
theorem fits_good {zss : List (List Int)} {R C : Nat} (h : Good zss R C) : zss.length ≤ 1000000000 ∧ total zss ≤ 1000000000 := h.fits.fits

def rowSortedB (r : List Int) : Bool := (List.range (r.length - 1)).all fun k => decide (r.getD k 0 ≤ r.getD (k + 1) 0)
def sortedB (zss : List (List Int)) : Bool := zss.all rowSortedB
theorem rowSorted_iff {r : List Int} : rowSortedB r = true ↔ ∀ k, k + 1 < r.length → r.getD k 0 ≤ r.getD (k + 1) 0 := by
  unfold rowSortedB
  simp only [List.all_eq_true, List.mem_range, decide_eq_true_eq]
  exact ⟨fun h k hk => h k (by omega), fun h k hk => h k (by omega)⟩
theorem rowSorted_not {r : List Int} {k : Nat} (hk : k + 1 < r.length) (h : r.getD (k + 1) 0 < r.getD k 0) : rowSortedB r = false := by
  cases hb : rowSortedB r with
  | false => rfl
  | true => have := rowSorted_iff.1 hb k hk; omega
theorem sorted_all {zss : List (List Int)} (h : ∀ i, i < zss.length → rowSortedB (row zss i) = true) : sortedB zss = true := by
  unfold sortedB
  rw [List.all_eq_true]
  intro r hr
  obtain ⟨i, hi, rfl⟩ := List.getElem_of_mem hr
  have := h i hi
  unfold row at this
  simpa [List.getD_eq_getElem?_getD, hi] using this
theorem sorted_not {zss : List (List Int)} {i : Nat} (hi : i < zss.length) (h : rowSortedB (row zss i) = false) : sortedB zss = false := by
  unfold sortedB
  rw [List.all_eq_false]
  exact ⟨row zss i, row_mem hi, by rw [h]; simp⟩

/-- the least one of the first one and of the first j -/
def leastTo (zs : List Int) : Nat → Int
  | 0 => zs.getD 0 0
  | j + 1 => min (leastTo zs j) (zs.getD j 0)
def mostTo (zs : List Int) : Nat → Int
  | 0 => zs.getD 0 0
  | j + 1 => max (mostTo zs j) (zs.getD j 0)
def leastL (zs : List Int) : Int := leastTo zs zs.length
def mostL (zs : List Int) : Int := mostTo zs zs.length
def shortTo (zss : List (List Int)) : Nat → Int
  | 0 => 999
  | j + 1 => min (shortTo zss j) (mostL (row (turnL zss) j))
def tallTo (zss : List (List Int)) : Nat → Int
  | 0 => 0
  | j + 1 => max (tallTo zss j) (leastL (row zss j))
end Fi




end Go.Proofs.YtpoceonmlpnhlabDoor
