/- Chapter 9, the model: NeedlessClues. -/
import Derived.Test.YtodlpdbmiicdfabDoorPzf
import Derived.Test.YtodlpdbmiicdfabDoorPzh
import Derived.Test.YtodlpdbmiicdfabDoorMost
namespace Go.Proofs.YtodlpdbmiicdfabDoor
open Go.ChangeShapes Go.WideShapes Go.ChangeAt Go.RowKit
open Pz

namespace Pz
theorem clues_without {n : Int} {cs : List RClue} {k : Nat} (h : ∀ j, j < cs.length → clueB n (cs.getD j zClue) = true) : ∀ j, j < (without cs k).length → clueB n ((without cs k).getD j zClue) = true := by
  intro j hj
  rw [List.getD_eq_getElem?_getD, List.getElem?_eq_getElem hj, Option.getD_some]
  have hm := List.getElem_mem hj
  obtain ⟨x, hx⟩ : ∃ x, x = (without cs k)[j] := ⟨_, rfl⟩
  rw [← hx] at hm ⊢
  have hmem : x ∈ cs := by
    unfold without at hm
    rcases List.mem_append.1 hm with h | h
    · exact List.mem_of_mem_take h
    · exact List.mem_of_mem_drop h
  obtain ⟨i, hi, rfl⟩ := List.getElem_of_mem hmem
  have := h i hi
  rwa [List.getD_eq_getElem?_getD, List.getElem?_eq_getElem hi, Option.getD_some] at this
theorem length_without {cs : List RClue} {k : Nat} (h : k < cs.length) : (without cs k).length = cs.length - 1 := by
  unfold without
  rw [List.length_append, List.length_take, List.length_drop]; omega
def needTo (n : Nat) (cs : List RClue) (j : Nat) : List Nat := (List.range j).filter fun k => decide ((solL n (without cs k)).length = (solL n cs).length)
theorem needTo_yes {n : Nat} {cs : List RClue} {j : Nat} (h : (solL n (without cs j)).length = (solL n cs).length) : asInts (needTo n cs (j + 1)) = asInts (needTo n cs j) ++ [(j : Int)] := by
  unfold needTo; rw [List.range_succ, List.filter_append]; simp [h, asInts]
theorem needTo_no {n : Nat} {cs : List RClue} {j : Nat} (h : ¬ (solL n (without cs j)).length = (solL n cs).length) : asInts (needTo n cs (j + 1)) = asInts (needTo n cs j) := by
  unfold needTo; rw [List.range_succ, List.filter_append]; simp [h]
theorem needTo_le (n : Nat) (cs : List RClue) (j : Nat) : (needTo n cs j).length ≤ j := by
  unfold needTo; exact Nat.le_trans (List.length_filter_le _ _) (by simp)
end Pz


end Go.Proofs.YtodlpdbmiicdfabDoor
