/- Chapter 9, plain: what the model reads of a puzzle's text. -/
import Derived.Test.YtodlpdbmiicdfabDoorPzp
import Derived.Test.YtodlpdbmiicdfabDoorPzm
import Derived.Test.YtodlpdbmiicdfabDoorSplit
import Derived.Test.YtodlpdbmiicdfabDoorAny
namespace Go.Proofs.YtodlpdbmiicdfabDoor
open Go.ChangeShapes Go.WideShapes Go.ChangeAt Go.RowKit
open Pz Rd

namespace Pz
theorem cutTo_sizeP (s : ByteArray) (b : Nat) : ∀ k, ∀ z ∈ (cutTo s b k).1, z.size ≤ s.size
  | 0, z, h => by cases h
  | k + 1, z, h => by
    rw [cutTo] at h
    split at h
    · rcases List.mem_append.1 h with h | h
      · exact cutTo_sizeP s b k z h
      · rw [List.mem_singleton.1 h, ByteArray.size_extract]; omega
    · exact cutTo_sizeP s b k z h
theorem cutL_sizeP (s : ByteArray) (b k : Nat) : ((cutL s b).getD k ByteArray.empty).size ≤ s.size := by
  by_cases h : k < (cutL s b).length
  · rw [List.getD_eq_getElem?_getD, List.getElem?_eq_getElem h]
    have hm : (cutL s b)[k] ∈ cutL s b := List.getElem_mem h
    show ((cutL s b)[k]).size ≤ _
    generalize (cutL s b)[k] = z at hm
    unfold cutL at hm
    rcases List.mem_append.1 hm with hm | hm
    · exact cutTo_sizeP s b _ z hm
    · rw [List.mem_singleton.1 hm, ByteArray.size_extract]; omega
  · rw [List.getD_eq_getElem?_getD, List.getElem?_eq_none (by omega)]; exact Nat.zero_le _
theorem strs_neP {q s : ByteArray} (h : ¬ q = s) : (q.toList == s.toList) = false := by
  rw [beq_eq_false_iff_ne]
  intro e
  apply h
  rw [ByteArray.toList_eq, ByteArray.toList_eq] at e
  exact ByteArray.ext (Array.toList_inj.1 e)
/-- the clue that a text is, if it has four pieces -/
def rd4 (t : ByteArray) : RClue := (readZ ((cutL t 46).getD 0 ByteArray.empty), readZ ((cutL t 46).getD 1 ByteArray.empty), readZ ((cutL t 46).getD 2 ByteArray.empty), readZ ((cutL t 46).getD 3 ByteArray.empty))
def rdTo (L : List ByteArray) (k : Nat) : List RClue := (List.range k).map fun i => rd4 (L.getD i ByteArray.empty)
theorem rdTo_succ (L : List ByteArray) (k : Nat) : rdTo L (k + 1) = rdTo L k ++ [rd4 (L.getD k ByteArray.empty)] := by unfold rdTo; rw [List.range_succ, List.map_append]; rfl
theorem length_rdTo (L : List ByteArray) (k : Nat) : (rdTo L k).length = k := by simp [rdTo]
def restT (s : ByteArray) : ByteArray := (cutL s 58).getD 1 ByteArray.empty
def textsL (s : ByteArray) : List ByteArray := if (restT s).size = 0 then [] else cutL (restT s) 44
def soldZ (s : ByteArray) : Int := readZ ((cutL s 58).getD 0 ByteArray.empty)
def cluesZ (s : ByteArray) : List RClue := rdTo (textsL s) (textsL s).length
def foursB (s : ByteArray) : Bool := (List.range (textsL s).length).all fun i => decide ((cutL ((textsL s).getD i ByteArray.empty) 46).length = 4)
def headB (s : ByteArray) : Bool := decide (s.size ≤ 120) && decide ((cutL s 58).length = 2)
def parP (s : ByteArray) : Bool := headB s && (foursB s && (goodP (soldZ s) (cluesZ s) && decide (puzT (soldZ s).toNat (cluesZ s) = s)))
theorem fours_no {s : ByteArray} {k : Nat} (hk : k < (textsL s).length) (h : ¬ (cutL ((textsL s).getD k ByteArray.empty) 46).length = 4) : parP s = false := by
  have : foursB s = false := by
    unfold foursB
    rw [List.all_eq_false]
    exact ⟨k, List.mem_range.2 hk, by simpa using h⟩
  unfold parP; rw [this]; simp
theorem fours_yes {s : ByteArray} (h1 : headB s = true) (h : ∀ k, k < (textsL s).length → (cutL ((textsL s).getD k ByteArray.empty) 46).length = 4) : parP s = (goodP (soldZ s) (cluesZ s) && decide (puzT (soldZ s).toNat (cluesZ s) = s)) := by
  have : foursB s = true := by
    unfold foursB
    rw [List.all_eq_true]
    exact fun k hk => decide_eq_true (h k (List.mem_range.1 hk))
  unfold parP; rw [this, h1]; simp
end Pz

end Go.Proofs.YtodlpdbmiicdfabDoor
