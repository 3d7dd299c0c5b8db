/- Lists that are turned around from both ends. -/
import Derived.Test.YtjbomclildkjaaaDoorUp
namespace Go.Proofs.YtjbomclildkjaaaDoor
open Go.ChangeShapes Go.WideShapes Go.ChangeAt Go.RowKit

/-- the list of which k at each end have been exchanged -/
def revTo {α : Type} (d : α) (l : List α) (k : Nat) : List α := (List.range l.length).map fun i => if i < k ∨ l.length ≤ i + k then l.getD (l.length - 1 - i) d else l.getD i d
theorem length_revTo {α : Type} (d : α) (l : List α) (k : Nat) : (revTo d l k).length = l.length := by simp [revTo]
theorem getD_revTo {α : Type} (d : α) (l : List α) (k i : Nat) (hi : i < l.length) : (revTo d l k).getD i d = if i < k ∨ l.length ≤ i + k then l.getD (l.length - 1 - i) d else l.getD i d := by
  rw [List.getD_eq_getElem?_getD, revTo, List.getElem?_map, List.getElem?_range hi]; rfl
theorem revTo_zero {α : Type} (d : α) (l : List α) : revTo d l 0 = l := by
  refine ext_getD d (length_revTo _ _ _) fun i hi => ?_
  rw [length_revTo] at hi
  rw [getD_revTo _ _ _ _ hi, if_neg (by omega)]
theorem revTo_all {α : Type} (d : α) (l : List α) (k : Nat) (hk : l.length ≤ 2 * k + 1) : revTo d l k = l.reverse := by
  refine ext_getD d (by rw [length_revTo, List.length_reverse]) fun i hi => ?_
  rw [length_revTo] at hi
  have hr : l.reverse.getD i d = l.getD (l.length - 1 - i) d := by
    simp only [List.getD_eq_getElem?_getD]
    rw [List.getElem?_reverse hi]
  rw [getD_revTo _ _ _ _ hi, hr]
  by_cases h : i < k ∨ l.length ≤ i + k
  · rw [if_pos h]
  · rw [if_neg h, show l.length - 1 - i = i from by omega]
theorem revTo_succ {α : Type} (d : α) (l : List α) (k j : Nat) (hj : j + k + 1 = l.length) (hkj : k < j) :
    ((revTo d l k).set k ((revTo d l k).getD j d)).set j ((revTo d l k).getD k d) = revTo d l (k + 1) := by
  have hl := length_revTo d l k
  refine ext_getD d (by simp [length_revTo]) fun i hi => ?_
  rw [List.length_set, List.length_set, hl] at hi
  rw [getD_set, getD_set, getD_revTo _ _ (k + 1) i hi]
  rw [getD_revTo _ _ k j (by omega), getD_revTo _ _ k k (by omega), getD_revTo _ _ k i hi]
  by_cases h1 : i = j
  · subst h1
    rw [if_pos ⟨rfl, by rw [List.length_set, hl]; omega⟩, if_neg (by omega), if_pos (by omega), show l.length - 1 - i = k from by omega]
  · rw [if_neg (by omega)]
    by_cases h2 : i = k
    · subst h2
      rw [if_pos ⟨rfl, by rw [hl]; omega⟩, if_neg (by omega), if_pos (by omega), show l.length - 1 - i = j from by omega]
    · rw [if_neg (by omega)]
      by_cases h3 : i < k ∨ l.length ≤ i + k
      · rw [if_pos h3, if_pos (by omega)]
      · rw [if_neg h3, if_neg (by omega)]

end Go.Proofs.YtjbomclildkjaaaDoor
