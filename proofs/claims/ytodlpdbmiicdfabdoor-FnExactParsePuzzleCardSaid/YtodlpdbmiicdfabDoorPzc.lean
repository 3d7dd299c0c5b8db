/- Chapter 9, the model: l1Has, pzValue. -/
import Derived.Test.YtodlpdbmiicdfabDoorPzb
namespace Go.Proofs.YtodlpdbmiicdfabDoor
open Go.ChangeShapes Go.WideShapes Go.ChangeAt Go.RowKit
open Pz

namespace Pz
def bitsV : Value → List Bool
  | .string s => s.data.toList.map (· == 62)
  | _ => []
theorem bits_str (l : List Bool) : bitsV (.string (Rw.str l)) = l := by
  unfold bitsV
  simp only [Rw.str, Rw.txt]
  induction l with
  | nil => rfl
  | cons b t ih => cases b <;> (simp at ih ⊢; exact ⟨by decide, ih⟩)
theorem turnsA_le (a : Nat) : ∀ (N : Nat) (l : List Bool), Rw.ticksOf l ≤ N → turnsA a l ≤ Rw.ticksOf l := by
  intro N
  induction N with
  | zero =>
    intro l h
    by_cases hp : Rw.pairs l = []
    · rw [turnsA_rest hp]; exact Nat.zero_le _
    · have := (Rx.ticks_next hp).1; omega
  | succ N ih =>
    intro l h
    by_cases hp : Rw.pairs l = []
    · rw [turnsA_rest hp]; exact Nat.zero_le _
    · have h1 := (Rx.ticks_next hp).1
      have h2 := ih (Rw.tick l) (by omega)
      rw [turnsA_next hp]
      split <;> omega
theorem turnsA_60 {l : List Bool} (a : Nat) (h : l.length ≤ 60) : turnsA a l ≤ 3600 := by
  have := turnsA_le a _ l (Nat.le_refl _)
  have := Rw.ticksOf_le l
  have := Rw.mw_row l h
  omega
/-- whether a list holds a number -/
def hasZ (zs : List Int) (x : Int) : Bool := zs.contains x
theorem has_at (ps : List Nat) (a : Nat) : hasZ (asInts ps) (a : Int) = ps.contains a := by
  unfold hasZ
  rw [Bool.eq_iff_iff]
  simp only [asInts, List.contains_iff_mem, List.mem_map]
  constructor
  · rintro ⟨x, hx, he⟩
    have : x = a := by omega
    subst this
    exact hx
  · intro h; exact ⟨a, h, rfl⟩
theorem has_before (ps : List Nat) (a : Nat) : hasZ (asInts ps) ((a : Int) - 1) = (decide (1 ≤ a) && ps.contains (a - 1)) := by
  unfold hasZ
  rw [Bool.eq_iff_iff]
  simp only [asInts, List.contains_iff_mem, List.mem_map, Bool.and_eq_true, decide_eq_true_eq]
  constructor
  · rintro ⟨x, hx, he⟩
    have : x = a - 1 := by omega
    subst this
    exact ⟨by omega, hx⟩
  · rintro ⟨h1, h2⟩
    exact ⟨a - 1, h2, by omega⟩
theorem has_no {zs : List Int} {x : Int} (h : ∀ j, j < zs.length → zs.getD j 0 ≠ x) : hasZ zs x = false := by
  unfold hasZ
  rw [Bool.eq_false_iff]
  intro hc
  rw [List.contains_iff_mem] at hc
  obtain ⟨k, hk, he⟩ := List.getElem_of_mem hc
  exact h k hk (by rw [List.getD_eq_getElem?_getD, List.getElem?_eq_getElem hk]; exact he)
theorem has_yes {zs : List Int} {x : Int} {j : Nat} (hj : j < zs.length) (h : zs.getD j 0 = x) : hasZ zs x = true := by
  unfold hasZ
  rw [List.contains_iff_mem, ← h, List.getD_eq_getElem?_getD, List.getElem?_eq_getElem hj]
  exact List.getElem_mem hj
end Pz



end Go.Proofs.YtodlpdbmiicdfabDoor
