/- Chapter 9, the model, plain: clues, what they tell of a row, solutions. -/
import Derived.Test.YtodlpdbmiicdfabDoorGx
import Derived.Test.YtodlpdbmiicdfabDoorRClue
import Derived.Test.YtodlpdbmiicdfabDoorIn
namespace Go.Proofs.YtodlpdbmiicdfabDoor
open Go.ChangeShapes Go.WideShapes Go.ChangeAt Go.RowKit

namespace Pz
/-- whether there is such a clue of rows of so many soldiers -/
def clueB (s : Int) (c : RClue) : Bool :=
  if c.1 = 0 then inB c.2.1 0 (s - 1) && (inB c.2.2.1 0 20 && inB c.2.2.2 0 1)
  else if c.1 = 1 then decide (c.2.1 = 0) && (decide (c.2.2.1 = 0) && inB c.2.2.2 0 s)
  else if c.1 = 2 then decide (c.2.1 = 0) && (decide (c.2.2.1 = 0) && inB c.2.2.2 0 20)
  else if c.1 = 3 then decide (c.2.1 = 0) && (decide (c.2.2.1 = 0) && inB c.2.2.2 0 8)
  else if c.1 = 4 then inB c.2.1 0 (s - 1) && (decide (c.2.2.1 = 0) && inB c.2.2.2 0 20)
  else false
def goodP (s : Int) (cs : List RClue) : Bool := inB s 1 8 && (decide (cs.length ≤ 6) && cs.all (clueB s))
/-- a clue as the walks use it -/
structure OkC (n : Nat) (c : RClue) (k a b : Nat) : Prop where
  kind : c.1 = (k : Int)
  ka : c.2.1 = (a : Int)
  kb : c.2.2.1 = (b : Int)
  k4 : k ≤ 4
  an : a < n
  b20 : b ≤ 20
theorem ok_of {n : Nat} (h1 : 1 ≤ n) {c : RClue} (h : clueB (n : Int) c = true) : ∃ k a b : Nat, OkC n c k a b := by
  obtain ⟨k, a, b, d⟩ := c
  unfold clueB at h
  simp only at h
  have key : ∀ (K : Nat), k = (K : Int) → K ≤ 4 → (0 ≤ a ∧ a ≤ (n : Int) - 1) → (0 ≤ b ∧ b ≤ 20) → ∃ k' a' b' : Nat, OkC n (k, a, b, d) k' a' b' := fun K hk h4 ha hb =>
    ⟨K, a.toNat, b.toNat, hk, by show a = _; omega, by show b = _; omega, h4, by omega, by omega⟩
  by_cases h0 : k = 0
  · rw [if_pos h0, Bool.and_eq_true, Bool.and_eq_true] at h
    exact key 0 h0 (by omega) (inB_yes h.1) (inB_yes h.2.1)
  rw [if_neg h0] at h
  by_cases h1' : k = 1
  · rw [if_pos h1', Bool.and_eq_true, Bool.and_eq_true, decide_eq_true_eq, decide_eq_true_eq] at h
    exact key 1 h1' (by omega) (by omega) (by omega)
  rw [if_neg h1'] at h
  by_cases h2 : k = 2
  · rw [if_pos h2, Bool.and_eq_true, Bool.and_eq_true, decide_eq_true_eq, decide_eq_true_eq] at h
    exact key 2 h2 (by omega) (by omega) (by omega)
  rw [if_neg h2] at h
  by_cases h3 : k = 3
  · rw [if_pos h3, Bool.and_eq_true, Bool.and_eq_true, decide_eq_true_eq, decide_eq_true_eq] at h
    exact key 3 h3 (by omega) (by omega) (by omega)
  rw [if_neg h3] at h
  by_cases h4 : k = 4
  · rw [if_pos h4, Bool.and_eq_true, Bool.and_eq_true, decide_eq_true_eq] at h
    exact key 4 h4 (by omega) (inB_yes h.1) (by omega)
  rw [if_neg h4] at h
  cases h
/-- the row behind so many ticks -/
def tickN : Nat → List Bool → List Bool
  | 0, l => l
  | n + 1, l => tickN n (Rw.tick l)
theorem length_tickN : ∀ (n : Nat) (l : List Bool), (tickN n l).length = l.length
  | 0, _ => rfl
  | n + 1, l => by rw [tickN, length_tickN n, Rx.tick_length]
/-- how many of the first j look to the right -/
def rightTo (l : List Bool) : Nat → Nat
  | 0 => 0
  | j + 1 => if l.getD j false then rightTo l j + 1 else rightTo l j
theorem rightTo_le (l : List Bool) : ∀ j, rightTo l j ≤ j
  | 0 => Nat.le_refl _
  | j + 1 => by have := rightTo_le l j; rw [rightTo]; split <;> omega
/-- whether a soldier is one of a pair -/
def inPair (l : List Bool) (a : Nat) : Bool := (Rw.pairs l).contains a || (decide (1 ≤ a) && (Rw.pairs l).contains (a - 1))
/-- how often a soldier turns until rest -/
def turnsA (a : Nat) (l : List Bool) : Nat := if _h : Rw.pairs l = [] then 0 else turnsA a (Rw.tick l) + (if inPair l a then 1 else 0)
termination_by Rw.mw 0 l
decreasing_by exact Rw.tick_lt l _h
theorem turnsA_rest {a : Nat} {l : List Bool} (h : Rw.pairs l = []) : turnsA a l = 0 := by rw [turnsA, dif_pos h]
theorem turnsA_next {a : Nat} {l : List Bool} (h : ¬ Rw.pairs l = []) : turnsA a l = turnsA a (Rw.tick l) + (if inPair l a then 1 else 0) := by rw [turnsA, dif_neg h]
/-- what a clue of a kind tells -/
def valueN (k a b : Nat) (l : List Bool) : Nat :=
  if k = 0 then (if (tickN b l).getD a false then 1 else 0)
  else if k = 1 then rightTo l l.length
  else if k = 2 then Rw.ticksOf l
  else if k = 3 then (Rw.pairs l).length
  else turnsA a l
def fitsC (c : RClue) (l : List Bool) : Bool := decide (((valueN c.1.toNat c.2.1.toNat c.2.2.1.toNat l : Nat) : Int) = c.2.2.2)
theorem fits_of {n : Nat} {c : RClue} {k a b : Nat} (h : OkC n c k a b) (l : List Bool) : fitsC c l = decide (((valueN k a b l : Nat) : Int) = c.2.2.2) := by
  unfold fitsC; rw [h.kind, h.ka, h.kb, Int.toNat_natCast, Int.toNat_natCast, Int.toNat_natCast]
/-- whether the row with a number fits -/
def fitK (s : Nat) (cs : List RClue) (k : Nat) : Bool := cs.all fun c => fitsC c (Rw.make s k)
/-- the numbers of the first m rows that fit all clues -/
def solN (s : Nat) (cs : List RClue) (m : Nat) : List Nat := (List.range m).filter (fitK s cs)
def solTo (s : Nat) (cs : List RClue) (m : Nat) : List ByteArray := (solN s cs m).map fun k => Rw.str (Rw.make s k)
def solL (s : Nat) (cs : List RClue) : List ByteArray := solTo s cs (2 ^ s)
theorem solTo_yes {s : Nat} {cs : List RClue} {m : Nat} (h : fitK s cs m = true) : solTo s cs (m + 1) = solTo s cs m ++ [Rw.str (Rw.make s m)] := by
  unfold solTo solN; rw [List.range_succ, List.filter_append, List.map_append]; simp [h]
theorem solTo_no {s : Nat} {cs : List RClue} {m : Nat} (h : fitK s cs m = false) : solTo s cs (m + 1) = solTo s cs m := by
  unfold solTo solN; rw [List.range_succ, List.filter_append, List.map_append]; simp [h]
theorem solTo_le (s : Nat) (cs : List RClue) (m : Nat) : (solTo s cs m).length ≤ m := by
  unfold solTo solN; rw [List.length_map]; exact Nat.le_trans (List.length_filter_le _ _) (by simp)
/-- the clues up to j all fit -/
def fitTo (s : Nat) (cs : List RClue) (k j : Nat) : Bool := (cs.take j).all fun c => fitsC c (Rw.make s k)
theorem fitTo_zero (s : Nat) (cs : List RClue) (k : Nat) : fitTo s cs k 0 = true := rfl
theorem fitTo_all (s : Nat) (cs : List RClue) (k : Nat) : fitTo s cs k cs.length = fitK s cs k := by unfold fitTo fitK; rw [List.take_length]
theorem fitTo_succ (s : Nat) (cs : List RClue) (k j : Nat) (h : j < cs.length) : fitTo s cs k (j + 1) = (fitTo s cs k j && fitsC (cs.getD j zClue) (Rw.make s k)) := by
  unfold fitTo
  rw [List.take_succ_eq_append_getElem h, List.all_append]
  simp [List.getD_eq_getElem?_getD, h]
/-- clues without one -/
def without (cs : List RClue) (k : Nat) : List RClue := cs.take k ++ cs.drop (k + 1)
theorem length_make : ∀ (n k : Nat), (Rw.make n k).length = n
  | 0, _ => rfl
  | n + 1, k => by rw [Rw.make, List.length_append, length_make n]; rfl
end Pz
end Go.Proofs.YtodlpdbmiicdfabDoor
