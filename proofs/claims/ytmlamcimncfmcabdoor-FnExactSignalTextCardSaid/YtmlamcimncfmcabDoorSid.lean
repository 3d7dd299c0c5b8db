/- Chapter 8: the model's HeardBy, TimeAllHear. -/
import Derived.Test.YtmlamcimncfmcabDoorSib
namespace Go.Proofs.YtmlamcimncfmcabDoor
open Go.ChangeShapes Go.WideShapes Go.ChangeAt Go.RowKit
open Si

namespace Si
def fstP (n : Nat) (p : RSignal) (x : Nat) : Nat := firstN n p.1.toNat p.2.1 p.2.2.toNat x
def anyTo (p : Nat → Bool) : Nat → Bool
  | 0 => false
  | k + 1 => anyTo p k || p k
theorem anyTo_had {p : Nat → Bool} {k : Nat} (h : anyTo p k = true) : anyTo p (k + 1) = true := by rw [anyTo, h]; rfl
theorem anyTo_not {p : Nat → Bool} {k : Nat} {b : Bool} (h : anyTo p k = false) (hb : p k = b) : anyTo p (k + 1) = b := by rw [anyTo, h, hb, Bool.false_or]
def heardB (n : Nat) (ps : List RSignal) (u x : Nat) : Bool := anyTo (fun j => decide (fstP n (ps.getD j zSignal) x ≤ u)) ps.length
def heardTo (n : Nat) (ps : List RSignal) (u k : Nat) : List Int := asInts ((List.range k).filter (heardB n ps u))
theorem heardTo_yes {n u k : Nat} {ps : List RSignal} (h : heardB n ps u k = true) : heardTo n ps u (k + 1) = heardTo n ps u k ++ [(k : Int)] := by
  unfold heardTo; rw [List.range_succ, List.filter_append, List.filter_cons, if_pos h, List.filter_nil]; unfold asInts; rw [List.map_append]; rfl
theorem heardTo_no {n u k : Nat} {ps : List RSignal} (h : heardB n ps u k = false) : heardTo n ps u (k + 1) = heardTo n ps u k := by
  unfold heardTo; rw [List.range_succ, List.filter_append, List.filter_cons, if_neg (by rw [h]; decide), List.filter_nil, List.append_nil]
theorem length_heardTo (n u k : Nat) (ps : List RSignal) : (heardTo n ps u k).length ≤ k := by
  unfold heardTo; rw [asInts_len]; refine Nat.le_trans (List.length_filter_le _ _) ?_; rw [List.length_range]; exact Nat.le_refl _
def minTo (f : Nat → Nat) : Nat → Nat
  | 0 => f 0
  | k + 1 => min (minTo f k) (f k)
theorem minTo_le {f : Nat → Nat} {m : Nat} (h : ∀ k, k < m → f k ≤ 2000) (h0 : 0 < m) : ∀ k, minTo f k ≤ 2000
  | 0 => h 0 h0
  | k + 1 => by have := minTo_le h h0 k; unfold minTo; omega
def maxTo (f : Nat → Nat) : Nat → Nat
  | 0 => 0
  | k + 1 => max (maxTo f k) (f k)
theorem maxTo_le {f : Nat → Nat} (h : ∀ k, f k ≤ 2000) : ∀ k, maxTo f k ≤ 2000
  | 0 => Nat.zero_le _
  | k + 1 => by have := maxTo_le h k; have := h k; unfold maxTo; omega
/-- when the soldier x first hears any of them -/
def soonN (n : Nat) (ps : List RSignal) (x : Nat) : Nat := minTo (fun j => fstP n (ps.getD j zSignal) x) ps.length
theorem fstP_le {n : Nat} {p : RSignal} (x : Nat) (h : sigB n p = true) : fstP n p x ≤ 2000 := by
  obtain ⟨m, f, s, hm, hp, hg⟩ := sig_nat h
  obtain rfl : n = m := by omega
  unfold fstP
  rw [hp]
  exact firstN_le _ _ hg
end Si
def outHeardBy_0 (n : Int) (ps : List RSignal) (u : Int) : List Int := if inB n 1 100 && (listB n ps && inB u 0 100000) then heardTo n.toNat ps u.toNat n.toNat else []
def outHeardBy_1 (n : Int) (ps : List RSignal) (u : Int) : Bool := inB n 1 100 && (listB n ps && inB u 0 100000)
theorem lenHeardBy_0 (n : Int) (ps : List RSignal) (u : Int) : (outHeardBy_0 n ps u).length ≤ 4611686018427387904 := by
  unfold outHeardBy_0
  split
  · rename_i h
    rw [Bool.and_eq_true] at h
    have := inB_yes h.1
    have := length_heardTo n.toNat u.toNat n.toNat ps
    omega
  · simp
def outTimeAllHear_0 (n : Int) (ps : List RSignal) : Int := if inB n 1 100 && listB n ps then (maxTo (soonN n.toNat ps) n.toNat : Nat) else 0
def outTimeAllHear_1 (n : Int) (ps : List RSignal) : Bool := inB n 1 100 && listB n ps



end Go.Proofs.YtmlamcimncfmcabDoor
