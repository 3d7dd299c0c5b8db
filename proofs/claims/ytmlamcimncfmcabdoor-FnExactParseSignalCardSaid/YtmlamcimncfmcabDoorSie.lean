/- Chapter 8: the model's siStarts, siSpread, SpreadTimes, TimeAllKnow, siLeast, LeastTimeWith, WaitsFor. -/
import Derived.Test.YtmlamcimncfmcabDoorSia
namespace Go.Proofs.YtmlamcimncfmcabDoor
open Go.ChangeShapes Go.WideShapes Go.ChangeAt Go.RowKit
open Si

namespace Si
def allTo (p : Nat → Bool) : Nat → Bool
  | 0 => true
  | k + 1 => allTo p k && p k
theorem allTo_no {p : Nat → Bool} {k : Nat} (h : p k = false) : ∀ n, k < n → allTo p n = false
  | 0, hn => absurd hn (Nat.not_lt_zero _)
  | n + 1, hn => by
    rw [allTo]
    by_cases e : k = n
    · subst e; rw [h, Bool.and_false]
    · rw [allTo_no h n (by omega), Bool.false_and]
theorem allTo_yes {p : Nat → Bool} : ∀ n, (∀ k, k < n → p k = true) → allTo p n = true
  | 0, _ => rfl
  | n + 1, h => by rw [allTo, allTo_yes n (fun k hk => h k (by omega)), h n (by omega)]; rfl
theorem allTo_each {p : Nat → Bool} : ∀ {n}, allTo p n = true → ∀ k, k < n → p k = true
  | 0, _, _, hk => absurd hk (Nat.not_lt_zero _)
  | n + 1, h, k, hk => by
    rw [allTo, Bool.and_eq_true] at h
    by_cases e : k = n
    · subst e; exact h.2
    · exact allTo_each h.1 k (by omega)
def risP (zs : List Int) (lo hi : Int) (i : Nat) : Bool := inB (zs.getD i 0) lo hi && (decide (i = 0) || decide (zs.getD (i - 1) 0 < zs.getD i 0))
def risB (zs : List Int) (lo hi : Int) : Bool := allTo (risP zs lo hi) zs.length
def startB (n : Int) (zs : List Int) : Bool := inB n 1 100 && (decide (0 < zs.length) && risB zs 0 (n - 1))
theorem start_nat {n : Int} {zs : List Int} (h : startB n zs = true) : ∃ (N : Nat) (qs : List Nat), n = N ∧ zs = asInts qs ∧ 1 ≤ N ∧ N ≤ 100 ∧ ∀ k, k < qs.length → qs.getD k 0 < N := by
  unfold startB at h
  rw [Bool.and_eq_true, Bool.and_eq_true] at h
  have h1 := inB_yes h.1
  have h2 := allTo_each h.2.2
  have h3 : ∀ k, k < zs.length → 0 ≤ zs.getD k 0 ∧ zs.getD k 0 ≤ n - 1 := fun k hk => by
    have := h2 k hk
    unfold risP at this
    rw [Bool.and_eq_true] at this
    exact inB_yes this.1
  refine ⟨n.toNat, zs.map Int.toNat, by omega, ?_, by omega, by omega, fun k hk => ?_⟩
  · refine ext_getD 0 (by rw [asInts_len, List.length_map]) fun i hi => ?_
    rw [getD_asInts]
    have h4 := h3 i hi
    have h5 : (zs.map Int.toNat).getD i 0 = (zs.getD i 0).toNat := by simp [List.getD_eq_getElem?_getD, hi]
    rw [h5]
    omega
  · rw [List.length_map] at hk
    have h4 := h3 k hk
    have h5 : (zs.map Int.toNat).getD k 0 = (zs.getD k 0).toNat := by simp [List.getD_eq_getElem?_getD, hk]
    rw [h5]
    omega
/-- how far it is to the nearest of the first k -/
def nearTo (N : Nat) (qs : List Nat) (x : Nat) : Nat → Nat
  | 0 => N
  | k + 1 => min (nearTo N qs x k) ((x - qs.getD k 0) + (qs.getD k 0 - x))
theorem nearTo_le (N : Nat) (qs : List Nat) (x : Nat) : ∀ k, nearTo N qs x k ≤ N
  | 0 => Nat.le_refl _
  | k + 1 => by have := nearTo_le N qs x k; unfold nearTo; omega
def nearN (N : Nat) (qs : List Nat) (x : Nat) : Nat := nearTo N qs x qs.length
theorem nearN_le (N : Nat) (qs : List Nat) (x : Nat) : nearN N qs x ≤ N := nearTo_le _ _ _ _
def spreadTo (N : Nat) (qs : List Nat) (k : Nat) : List Int := upTo (fun x => (nearN N qs x : Nat)) k
def farTo (N : Nat) (qs : List Nat) : Nat → Nat
  | 0 => 0
  | k + 1 => max (farTo N qs k) (nearN N qs k)
theorem farTo_le (N : Nat) (qs : List Nat) : ∀ k, farTo N qs k ≤ N
  | 0 => Nat.zero_le _
  | k + 1 => by have := farTo_le N qs k; have := nearN_le N qs k; unfold farTo; omega
theorem near_far (N : Nat) (qs : List Nat) {x : Nat} : ∀ k, x < k → nearN N qs x ≤ farTo N qs k
  | 0, h => absurd h (Nat.not_lt_zero _)
  | k + 1, h => by
    unfold farTo
    by_cases e : x = k
    · subst e; omega
    · have := near_far N qs k (by omega : x < k); omega
theorem length_spreadTo (N : Nat) (qs : List Nat) (k : Nat) : (spreadTo N qs k).length = k := length_upTo _ _
/-- the least time with so many starts -/
def leastT (n many : Nat) : Nat := ((n + many - 1) / many) / 2
theorem leastT_more {n many t : Nat} (hm : 1 ≤ many) (h : many * (2 * t + 1) < n) : t + 1 ≤ leastT n many := by
  unfold leastT
  rw [Nat.le_div_iff_mul_le (by omega), Nat.le_div_iff_mul_le (by omega)]
  have : (t + 1) * 2 * many = many * (2 * t + 1) + many := by
    rw [show (t + 1) * 2 = (2 * t + 1) + 1 by omega, Nat.add_mul, Nat.one_mul, Nat.mul_comm many]
  omega
theorem leastT_done {n many t : Nat} (hm : 1 ≤ many) (h : ¬ many * (2 * t + 1) < n) : leastT n many ≤ t := by
  apply Nat.le_of_not_lt
  intro h2
  apply h
  have h3 : t + 1 ≤ leastT n many := h2
  unfold leastT at h3
  rw [Nat.le_div_iff_mul_le (by omega), Nat.le_div_iff_mul_le (by omega)] at h3
  have : (t + 1) * 2 * many = many * (2 * t + 1) + many := by
    rw [show (t + 1) * 2 = (2 * t + 1) + 1 by omega, Nat.add_mul, Nat.one_mul, Nat.mul_comm many]
  omega
theorem leastT_le {n many : Nat} : leastT n many ≤ n + many := by
  unfold leastT
  have h1 : (n + many - 1) / many / 2 ≤ (n + many - 1) / many := Nat.div_le_self _ _
  have h2 : (n + many - 1) / many ≤ n + many - 1 := Nat.div_le_self _ _
  omega
def waitsTo (N f k : Nat) : List Int := upTo (fun x => ((farTo N [f] N : Nat) : Int) - (nearN N [f] x : Nat)) k
end Si
def outSpreadTimes_0 (n : Int) (zs : List Int) : List Int := if startB n zs then spreadTo n.toNat (zs.map Int.toNat) n.toNat else []
def outSpreadTimes_1 (n : Int) (zs : List Int) : Bool := startB n zs
theorem start_le {n : Int} {zs : List Int} (h : startB n zs = true) : 1 ≤ n ∧ n ≤ 100 := by
  unfold startB at h; rw [Bool.and_eq_true] at h; exact inB_yes h.1
theorem lenSpreadTimes_0 (n : Int) (zs : List Int) (_hz : zs.length ≤ 1048576) : (outSpreadTimes_0 n zs).length ≤ 4611686018427387904 := by
  unfold outSpreadTimes_0
  split
  · rename_i h
    have := start_le h
    rw [length_spreadTo]
    omega
  · simp
def outTimeAllKnow_0 (n : Int) (zs : List Int) : Int := if startB n zs then (farTo n.toNat (zs.map Int.toNat) n.toNat : Nat) else 0
def outTimeAllKnow_1 (n : Int) (zs : List Int) : Bool := startB n zs
def outLeastTimeWith_0 (n k : Int) : Int := if inB n 1 100 && inB k 1 n then (leastT n.toNat k.toNat : Nat) else 0
def outLeastTimeWith_1 (n k : Int) : Bool := inB n 1 100 && inB k 1 n
def outWaitsFor_0 (n f : Int) : List Int := if inB n 1 100 && inB f 0 (n - 1) then waitsTo n.toNat f.toNat n.toNat else []
def outWaitsFor_1 (n f : Int) : Bool := inB n 1 100 && inB f 0 (n - 1)
theorem lenWaitsFor_0 (n f : Int) : (outWaitsFor_0 n f).length ≤ 4611686018427387904 := by
  unfold outWaitsFor_0
  split
  · rename_i h
    rw [Bool.and_eq_true] at h
    have := inB_yes h.1
    unfold waitsTo
    rw [length_upTo]
    omega
  · simp
theorem si_toNat (qs : List Nat) : (asInts qs).map Int.toNat = qs := by
  unfold asInts
  rw [List.map_map]
  refine (List.map_congr_left (fun p _ => ?_)).trans (List.map_id _)
  simp









end Go.Proofs.YtmlamcimncfmcabDoor
