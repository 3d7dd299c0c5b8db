/- Chapter 8, plain: when a signal first comes to a place, and who hears when. -/
import Derived.Test.YtmlamcimncfmcabDoorSid
namespace Go.Proofs.YtmlamcimncfmcabDoor
open Go.ChangeShapes Go.WideShapes Go.ChangeAt Go.RowKit

namespace Si
def perN (n s : Nat) : Nat := max 1 (2 * (n - 1) * s)
theorem mod_sub {r b j c : Nat} (h : (b + j) % r = (c + b) % r) : j % r = c % r := by
  have h2 : (b + j) = (b + j) % r + r * ((b + j) / r) := (Nat.mod_add_div _ _).symm
  have h3 : (c + b) = (c + b) % r + r * ((c + b) / r) := (Nat.mod_add_div _ _).symm
  have h4 : j + r * ((c + b) / r) = c + r * ((b + j) / r) := by omega
  have h5 : (j + r * ((c + b) / r)) % r = (c + r * ((b + j) / r)) % r := by rw [h4]
  rwa [Nat.add_mul_mod_self_left, Nat.add_mul_mod_self_left] at h5
theorem pos_at {n f s : Nat} {l : Bool} {p : Nat} (hn : n ≠ 1) (h : OkS n f s) (hp : p < n) (j : Nat) :
    min ((beg n f l + j) % (2 * (n - 1))) (2 * (n - 1) - (beg n f l + j) % (2 * (n - 1))) = p ↔
    j % (2 * (n - 1)) = (p + 2 * (2 * (n - 1)) - beg n f l) % (2 * (n - 1)) ∨ j % (2 * (n - 1)) = (3 * (2 * (n - 1)) - p - beg n f l) % (2 * (n - 1)) := by
  have h1 := h.n1
  have hb := beg_le (l := l) h.f1
  generalize hr : 2 * (n - 1) = r at *
  have hr0 : 0 < r := by omega
  generalize hbb : beg n f l = b at *
  have hpr : 2 * p ≤ r := by omega
  have ha : (b + j) % r < r := Nat.mod_lt _ hr0
  have e1 : (p + 2 * r - b + b) % r = p := by
    rw [show p + 2 * r - b + b = p + r * 2 by omega, Nat.add_mul_mod_self_left, Nat.mod_eq_of_lt (by omega)]
  have e2 : (3 * r - p - b + b) % r = (r - p) % r := by
    rw [show 3 * r - p - b + b = (r - p) + r * 2 by omega, Nat.add_mul_mod_self_left]
  have e3 : (r - p) % r = if p = 0 then 0 else r - p := by
    split
    · subst p; rw [Nat.sub_zero, Nat.mod_self]
    · exact Nat.mod_eq_of_lt (by omega)
  constructor
  · intro hm
    by_cases hc : (b + j) % r = p
    · exact .inl (mod_sub (by rw [hc, e1]))
    · refine .inr (mod_sub (b := b) ?_)
      rw [e2, e3]
      split <;> omega
  · have back : ∀ c, j % r = c % r → (b + j) % r = (c + b) % r := fun c hc => by
      rw [Nat.add_mod, hc, ← Nat.add_mod, Nat.add_comm]
    rintro (hc | hc)
    · have := back _ hc; rw [e1] at this; omega
    · have := back _ hc; rw [e2, e3] at this
      split at this <;> omega
/-- a signal comes to a place first when it is told -/
theorem first_is {n f s : Nat} {l : Bool} {p : Nat} (h : OkS n f s) (hp : p < n) :
    firstN n f l s p < perN n s ∧ posN n f l s (firstN n f l s p) = p ∧ ∀ t, posN n f l s t = p → firstN n f l s p ≤ t := by
  unfold firstN posN perN arN
  by_cases hn : n = 1
  · rw [if_pos hn, if_pos hn]
    refine ⟨by omega, by omega, fun t _ => Nat.zero_le _⟩
  · rw [if_neg hn]
    have h1 := h.n1
    have h2 := h.s1
    have hr0 : 0 < 2 * (n - 1) := by omega
    have key := fun j => pos_at (l := l) hn h hp j
    have l1 : (p + 2 * (2 * (n - 1)) - beg n f l) % (2 * (n - 1)) < 2 * (n - 1) := Nat.mod_lt _ hr0
    have l2 : (3 * (2 * (n - 1)) - p - beg n f l) % (2 * (n - 1)) < 2 * (n - 1) := Nat.mod_lt _ hr0
    generalize (p + 2 * (2 * (n - 1)) - beg n f l) % (2 * (n - 1)) = x at *
    generalize (3 * (2 * (n - 1)) - p - beg n f l) % (2 * (n - 1)) = y at *
    generalize hm : min x y = m
    have hmr : m < 2 * (n - 1) := by omega
    refine ⟨?_, ?_, ?_⟩
    · have := Nat.mul_lt_mul_of_pos_right hmr h2; omega
    · rw [if_neg hn, Nat.mul_div_cancel _ h2, key]
      rw [Nat.mod_eq_of_lt hmr]; omega
    · intro t ht
      rw [if_neg hn, key] at ht
      have h3 : (t / s) % (2 * (n - 1)) ≤ t / s := Nat.mod_le _ _
      have h4 : m ≤ t / s := by omega
      exact Nat.le_trans (Nat.mul_le_mul_right s h4) (Nat.div_mul_le_self _ _)
/-- least time seen at a place among the first k times -/
def seenTo (pos : Nat → Nat) (c : Nat → Nat) : Nat → Nat → Nat
  | 0, p => c p
  | k + 1, p => if pos k = p then min (seenTo pos c k p) k else seenTo pos c k p
theorem seen_is {pos c : Nat → Nat} {p t0 : Nat} (h2 : pos t0 = p) (h3 : ∀ t, pos t = p → t0 ≤ t) : ∀ k, seenTo pos c k p = if t0 < k then min (c p) t0 else c p
  | 0 => by rw [if_neg (Nat.not_lt_zero _)]; rfl
  | k + 1 => by
    rw [seenTo, seen_is h2 h3 k]
    by_cases e : pos k = p
    · have := h3 k e
      rw [if_pos e]
      by_cases e2 : t0 = k
      · subst e2; rw [if_neg (by omega), if_pos (by omega)]
      · rw [if_pos (by omega), if_pos (by omega)]; omega
    · rw [if_neg e]
      have : t0 ≠ k := fun e3 => e (by rw [← e3]; exact h2)
      by_cases e2 : t0 < k
      · rw [if_pos e2, if_pos (by omega)]
      · rw [if_neg e2, if_neg (by omega)]
theorem seen_all {n f s : Nat} {l : Bool} {p : Nat} (h : OkS n f s) (hp : p < n) (c : Nat → Nat) : seenTo (posN n f l s) c (perN n s) p = min (c p) (firstN n f l s p) := by
  obtain ⟨h1, h2, h3⟩ := first_is (l := l) h hp
  rw [seen_is h2 h3, if_pos h1]
/-- when the soldier p first hears any of the first k, or 100000 -/
def hearA (n : Nat) (ps : List RSignal) (p : Nat) : Nat → Nat
  | 0 => 100000
  | k + 1 => min (hearA n ps p k) (fstP n (ps.getD k zSignal) p)
theorem hearA_le (n : Nat) (ps : List RSignal) (p : Nat) : ∀ k, hearA n ps p k ≤ 100000
  | 0 => Nat.le_refl _
  | k + 1 => by have := hearA_le n ps p k; unfold hearA; omega
theorem hearA_any (n : Nat) (ps : List RSignal) (p u : Nat) (hu : u < 100000) : ∀ k, (hearA n ps p k ≤ u ↔ anyTo (fun j => decide (fstP n (ps.getD j zSignal) p ≤ u)) k = true)
  | 0 => by unfold hearA anyTo; simp; omega
  | k + 1 => by
    have := hearA_any n ps p u hu k
    unfold hearA anyTo
    rw [Bool.or_eq_true, decide_eq_true_iff, ← this]
    omega
theorem any_some {f : Nat → Bool} {j : Nat} (h : f j = true) : ∀ k, j < k → anyTo f k = true
  | 0, hj => absurd hj (Nat.not_lt_zero _)
  | k + 1, hj => by
    unfold anyTo
    by_cases e : j = k
    · subst e; rw [h, Bool.or_true]
    · rw [any_some h k (by omega), Bool.true_or]
/-- who has heard any of them up to a time -/
theorem heard_is {n u p : Nat} {ps : List RSignal} (h1 : 1 ≤ ps.length) (h : ∀ k, k < ps.length → sigB n (ps.getD k zSignal) = true) (hu : u ≤ 100000) : heardB n ps u p = decide (hearA n ps p ps.length ≤ u) := by
  unfold heardB
  by_cases e : u < 100000
  · rw [Bool.eq_iff_iff, decide_eq_true_iff, hearA_any n ps p u e]
  · have h2 := fstP_le p (h 0 h1)
    rw [any_some (j := 0) (decide_eq_true (by omega)) _ h1, decide_eq_true]
    have := hearA_le n ps p ps.length; omega
theorem soon_is {n p : Nat} {ps : List RSignal} (h : ∀ k, k < ps.length → sigB n (ps.getD k zSignal) = true) : ∀ k, 1 ≤ k → k ≤ ps.length → hearA n ps p k = minTo (fun j => fstP n (ps.getD j zSignal) p) k
  | 0, h1, _ => absurd h1 (by omega)
  | k + 1, _, h2 => by
    have h3 := fstP_le p (h k (by omega))
    unfold hearA minTo
    by_cases e : k = 0
    · subst e; unfold hearA minTo; omega
    · rw [soon_is h k (by omega) (by omega)]
theorem soonN_is {n p : Nat} {ps : List RSignal} (h1 : 1 ≤ ps.length) (h : ∀ k, k < ps.length → sigB n (ps.getD k zSignal) = true) : soonN n ps p = hearA n ps p ps.length := (soon_is h _ h1 (Nat.le_refl _)).symm
/-- a list of counts with one changed -/
theorem upTo_set (f : Nat → Nat) (n k x : Nat) : (upTo (fun i => ((f i : Nat) : Int)) n).set k (x : Int) = upTo (fun i => (((if k = i then x else f i : Nat)) : Int)) n := by
  refine ext_getD 0 (by rw [List.length_set, length_upTo, length_upTo]) (fun i hi => ?_)
  rw [List.length_set, length_upTo] at hi
  rw [getD_set, getD_upTo _ _ _ hi, length_upTo, getD_upTo _ _ _ hi]
  by_cases e : k = i
  · rw [if_pos ⟨e, hi⟩, if_pos e]
  · rw [if_neg (fun h => e h.1), if_neg e]
/-- the list of who hears when, behind j signals -/
def hearL (n : Nat) (ps : List RSignal) (j : Nat) : List Int := upTo (fun p => (hearA n ps p j : Nat)) n
/-- and t times of one more -/
def hearT (n : Nat) (ps : List RSignal) (j f : Nat) (l : Bool) (s t : Nat) : List Int := upTo (fun p => (seenTo (posN n f l s) (fun p => hearA n ps p j) t p : Nat)) n
theorem hearT_zero (n : Nat) (ps : List RSignal) (j f : Nat) (l : Bool) (s : Nat) : hearT n ps j f l s 0 = hearL n ps j := rfl
theorem hearT_step {n : Nat} {ps : List RSignal} {j f : Nat} {l : Bool} {s t x : Nat} (hx : x = min (seenTo (posN n f l s) (fun p => hearA n ps p j) t (posN n f l s t)) t) :
    (hearT n ps j f l s t).set (posN n f l s t) (x : Int) = hearT n ps j f l s (t + 1) := by
  unfold hearT
  rw [upTo_set]
  refine upTo_congr _ _ _ (fun i hi => ?_)
  rw [seenTo]
  by_cases e : posN n f l s t = i
  · rw [if_pos e, if_pos e, hx, e]
  · rw [if_neg e, if_neg e]
theorem hearT_all {n : Nat} {ps : List RSignal} {j f : Nat} {l : Bool} {s : Nat} (h : OkS n f s) (hp : ps.getD j zSignal = ((f : Int), l, (s : Int))) : hearT n ps j f l s (perN n s) = hearL n ps (j + 1) := by
  unfold hearT hearL
  refine upTo_congr _ _ _ (fun i hi => ?_)
  rw [seen_all h hi, hearA]
  unfold fstP
  rw [hp]
  simp
theorem length_hearL (n : Nat) (ps : List RSignal) (j : Nat) : (hearL n ps j).length = n := length_upTo _ _
theorem length_hearT (n : Nat) (ps : List RSignal) (j f : Nat) (l : Bool) (s t : Nat) : (hearT n ps j f l s t).length = n := length_upTo _ _
theorem hearL_zero (n : Nat) (ps : List RSignal) : hearL n ps 0 = List.replicate n (100000 : Int) := by
  refine ext_getD 0 (by rw [length_hearL, List.length_replicate]) (fun i hi => ?_)
  rw [length_hearL] at hi
  unfold hearL
  rw [getD_upTo _ _ _ hi]
  simp [List.getD_eq_getElem?_getD, hi, hearA]
theorem perN_le {n s : Nat} (h1 : n ≤ 100) (h2 : s ≤ 10) : perN n s ≤ 1980 := by
  unfold perN
  have : 2 * (n - 1) * s ≤ 198 * 10 := Nat.mul_le_mul (by omega) h2
  omega
end Si

end Go.Proofs.YtmlamcimncfmcabDoor
