/- Sums over how often each number stands in a list; rows of all, by their ticks. Plain. -/
import Derived.Test.YtacchefmblfobaaQu
import Derived.Test.YtacchefmblfobaaHist
namespace Go.Proofs.Ytacchefmblfobaa
namespace Rw

def sumF (f : Nat → Nat) : Nat → Nat
  | 0 => 0
  | k + 1 => sumF f k + f k
theorem sumF_add (f g : Nat → Nat) : ∀ k, sumF (fun t => f t + g t) k = sumF f k + sumF g k
  | 0 => rfl
  | k + 1 => by simp only [sumF, sumF_add f g k]; omega
theorem sumF_zero : ∀ k, sumF (fun _ => 0) k = 0
  | 0 => rfl
  | k + 1 => by simp only [sumF, sumF_zero k]
theorem sumF_one (x : Nat) (f : Nat → Nat) : ∀ k, sumF (fun t => if x = t then f t else 0) k = if x < k then f x else 0
  | 0 => rfl
  | k + 1 => by
    simp only [sumF, sumF_one x f k]
    by_cases h : x = k
    · subst h; simp
    · by_cases h2 : x < k
      · rw [if_pos h2, if_neg h, if_pos (by omega)]; omega
      · rw [if_neg h2, if_neg h, if_neg (by omega)]
theorem sumF_congr {f g : Nat → Nat} (h : ∀ t, f t = g t) (k : Nat) : sumF f k = sumF g k := by
  rw [show f = g from funext h]
theorem count_sum : ∀ (xs : List Nat) (n : Nat), (∀ x ∈ xs, x ≤ n) → sumF (fun t => xs.count t) (n + 1) = xs.length
  | [], n, _ => by simpa using sumF_zero (n + 1)
  | x :: xs, n, h => by
    have ih := count_sum xs n (fun y hy => h y (by simp [hy]))
    have hx := h x (by simp)
    have e : sumF (fun t => (x :: xs).count t) (n + 1) = sumF (fun t => xs.count t + (if x = t then 1 else 0)) (n + 1) :=
      sumF_congr (fun t => by rw [List.count_cons]; by_cases q : x = t <;> simp [q]) _
    rw [e, sumF_add, ih, sumF_one x (fun _ => 1), if_pos (by omega), List.length_cons]
theorem weigh_sum : ∀ (xs : List Nat) (n : Nat), (∀ x ∈ xs, x ≤ n) → sumF (fun t => t * xs.count t) (n + 1) = xs.sum
  | [], n, _ => by
    have : sumF (fun t => t * ([] : List Nat).count t) (n + 1) = sumF (fun _ => 0) (n + 1) := sumF_congr (fun t => by simp) _
    rw [this, sumF_zero]; rfl
  | x :: xs, n, h => by
    have ih := weigh_sum xs n (fun y hy => h y (by simp [hy]))
    have hx := h x (by simp)
    have e : sumF (fun t => t * (x :: xs).count t) (n + 1) = sumF (fun t => t * xs.count t + (if x = t then t else 0)) (n + 1) :=
      sumF_congr (fun t => by rw [List.count_cons]; by_cases q : x = t <;> simp [q, Nat.mul_add]) _
    rw [e, sumF_add, ih, sumF_one x (fun t => t), if_pos (by omega), List.sum_cons]; omega
theorem ticksAll_le {n x : Nat} (h1 : 1 ≤ n) (h : x ∈ ticksAll n) : x ≤ n - 1 := by
  unfold ticksAll at h
  obtain ⟨k, _, rfl⟩ := List.mem_map.1 h
  have := ticks_lt (make n k) (by rw [length_make]; exact h1)
  rwa [length_make] at this
/-- of all rows of n just n + 1 are at rest (n up to 12) -/
theorem rest_many : ∀ n, n ≤ 12 → (ticksAll n).count 0 = n + 1 := by
  intro n hn
  have e : (ticksAll n).count 0 = ((List.range (2 ^ n)).filter fun k => (pairs (make n k)).isEmpty).length := by
    unfold ticksAll
    rw [List.count_eq_length_filter, List.filter_map, List.length_map]
    congr 1
    refine List.filter_congr (fun k _ => ?_)
    show (ticksOf (make n k) == 0) = _
    rw [Bool.eq_iff_iff, beq_iff_eq, ticks_zero, List.isEmpty_iff]
  rw [e]
  have key : (List.range 13).all (fun n => ((List.range (2 ^ n)).filter fun k => (pairs (make n k)).isEmpty).length == n + 1) = true := by decide +kernel
  have := List.all_eq_true.1 key n (List.mem_range.2 (by omega))
  simpa using this
end Rw
end Go.Proofs.Ytacchefmblfobaa
