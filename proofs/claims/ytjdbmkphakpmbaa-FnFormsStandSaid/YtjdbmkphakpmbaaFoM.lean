/- Chapter 3: plain facts on roots, triangles and collected lists. Nothing of the program. -/
import Derived.WalkKit
namespace Go.Proofs.Ytjdbmkphakpmbaa
namespace Fo

/-- the greatest number whose square is at most n -/
def root : Nat → Nat
  | 0 => 0
  | n + 1 => if (root n + 1) * (root n + 1) ≤ n + 1 then root n + 1 else root n
theorem sq_succ (r : Nat) : (r + 1) * (r + 1) = r * r + 2 * r + 1 := by simp [Nat.mul_add, Nat.add_mul]; omega
theorem root_spec : ∀ n, root n * root n ≤ n ∧ n < (root n + 1) * (root n + 1)
  | 0 => by simp [root]
  | n + 1 => by
    obtain ⟨h1, h2⟩ := root_spec n
    rw [root]
    split
    · rename_i h
      refine ⟨h, ?_⟩
      rw [sq_succ (root n + 1)]
      omega
    · rename_i h
      exact ⟨by omega, by omega⟩
theorem root_unique {n r : Nat} (h1 : r * r ≤ n) (h2 : n < (r + 1) * (r + 1)) : r = root n := by
  obtain ⟨h3, h4⟩ := root_spec n
  rcases Nat.lt_trichotomy r (root n) with h | h | h
  · have := Nat.mul_self_le_mul_self (show r + 1 ≤ root n from h); omega
  · exact h
  · have := Nat.mul_self_le_mul_self (show root n + 1 ≤ r from h); omega
theorem root_le {n b : Nat} (h : n < (b + 1) * (b + 1)) : root n ≤ b := by
  obtain ⟨h3, h4⟩ := root_spec n
  rcases Nat.lt_or_ge b (root n) with h5 | h5
  · have := Nat.mul_self_le_mul_self (show b + 1 ≤ root n from h5); omega
  · exact h5
theorem sq_le_root {n r : Nat} (h : r * r ≤ n) : r ≤ root n := by
  obtain ⟨h3, h4⟩ := root_spec n
  rcases Nat.lt_or_ge (root n) r with h5 | h5
  · have := Nat.mul_self_le_mul_self (show root n + 1 ≤ r from h5); omega
  · exact h5

/-- the rows of the greatest triangle with at most n -/
def tri : Nat → Nat
  | 0 => 0
  | n + 1 => if (tri n + 1) * (tri n + 2) ≤ 2 * (n + 1) then tri n + 1 else tri n
theorem tri_succ (r : Nat) : (r + 1) * (r + 2) = r * (r + 1) + 2 * (r + 1) := by simp [Nat.mul_add, Nat.add_mul]; omega
theorem tri_mono {a b : Nat} (h : a + 1 ≤ b) : (a + 1) * (a + 2) ≤ b * (b + 1) := Nat.mul_le_mul h (by omega)
theorem tri_two (a : Nat) : (a + 1 + 1) * (a + 1 + 2) = (a + 1) * (a + 2) + 2 * (a + 2) := tri_succ (a + 1)
theorem tri_spec : ∀ n, tri n * (tri n + 1) ≤ 2 * n ∧ 2 * n < (tri n + 1) * (tri n + 2)
  | 0 => by simp [tri]
  | n + 1 => by
    obtain ⟨h1, h2⟩ := tri_spec n
    have h5 := tri_succ (tri n)
    have h6 := tri_two (tri n)
    rw [tri]
    split
    · rename_i h
      exact ⟨h, by rw [h6]; omega⟩
    · rename_i h
      exact ⟨by omega, by omega⟩
theorem tri_unique {n r : Nat} (h1 : r * (r + 1) ≤ 2 * n) (h2 : 2 * n < (r + 1) * (r + 2)) : r = tri n := by
  obtain ⟨h3, h4⟩ := tri_spec n
  rcases Nat.lt_trichotomy r (tri n) with h | h | h
  · have := tri_mono (show r + 1 ≤ tri n from h); omega
  · exact h
  · have := tri_mono (show tri n + 1 ≤ r from h); omega
theorem tri_le {n b : Nat} (h : 2 * n < (b + 1) * (b + 2)) : tri n ≤ b := by
  obtain ⟨h3, h4⟩ := tri_spec n
  rcases Nat.lt_or_ge b (tri n) with h5 | h5
  · have := tri_mono (show b + 1 ≤ tri n from h5); omega
  · exact h5
/-- how many are left over by the greatest triangle -/
def triLeft (n : Nat) : Nat := n - tri n * (tri n + 1) / 2
theorem tri_even : ∀ r, r * (r + 1) % 2 = 0
  | 0 => rfl
  | r + 1 => by have := tri_even r; have := tri_succ r; rw [show r + 1 + 1 = r + 2 from rfl]; omega
theorem triLeft_of {n r c : Nat} (h1 : 2 * c + r * (r + 1) = 2 * n) (h2 : c ≤ r) : r = tri n ∧ c = triLeft n := by
  have h3 := tri_succ r
  have e : r = tri n := tri_unique (by omega) (by omega)
  refine ⟨e, ?_⟩
  unfold triLeft
  rw [← e]
  have := tri_even r
  omega
theorem triLeft_zero (n : Nat) : triLeft n = 0 ↔ tri n * (tri n + 1) = 2 * n := by
  unfold triLeft
  have := tri_even (tri n)
  have := (tri_spec n).1
  omega

/-- those of 1, 2, .., k that are asked for, as g tells them -/
def collTo {α : Type} (p : Nat → Bool) (g : Nat → α) : Nat → List α
  | 0 => []
  | k + 1 => if p (k + 1) then collTo p g k ++ [g (k + 1)] else collTo p g k
theorem collTo_yes {α : Type} {p : Nat → Bool} {g : Nat → α} {k : Nat} (h : p (k + 1) = true) : collTo p g (k + 1) = collTo p g k ++ [g (k + 1)] := by rw [collTo, if_pos h]
theorem collTo_no {α : Type} {p : Nat → Bool} {g : Nat → α} {k : Nat} (h : p (k + 1) = false) : collTo p g (k + 1) = collTo p g k := by rw [collTo, if_neg (by rw [h]; simp)]
theorem collTo_len {α : Type} (p : Nat → Bool) (g : Nat → α) : ∀ k, (collTo p g k).length ≤ k
  | 0 => Nat.le_refl _
  | k + 1 => by have := collTo_len p g k; rw [collTo]; split <;> simp <;> omega
theorem collTo_stop {α : Type} {p : Nat → Bool} {g : Nat → α} {k : Nat} (h : ∀ i, k < i → p i = false) : ∀ d, collTo p g (k + d) = collTo p g k
  | 0 => rfl
  | d + 1 => by rw [← Nat.add_assoc, collTo_no (h _ (by omega)), collTo_stop h d]
theorem collTo_same {α : Type} {p p' : Nat → Bool} {g g' : Nat → α} : ∀ k, (∀ i, 1 ≤ i → i ≤ k → p i = p' i ∧ (p i = true → g i = g' i)) → collTo p g k = collTo p' g' k
  | 0, _ => rfl
  | k + 1, h => by
    have h1 := collTo_same k (fun i h1 h2 => h i h1 (by omega))
    obtain ⟨h2, h3⟩ := h (k + 1) (by omega) (Nat.le_refl _)
    rw [collTo, collTo, ← h2, h1]
    split
    · rename_i e; rw [h3 e]
    · rfl
theorem collTo_mem {α : Type} {p : Nat → Bool} {g : Nat → α} : ∀ k, ∀ x ∈ collTo p g k, ∃ i, 1 ≤ i ∧ i ≤ k ∧ p i = true ∧ x = g i
  | 0, x, h => by simp [collTo] at h
  | k + 1, x, h => by
    rw [collTo] at h
    split at h
    · rename_i hp
      rw [List.mem_append] at h
      rcases h with h | h
      · obtain ⟨i, h1, h2, h3⟩ := collTo_mem k x h; exact ⟨i, h1, by omega, h3⟩
      · simp at h; exact ⟨k + 1, by omega, Nat.le_refl _, hp, h⟩
    · obtain ⟨i, h1, h2, h3⟩ := collTo_mem k x h; exact ⟨i, h1, by omega, h3⟩
/-- the same from k on down to 1 -/
def downTo {α : Type} (p : Nat → Bool) (g : Nat → α) : Nat → List α
  | 0 => []
  | k + 1 => if p (k + 1) then g (k + 1) :: downTo p g k else downTo p g k
theorem downTo_yes {α : Type} {p : Nat → Bool} {g : Nat → α} {k : Nat} (h : p (k + 1) = true) : downTo p g (k + 1) = g (k + 1) :: downTo p g k := by rw [downTo, if_pos h]
theorem downTo_no {α : Type} {p : Nat → Bool} {g : Nat → α} {k : Nat} (h : p (k + 1) = false) : downTo p g (k + 1) = downTo p g k := by rw [downTo, if_neg (by rw [h]; simp)]
theorem downTo_rev {α : Type} (p : Nat → Bool) (g : Nat → α) : ∀ k, downTo p g k = (collTo p g k).reverse
  | 0 => rfl
  | k + 1 => by
    rw [downTo, collTo, downTo_rev p g k]
    split <;> simp
theorem downTo_len {α : Type} (p : Nat → Bool) (g : Nat → α) (k : Nat) : (downTo p g k).length ≤ k := by rw [downTo_rev, List.length_reverse]; exact collTo_len p g k

end Fo
end Go.Proofs.Ytjdbmkphakpmbaa
