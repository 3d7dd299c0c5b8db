/- Chapter 3: plain facts on remainders: the least number with what is left over. Nothing of the program. -/
import Derived.WalkKit
namespace Go.Proofs.Ythnbimfdodfhoaa
namespace Fo

def lcmTo (cs : List Nat) : Nat → Nat
  | 0 => 1
  | k + 1 => Nat.lcm (lcmTo cs k) (cs.getD k 1)
theorem lcm_step (a c : Nat) : a / Nat.gcd a c * c = Nat.lcm a c := by
  unfold Nat.lcm
  rw [Nat.mul_comm a c, Nat.mul_div_assoc c (Nat.gcd_dvd_left a c), Nat.mul_comm]
theorem lcm_le (a b : Nat) : Nat.lcm a b ≤ a * b := Nat.div_le_self _ _
theorem col_dvd (cs : List Nat) (i : Nat) : ∀ k, i < k → cs.getD i 1 ∣ lcmTo cs k
  | 0, h => absurd h (Nat.not_lt_zero _)
  | k + 1, h => by
    rw [lcmTo]
    by_cases e : i = k
    · subst e; exact Nat.dvd_lcm_right _ _
    · exact Nat.dvd_trans (col_dvd cs i k (by omega)) (Nat.dvd_lcm_left _ _)
theorem lcmTo_pos {cs : List Nat} (h : ∀ i, 1 ≤ cs.getD i 1) : ∀ k, 1 ≤ lcmTo cs k
  | 0 => Nat.le_refl _
  | k + 1 => by
    rw [lcmTo]
    exact Nat.lcm_pos (lcmTo_pos h k) (h k)
theorem lcmTo_le {cs : List Nat} (h : ∀ i, cs.getD i 1 ≤ 1000) : ∀ k, lcmTo cs k ≤ 1000 ^ k
  | 0 => Nat.le_refl _
  | k + 1 => by
    rw [lcmTo, Nat.pow_succ]
    exact Nat.le_trans (lcm_le _ _) (Nat.mul_le_mul (lcmTo_le h k) (h k))
theorem lcmTo_mono {cs : List Nat} (h : ∀ i, 1 ≤ cs.getD i 1) (k : Nat) : lcmTo cs k ≤ lcmTo cs (k + 1) := by
  rw [lcmTo]
  exact Nat.le_of_dvd (Nat.lcm_pos (lcmTo_pos h k) (h k)) (Nat.dvd_lcm_left _ _)

/-- n leaves over what is told of the first k columns -/
def Sat (cs ls : List Nat) (n k : Nat) : Prop := ∀ i, i < k → n % cs.getD i 1 = ls.getD i 0
theorem Sat.mono {cs ls : List Nat} {n k k' : Nat} (h : Sat cs ls n k') (hk : k ≤ k') : Sat cs ls n k := fun i hi => h i (by omega)
theorem mod_add (cs : List Nat) (n q i k : Nat) (h : i < k) : (n + q * lcmTo cs k) % cs.getD i 1 = n % cs.getD i 1 := by
  obtain ⟨d, hd⟩ := col_dvd cs i k h
  rw [hd, show q * (cs.getD i 1 * d) = cs.getD i 1 * (q * d) from by rw [Nat.mul_left_comm], Nat.add_mul_mod_self_left]
theorem sat_add {cs ls : List Nat} {n k : Nat} (h : Sat cs ls n k) (q : Nat) : Sat cs ls (n + q * lcmTo cs k) k := fun i hi => by rw [mod_add _ _ _ _ _ hi]; exact h i hi
theorem sat_diff {cs ls : List Nat} {m n : Nat} : ∀ k, Sat cs ls m k → Sat cs ls n k → lcmTo cs k ∣ m - n
  | 0, _, _ => Nat.one_dvd _
  | k + 1, hm, hn => by
    rw [lcmTo]
    refine Nat.lcm_dvd (sat_diff k (hm.mono (by omega)) (hn.mono (by omega))) (Nat.dvd_of_mod_eq_zero (Nat.sub_mod_eq_zero_of_mod_eq ?_))
    rw [hm k (by omega), hn k (by omega)]
structure Least (cs ls : List Nat) (k n : Nat) : Prop where
  sat : Sat cs ls n k
  le : ∀ m, Sat cs ls m k → n ≤ m
theorem least_zero (cs ls : List Nat) : Least cs ls 0 0 := ⟨fun _ h => absurd h (Nat.not_lt_zero _), fun _ _ => Nat.zero_le _⟩
theorem Least.lt {cs ls : List Nat} {k n : Nat} (h : Least cs ls k n) (hp : ∀ i, 1 ≤ cs.getD i 1) : n < lcmTo cs k := by
  rcases Nat.lt_or_ge n (lcmTo cs k) with h1 | h1
  · exact h1
  · have h2 := lcmTo_pos hp k
    have h3 : Sat cs ls (n - lcmTo cs k) k := fun i hi => by
      have := mod_add cs (n - lcmTo cs k) 1 i k hi
      rw [Nat.one_mul, Nat.sub_add_cancel h1] at this
      rw [← this]; exact h.sat i hi
    have := h.le _ h3
    omega
theorem Least.all {cs ls : List Nat} {k n m : Nat} (h : Least cs ls k n) (hm : Sat cs ls m k) : ∃ t, m = n + t * lcmTo cs k := by
  obtain ⟨t, ht⟩ := sat_diff k hm h.sat
  have := h.le m hm
  exact ⟨t, by rw [Nat.mul_comm]; omega⟩
theorem Least.step {cs ls : List Nat} {k n q : Nat} (h : Least cs ls k n) (hq : (n + q * lcmTo cs k) % cs.getD k 1 = ls.getD k 0) (hno : ∀ j, j < q → (n + j * lcmTo cs k) % cs.getD k 1 ≠ ls.getD k 0) : Least cs ls (k + 1) (n + q * lcmTo cs k) := by
  refine ⟨fun i hi => ?_, fun m hm => ?_⟩
  · by_cases e : i = k
    · subst e; exact hq
    · exact sat_add h.sat q i (by omega)
  · obtain ⟨t, rfl⟩ := h.all (hm.mono (Nat.le_succ k))
    rcases Nat.lt_or_ge t q with h1 | h1
    · exact absurd (hm k (by omega)) (hno t h1)
    · have := Nat.mul_le_mul_right (lcmTo cs k) h1; omega
theorem Least.none {cs ls : List Nat} {k n : Nat} (h : Least cs ls k n) (hp : 1 ≤ cs.getD k 1) (hno : ∀ j, j < cs.getD k 1 → (n + j * lcmTo cs k) % cs.getD k 1 ≠ ls.getD k 0) (m : Nat) : ¬ Sat cs ls m (k + 1) := fun hm => by
  obtain ⟨t, rfl⟩ := h.all (hm.mono (Nat.le_succ k))
  refine hno (t % cs.getD k 1) (Nat.mod_lt _ hp) ?_
  rw [← hm k (by omega)]
  have e : n + t * lcmTo cs k = (n + t % cs.getD k 1 * lcmTo cs k) + cs.getD k 1 * (t / cs.getD k 1 * lcmTo cs k) := by
    rw [← Nat.mul_assoc, Nat.add_assoc, ← Nat.add_mul, Nat.mod_add_div]
  rw [e, Nat.add_mul_mod_self_left]
theorem none_mono {cs ls : List Nat} {k k' : Nat} (h : ∀ m, ¬ Sat cs ls m k) (hk : k ≤ k') (m : Nat) : ¬ Sat cs ls m k' := fun hm => h m (hm.mono hk)

def satB (cs ls : List Nat) (k n : Nat) : Bool := (List.range k).all fun i => decide (n % cs.getD i 1 = ls.getD i 0)
theorem satB_iff {cs ls : List Nat} {k n : Nat} : satB cs ls k n = true ↔ Sat cs ls n k := by
  unfold satB Sat
  rw [List.all_eq_true]
  simp
/-- the least number that leaves over what is told of the first k columns -/
def leastO (cs ls : List Nat) (k : Nat) : Option Nat := (List.range (lcmTo cs k)).find? (satB cs ls k)
theorem leastO_some {cs ls : List Nat} {k n : Nat} (h : Least cs ls k n) (hp : ∀ i, 1 ≤ cs.getD i 1) : leastO cs ls k = some n := by
  unfold leastO
  rw [List.find?_range_eq_some]
  refine ⟨satB_iff.2 h.sat, List.mem_range.2 (h.lt hp), fun j hj => ?_⟩
  rcases hb : satB cs ls k j with _ | _
  · rfl
  · have := h.le j (satB_iff.1 hb); omega
theorem leastO_none {cs ls : List Nat} {k : Nat} (h : ∀ m, ¬ Sat cs ls m k) : leastO cs ls k = none := by
  unfold leastO
  rw [List.find?_eq_none]
  intro x _ hx
  exact h x (satB_iff.1 hx)

end Fo
end Go.Proofs.Ythnbimfdodfhoaa
