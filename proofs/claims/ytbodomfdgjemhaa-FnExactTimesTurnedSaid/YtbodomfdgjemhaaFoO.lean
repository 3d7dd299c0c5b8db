/- Chapter 3: how often a formation is turned until all are told as at first: plain facts. -/
import Derived.Test.YtbodomfdgjemhaaFoT
namespace Go.Proofs.Ytbodomfdgjemhaa
namespace Fo

/-- where one is told after t turns -/
def iter (R C : Nat) : Nat → Nat → Nat
  | 0, j => j
  | t + 1, j => turnAt R C (iter R C t j)
theorem turnAt_lt {R C j : Nat} (h1 : 1 ≤ R) (hj : j < R * C) : turnAt R C j < R * C := by
  unfold turnAt
  have h2 : j / R < C := Nat.div_lt_of_lt_mul hj
  have h3 : (R - 1 - j % R) * C ≤ (R - 1) * C := Nat.mul_le_mul_right C (by omega)
  have h4 : (R - 1) * C + C = R * C := by rw [← Nat.succ_mul]; congr 1; omega
  omega
theorem iter_lt {R C : Nat} (h1 : 1 ≤ R) : ∀ t j, j < R * C → iter R C t j < R * C
  | 0, _, h => h
  | t + 1, j, h => turnAt_lt h1 (iter_lt h1 t j h)
theorem iter_add (R C : Nat) : ∀ a b j, iter R C (a + b) j = iter R C a (iter R C b j)
  | 0, b, j => by rw [Nat.zero_add]; rfl
  | a + 1, b, j => by rw [Nat.succ_add]; show turnAt R C (iter R C (a + b) j) = turnAt R C (iter R C a (iter R C b j)); rw [iter_add R C a b j]
/-- a turn takes the place after j to minus C times as much, by all places and one more -/
theorem turnAt_mod {R C j : Nat} (h1 : 1 ≤ R) (_hj : j < R * C) : ∃ q : Int, ((turnAt R C j : Nat) : Int) + 1 = q * ((R : Int) * C + 1) - C * ((j : Int) + 1) := by
  have hd := Nat.mod_lt j (show 0 < R by omega)
  have e := Nat.div_add_mod j R
  unfold turnAt
  obtain ⟨c, hc⟩ : ∃ c, c = j / R := ⟨_, rfl⟩
  obtain ⟨d, hdd⟩ : ∃ c, c = j % R := ⟨_, rfl⟩
  rw [← hc, ← hdd] at e
  rw [← hdd] at hd
  rw [← hc, ← hdd, ← e]
  refine ⟨(c : Int) + 1, ?_⟩
  have h2 : ((R - 1 - d : Nat) : Int) = (R : Int) - 1 - d := by omega
  rw [Int.natCast_add, Int.natCast_mul, h2, Int.natCast_add, Int.natCast_mul]
  simp only [Int.add_mul, Int.sub_mul, Int.mul_add, Int.one_mul, Int.mul_one]
  have h3 : (C : Int) * ((R : Int) * c) = c * ((R : Int) * C) := by rw [Int.mul_left_comm (c : Int), Int.mul_comm (c : Int) C, Int.mul_left_comm]
  have h4 : (C : Int) * (d : Int) = (d : Int) * C := Int.mul_comm _ _
  omega
theorem mod_unique {m a b : Nat} {q : Int} (ha : a < m) (hb : b < m) (h : (a : Int) = q * (m : Int) + b) : a = b := by
  have h1 : q = 0 := by
    rcases Int.lt_trichotomy q 0 with h2 | h2 | h2
    · have : q * (m : Int) ≤ -1 * (m : Int) := Int.mul_le_mul_of_nonneg_right (by omega) (by omega)
      omega
    · exact h2
    · have : 1 * (m : Int) ≤ q * (m : Int) := Int.mul_le_mul_of_nonneg_right (by omega) (by omega)
      omega
  subst h1
  omega
/-- where the first one is told after t turns tells where all are -/
theorem iter_mod {R C : Nat} (h1 : 1 ≤ R) (h0 : 0 < R * C) : ∀ t j, j < R * C → ∃ q : Int, ((iter R C t j : Nat) : Int) + 1 = q * ((R : Int) * C + 1) + ((iter R C t 0 : Nat) + 1) * ((j : Int) + 1)
  | 0, j, _ => ⟨0, by simp [iter]⟩
  | t + 1, j, hj => by
    obtain ⟨q, hq⟩ := iter_mod h1 h0 t j hj
    obtain ⟨q1, hq1⟩ := turnAt_mod h1 (iter_lt h1 t j hj)
    obtain ⟨q2, hq2⟩ := turnAt_mod h1 (iter_lt h1 t 0 h0)
    refine ⟨q1 - C * q - q2 * ((j : Int) + 1), ?_⟩
    show ((turnAt R C (iter R C t j) : Nat) : Int) + 1 = _ + ((turnAt R C (iter R C t 0) : Nat) + 1) * ((j : Int) + 1)
    rw [hq1, hq2, hq]
    generalize (R : Int) * C + 1 = m
    generalize ((iter R C t 0 : Nat) : Int) + 1 = x
    generalize (j : Int) + 1 = y
    simp only [Int.sub_mul, Int.mul_add]
    have e1 : (C : Int) * (q * m) = C * q * m := by rw [Int.mul_assoc]
    have e2 : (C : Int) * (x * y) = C * x * y := by rw [Int.mul_assoc]
    have e3 : q2 * y * m = q2 * m * y := by rw [Int.mul_assoc, Int.mul_comm y m, ← Int.mul_assoc]
    omega
theorem iter_all {R C t : Nat} (h1 : 1 ≤ R) (h0 : 0 < R * C) (h : iter R C t 0 = 0) (j : Nat) (hj : j < R * C) : iter R C t j = j := by
  obtain ⟨q, hq⟩ := iter_mod h1 h0 t j hj
  rw [h] at hq
  have h2 := iter_lt h1 t j hj
  have h3 := mod_unique (m := R * C + 1) (a := iter R C t j + 1) (b := j + 1) (q := q) (by omega) (by omega) (by
    rw [Int.natCast_add, Int.natCast_add, Int.natCast_add, Int.natCast_mul]
    simp only [Int.natCast_zero, Int.zero_add, Int.one_mul] at hq
    exact hq)
  omega

/-- the least number of turns, from t on, behind which the first one is told as at first -/
def ordFrom (R C : Nat) : Nat → Nat → Nat → Nat
  | 0, t, _ => t
  | n + 1, t, at' => if at' = 0 then t else ordFrom R C n (t + 1) (turnAt R C at')
def ord (R C : Nat) : Nat := ordFrom R C 200 1 (turnAt R C 0)
def allOrd : Bool := (List.range 201).all fun R => (List.range (200 / R + 1)).all fun C => decide (R = 0) || (decide (C = 0) || (decide (iter R C (ord R C) 0 = 0) && decide (1 ≤ ord R C ∧ ord R C ≤ 200)))
set_option maxRecDepth 100000 in
theorem allOrd_yes : allOrd = true := by decide +kernel
theorem ord_in {R C : Nat} (h1 : 1 ≤ R) (h2 : 1 ≤ C) (h : R * C ≤ 200) : iter R C (ord R C) 0 = 0 ∧ 1 ≤ ord R C ∧ ord R C ≤ 200 := by
  have := allOrd_yes
  unfold allOrd at this
  rw [List.all_eq_true] at this
  have hR : R ≤ 200 := Nat.le_trans (Nat.le_mul_of_pos_right R h2) h
  have h3 := this R (List.mem_range.2 (by omega))
  rw [List.all_eq_true] at h3
  have h4 := h3 C (List.mem_range.2 (by have := (Nat.le_div_iff_mul_le (show 0 < R by omega)).2 (by rw [Nat.mul_comm]; exact h); omega))
  rw [decide_eq_false (by omega), decide_eq_false (by omega), Bool.false_or, Bool.false_or, Bool.and_eq_true] at h4
  exact ⟨of_decide_eq_true h4.1, of_decide_eq_true h4.2⟩
theorem ordFrom_least (R C : Nat) : ∀ n t k, t ≤ k → k < ordFrom R C n t (iter R C t 0) → iter R C k 0 ≠ 0
  | 0, t, k, h1, h2 => absurd h2 (by simp [ordFrom]; omega)
  | n + 1, t, k, h1, h2 => by
    rw [ordFrom] at h2
    split at h2
    · omega
    · rename_i h3
      by_cases e : k = t
      · rw [e]; exact h3
      · exact ordFrom_least R C n (t + 1) k (by omega) h2
theorem ord_least {R C k : Nat} (h1 : 1 ≤ k) (h2 : k < ord R C) : iter R C k 0 ≠ 0 := ordFrom_least R C 200 1 k h1 h2
/-- one is told as at first behind p turns, not before: p divides each number of turns that does so -/
theorem per_dvd {R C j p T : Nat} (hp : 1 ≤ p) (h : iter R C p j = j) (hno : ∀ k, 1 ≤ k → k < p → iter R C k j ≠ j) (hT : iter R C T j = j) : p ∣ T := by
  have hm : ∀ q, iter R C (p * q) j = j := fun q => by
    induction q with
    | zero => rfl
    | succ q ih => rw [Nat.mul_succ, Nat.add_comm, iter_add, ih, h]
  have h1 : iter R C (T % p) j = j := by
    have := Nat.div_add_mod T p
    rw [← this, Nat.add_comm, iter_add, hm] at hT
    exact hT
  have h2 := Nat.mod_lt T (show 0 < p by omega)
  rcases Nat.eq_zero_or_pos (T % p) with h3 | h3
  · exact Nat.dvd_of_mod_eq_zero h3
  · exact absurd h1 (hno _ h3 h2)
theorem lcm_of_dvd {a b : Nat} (h : b ∣ a) (ha : 0 < a) : Nat.lcm a b = a := by
  unfold Nat.lcm
  rw [Nat.gcd_eq_right h]
  exact Nat.mul_div_cancel a (Nat.pos_of_dvd_of_pos h ha)

end Fo
end Go.Proofs.Ytbodomfdgjemhaa
