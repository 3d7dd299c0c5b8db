/- Chapter 8, plain: the starts from the left are the first ones that the search finds. -/
import Derived.Test.YtmlamcimncfmcabSik
namespace Go.Proofs.Ytmlamcimncfmcab
open Go.ChangeShapes Go.WideShapes Go.ChangeAt Go.RowKit

namespace Si
theorem far_all (N : Nat) (qs : List Nat) (T : Nat) : ∀ k, farTo N qs k ≤ T ↔ ∀ p, p < k → nearN N qs p ≤ T
  | 0 => ⟨fun _ p h => absurd h (Nat.not_lt_zero _), fun _ => Nat.zero_le _⟩
  | k + 1 => by
    rw [farTo, Nat.max_le, far_all N qs T k]
    refine ⟨fun ⟨h1, h2⟩ p hp => ?_, fun h => ⟨fun p hp => h p (by omega), h k (by omega)⟩⟩
    by_cases e : p = k
    · subst e; exact h2
    · exact h1 p (by omega)
theorem near_le_iff (N : Nat) (qs : List Nat) (x T : Nat) (hT : T < N) : ∀ k, nearTo N qs x k ≤ T ↔ ∃ j, j < k ∧ (x - qs.getD j 0) + (qs.getD j 0 - x) ≤ T
  | 0 => ⟨fun h => absurd (show N ≤ T from h) (by omega), fun ⟨j, h, _⟩ => absurd h (Nat.not_lt_zero _)⟩
  | k + 1 => by
    rw [nearTo, show ∀ a b : Nat, min a b ≤ T ↔ a ≤ T ∨ b ≤ T from fun a b => by omega, near_le_iff N qs x T hT k]
    constructor
    · rintro (⟨j, h1, h2⟩ | h)
      · exact ⟨j, by omega, h2⟩
      · exact ⟨k, by omega, h⟩
    · rintro ⟨j, h1, h2⟩
      by_cases e : j = k
      · subst e; exact .inr h2
      · exact .inl ⟨j, by omega, h2⟩
theorem far_iff (N : Nat) (qs : List Nat) (T : Nat) (hT : T < N) : farTo N qs N ≤ T ↔ ∀ p, p < N → ∃ j, j < qs.length ∧ (p - qs.getD j 0) + (qs.getD j 0 - p) ≤ T := by
  rw [far_all]
  exact ⟨fun h p hp => (near_le_iff N qs p T hT _).1 (h p hp), fun h p hp => (near_le_iff N qs p T hT _).2 (h p hp)⟩
theorem fromN_app (b : List Nat) (x : Nat) : fromN (b ++ [x]) = x + 1 := by
  unfold fromN
  rw [List.length_append, List.length_singleton, if_pos (by omega), show b.length + 1 - 1 = b.length by omega]
  simp
theorem look_some (n T : Nat) : ∀ d b zs, lookD n T d b = some zs → farTo n zs n ≤ T ∧ ∃ ys : List Nat, zs = b ++ ys ∧ ∀ y ∈ ys, fromN b ≤ y
  | 0, b, zs, h => by
    unfold lookD at h
    split at h
    · rename_i hf
      obtain rfl := Option.some.inj h
      exact ⟨hf, [], (List.append_nil _).symm, fun y hy => by cases hy⟩
    · cases h
  | d + 1, b, zs, h => by
    unfold lookD at h
    obtain ⟨i, _, hi⟩ := List.exists_of_findSome?_eq_some h
    obtain ⟨h1, ys, h2, h3⟩ := look_some n T d _ _ hi
    refine ⟨h1, (fromN b + i) :: ys, by rw [h2, List.append_assoc]; rfl, fun y hy => ?_⟩
    rcases List.mem_cons.1 hy with e | e
    · omega
    · have := h3 y e
      rw [fromN_app] at this; omega
/-- what is told of b and one more behind it -/
theorem look_last (n T : Nat) (hT : T < n) : ∀ d b x zs, (∀ y ∈ b, y ≤ x) → lookD n T d (b ++ [x]) = some zs → n ≤ x + T + 1 + d * (2 * T + 1)
  | 0, b, x, zs, hb, h => by
    obtain ⟨h1, ys, h2, h3⟩ := look_some n T 0 _ _ h
    unfold lookD at h
    split at h
    case isFalse => cases h
    obtain rfl := Option.some.inj h
    rw [far_iff _ _ _ hT] at h1
    obtain ⟨j, hj, hd⟩ := h1 (n - 1) (by omega)
    have : (b ++ [x]).getD j 0 ≤ x := by
      rw [List.getD_eq_getElem?_getD, List.getElem?_eq_getElem hj, Option.getD_some]
      rcases List.mem_append.1 (List.getElem_mem hj) with e | e
      · exact hb _ e
      · rw [List.mem_singleton.1 e]; exact Nat.le_refl _
    omega
  | d + 1, b, x, zs, hb, h => by
    unfold lookD at h
    obtain ⟨i, _, hi⟩ := List.exists_of_findSome?_eq_some h
    rw [fromN_app] at hi
    have ih := look_last n T hT d (b ++ [x]) (x + 1 + i) zs (fun y hy => by
      rcases List.mem_append.1 hy with e | e
      · have := hb y e; omega
      · have := List.mem_singleton.1 e; omega) hi
    obtain ⟨h1, ys, h2, h3⟩ := look_some n T d _ _ hi
    rw [fromN_app] at h3
    rw [Nat.succ_mul]
    by_cases hn : n ≤ x + T + 1
    · omega
    · rw [far_iff _ _ _ hT] at h1
      obtain ⟨j, hj, hd⟩ := h1 (x + T + 1) (by omega)
      have hmem : zs.getD j 0 ∈ zs := by
        rw [List.getD_eq_getElem?_getD, List.getElem?_eq_getElem hj, Option.getD_some]
        exact List.getElem_mem hj
      rw [h2] at hmem hd
      have : zs.getD j 0 ≤ x ∨ x + 1 + i ≤ zs.getD j 0 := by
        rw [h2]
        rcases List.mem_append.1 hmem with e | e
        · rcases List.mem_append.1 e with e | e
          · rcases List.mem_append.1 e with e | e
            · exact .inl (hb _ e)
            · exact .inl (Nat.le_of_eq (List.mem_singleton.1 e))
          · exact .inr (Nat.le_of_eq (List.mem_singleton.1 e).symm)
        · have := h3 _ e; exact .inr (by omega)
      rw [← h2] at hd
      omega
/-- the starts from the left, each as near as can be -/
def gr (n m T : Nat) : Nat → Nat
  | 0 => n - (m - 1) * (2 * T + 1) - 1 - T
  | i + 1 => max (gr n m T i + 1) (n - (m - 1 - (i + 1)) * (2 * T + 1) - 1 - T)
def grL (n m T k : Nat) : List Nat := (List.range k).map (gr n m T)
theorem grL_succ (n m T k : Nat) : grL n m T (k + 1) = grL n m T k ++ [gr n m T k] := by unfold grL; rw [List.range_succ, List.map_append]; rfl
theorem grL_len (n m T k : Nat) : (grL n m T k).length = k := by simp [grL]
theorem grL_get {n m T k j : Nat} (h : j < k) : (grL n m T k).getD j 0 = gr n m T j := by simp [grL, List.getD_eq_getElem?_getD, h]
def grFrom (n m T k : Nat) : Nat := fromN (grL n m T k)
theorem grFrom_succ (n m T k : Nat) : grFrom n m T (k + 1) = gr n m T k + 1 := by unfold grFrom; rw [grL_succ, fromN_app]
theorem gr_is (n m T k : Nat) : gr n m T k = max (grFrom n m T k) (n - (m - 1 - k) * (2 * T + 1) - 1 - T) := by
  cases k with
  | zero => rw [show grFrom n m T 0 = 0 from rfl, Nat.zero_max]; rfl
  | succ k => rw [grFrom_succ]; rfl
theorem gr_ge (n m T k : Nat) : n - (m - 1 - k) * (2 * T + 1) - 1 - T ≤ gr n m T k := by rw [gr_is]; omega
theorem gr_lt (n m T k : Nat) : gr n m T k < gr n m T (k + 1) := by show _ < max _ _; omega
theorem gr_mono (n m T : Nat) {j k : Nat} (h : j ≤ k) : gr n m T j ≤ gr n m T k := by
  induction k with
  | zero => rw [Nat.le_zero.1 h]; exact Nat.le_refl _
  | succ k ih =>
    by_cases e : j = k + 1
    · rw [e]; exact Nat.le_refl _
    · have := ih (by omega); have := gr_lt n m T k; omega
theorem gr_up {n m T : Nat} (hm : m ≤ n) : ∀ k, k < m → gr n m T k + (m - k) ≤ n
  | 0, h => by
    show n - (m - 1) * (2 * T + 1) - 1 - T + (m - 0) ≤ n
    have : (m - 1) * 1 ≤ (m - 1) * (2 * T + 1) := Nat.mul_le_mul_left _ (by omega)
    omega
  | k + 1, h => by
    have h1 := gr_up hm (T := T) k (by omega)
    show max _ _ + _ ≤ n
    have : (m - 1 - (k + 1)) * 1 ≤ (m - 1 - (k + 1)) * (2 * T + 1) := Nat.mul_le_mul_left _ (by omega)
    omega
theorem gr_step (n m T k : Nat) (hk : k + 1 < m) : gr n m T (k + 1) ≤ gr n m T k + (2 * T + 1) := by
  show max _ _ ≤ _
  have h1 := gr_ge n m T k
  have e : m - 1 - k = (m - 1 - (k + 1)) + 1 := by omega
  rw [e, Nat.succ_mul] at h1
  omega
theorem gr_zero {n m T : Nat} (hm : 1 ≤ m) (h : n ≤ m * (2 * T + 1)) : gr n m T 0 ≤ T := by
  show n - (m - 1) * (2 * T + 1) - 1 - T ≤ T
  obtain ⟨k, rfl⟩ : ∃ k, m = k + 1 := ⟨m - 1, by omega⟩
  rw [Nat.succ_mul] at h
  rw [Nat.add_sub_cancel]
  omega
theorem gr_last (n m T : Nat) (_hm : 1 ≤ m) : n ≤ gr n m T (m - 1) + T + 1 := by
  have := gr_ge n m T (m - 1)
  rw [Nat.sub_self, Nat.zero_mul] at this
  omega
theorem gr_cover {n m T : Nat} (hm : 1 ≤ m) (h : n ≤ m * (2 * T + 1)) (p : Nat) (hp : p < n) : ∃ j, j < m ∧ (p - gr n m T j) + (gr n m T j - p) ≤ T := by
  have key : ∀ k, k < m → p ≤ gr n m T k + T → ∃ j, j < m ∧ (p - gr n m T j) + (gr n m T j - p) ≤ T := by
    intro k
    induction k with
    | zero => intro h1 h2; exact ⟨0, h1, by have := gr_zero hm h; omega⟩
    | succ k ih =>
      intro h1 h2
      by_cases e : p ≤ gr n m T k + T
      · exact ih (by omega) e
      · exact ⟨k + 1, h1, by have := gr_step n m T k h1; omega⟩
  exact key (m - 1) (by omega) (by have := gr_last n m T hm; omega)
theorem look_gr {n m T : Nat} (hT : T < n) (hm : 1 ≤ m) (hmn : m ≤ n) (h : n ≤ m * (2 * T + 1)) : ∀ d k, k + d = m → lookD n T d (grL n m T k) = some (grL n m T m)
  | 0, k, hk => by
    obtain rfl : k = m := by omega
    unfold lookD
    rw [if_pos]
    rw [far_iff _ _ _ hT]
    intro p hp
    obtain ⟨j, h1, h2⟩ := gr_cover hm h p hp
    exact ⟨j, by rw [grL_len]; exact h1, by rw [grL_get h1]; exact h2⟩
  | d + 1, k, hk => by
    unfold lookD
    have h1 := gr_up hmn (T := T) k (by omega)
    have h2 := gr_is n m T k
    have h3 : grFrom n m T k = fromN (grL n m T k) := rfl
    have hd : m - 1 - k = d := by omega
    rw [hd] at h2
    refine findSome_hit (k := gr n m T k - grFrom n m T k) (fun j hj => ?_) ?_ (by omega)
    · rcases e : lookD n T d (grL n m T k ++ [fromN (grL n m T k) + j]) with _ | zs
      · rfl
      · have h4 := look_last n T hT d _ _ zs (fun y hy => by
          unfold grL at hy
          obtain ⟨i, hi, rfl⟩ := List.mem_map.1 hy
          have hi := List.mem_range.1 hi
          obtain ⟨k', rfl⟩ : ∃ k', k = k' + 1 := ⟨k - 1, by omega⟩
          have := gr_mono n m T (show i ≤ k' by omega)
          rw [← h3, grFrom_succ]; omega) e
        omega
    · rw [show fromN (grL n m T k) + (gr n m T k - grFrom n m T k) = gr n m T k by omega, ← grL_succ]
      exact look_gr hT hm hmn h d (k + 1) (by omega)
theorem leastT_covers {n m : Nat} (h1 : 1 ≤ m) : n ≤ m * (2 * leastT n m + 1) := by
  apply Nat.le_of_not_lt
  intro h
  have := leastT_more h1 h
  omega
theorem leastT_lt {n m : Nat} (h0 : 1 ≤ n) (h1 : 1 ≤ m) : leastT n m < n := by
  have h2 : leastT n m ≤ (n - 1) := leastT_done h1 (by
    intro h
    have : 1 * (2 * (n - 1) + 1) ≤ m * (2 * (n - 1) + 1) := Nat.mul_le_mul_right _ h1
    omega)
  omega
theorem look_all {n m : Nat} (h0 : 1 ≤ n) (h1 : 1 ≤ m) (h2 : m ≤ n) : lookD n (leastT n m) m [] = some (grL n m (leastT n m) m) :=
  look_gr (leastT_lt h0 h1) h1 h2 (leastT_covers h1) m 0 (by omega)
end Si

end Go.Proofs.Ytmlamcimncfmcab
