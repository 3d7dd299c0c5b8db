/- Plain facts about counts of ticks. Nothing of the program. -/
import Derived.Test.YtacchefmblfobaaMath
import Derived.Test.YtacchefmblfobaaText
namespace Go.Proofs.Ytacchefmblfobaa
namespace Rw

/-- the ticks of all rows of so many soldiers, in order -/
def ticksAll (n : Nat) : List Nat := (List.range (2 ^ n)).map fun k => ticksOf (make n k)
@[simp] theorem length_ticksAll (n : Nat) : (ticksAll n).length = 2 ^ n := by simp [ticksAll]
theorem getD_ticksAll (n k : Nat) (h : k < 2 ^ n) : (ticksAll n).getD k 0 = ticksOf (make n k) := by simp [ticksAll, List.getD_eq_getElem?_getD, h]
theorem mem_ticksAll_le {n x : Nat} (hn : n ≤ 60) (h : x ∈ ticksAll n) : x ≤ 3600 := by
  simp only [ticksAll, List.mem_map] at h
  obtain ⟨k, _, rfl⟩ := h
  have h1 := ticksOf_le (make n k)
  have h2 := mw_row (make n k) (by simpa using hn)
  omega
theorem ticksAll_ne (n : Nat) : ticksAll n ≠ [] := by
  intro h
  have h1 := length_ticksAll n
  rw [h] at h1
  have h2 : 1 ≤ 2 ^ n := Nat.one_le_two_pow
  rw [← h1] at h2
  exact absurd h2 (by simp)

/-- out counts how often each number stands in xs -/
def Hist (out xs : List Nat) : Prop := (∀ t, t < out.length → out.getD t 0 = xs.count t) ∧ ∀ x ∈ xs, x < out.length
theorem hist_zero (n : Nat) : Hist (List.replicate n 0) [] := by
  refine ⟨fun t ht => ?_, fun x h => by simp at h⟩
  simp only [List.length_replicate] at ht
  simp [List.getD_eq_getElem?_getD, ht]
theorem hist_grow {out xs : List Nat} (h : Hist out xs) : Hist (out ++ [0]) xs := by
  refine ⟨fun t ht => ?_, fun x hx => by have := h.2 x hx; simp; omega⟩
  simp only [List.length_append, List.length_singleton] at ht
  by_cases hlt : t < out.length
  · rw [← h.1 t hlt]
    simp [List.getD_eq_getElem?_getD, List.getElem?_append, hlt]
  · have e : t = out.length := by omega
    have hc : xs.count t = 0 := List.count_eq_zero.2 (fun hm => by have := h.2 t hm; omega)
    rw [hc, e]
    simp [List.getD_eq_getElem?_getD]
theorem hist_inc {out xs : List Nat} (h : Hist out xs) (x : Nat) (hx : x < out.length) : Hist (inc out x) (xs ++ [x]) := by
  refine ⟨fun t ht => ?_, fun y hy => ?_⟩
  · rw [length_inc] at ht
    unfold inc
    rw [getD_set, List.count_append]
    by_cases e : x = t
    · subst e
      rw [if_pos ⟨rfl, ht⟩, h.1 x hx]; simp
    · rw [if_neg (fun h => e h.1), h.1 t ht]
      have : ([x] : List Nat).count t = 0 := List.count_eq_zero.2 (by simpa using fun h => e h.symm)
      omega
  · rw [length_inc]
    rw [List.mem_append, List.mem_singleton] at hy
    rcases hy with hy | hy
    · exact h.2 y hy
    · omega

/-- the last place, below j, at which there is a number -/
def lastTo (out : List Nat) : Nat → Nat
  | 0 => 0
  | j + 1 => if 0 < out.getD j 0 then j else lastTo out j
theorem lastTo_ge (out : List Nat) : ∀ j t, t < j → 0 < out.getD t 0 → t ≤ lastTo out j
  | 0, t, h, _ => by omega
  | j + 1, t, h, hp => by
    rw [lastTo]
    split
    · omega
    · next hn =>
      by_cases e : t = j
      · subst e; exact absurd hp hn
      · exact lastTo_ge out j t (by omega) hp
theorem lastTo_is (out : List Nat) : ∀ j, lastTo out j = 0 ∨ (lastTo out j < j ∧ 0 < out.getD (lastTo out j) 0)
  | 0 => .inl rfl
  | j + 1 => by
    rw [lastTo]
    split
    · next h => exact .inr ⟨by omega, h⟩
    · rcases lastTo_is out j with h | h
      · exact .inl h
      · exact .inr ⟨by omega, h.2⟩
theorem lastTo_le (out : List Nat) (j : Nat) : lastTo out j ≤ j := by
  rcases lastTo_is out j with h | h <;> omega

/-- the greatest number of a list -/
def IsMax (xs : List Nat) (M : Nat) : Prop := M ∈ xs ∧ ∀ x ∈ xs, x ≤ M
theorem IsMax.unique {xs : List Nat} {a b : Nat} (h : IsMax xs a) (k : IsMax xs b) : a = b := by
  have := h.2 b k.1; have := k.2 a h.1; omega
theorem lastTo_max {out xs : List Nat} (h : Hist out xs) (hne : xs ≠ []) : IsMax xs (lastTo out out.length) := by
  have key : ∀ x ∈ xs, x ≤ lastTo out out.length := fun x hx => by
    refine lastTo_ge out _ x (h.2 x hx) ?_
    rw [h.1 x (h.2 x hx)]; exact List.count_pos_iff.2 hx
  refine ⟨?_, key⟩
  rcases lastTo_is out out.length with h0 | h0
  · obtain ⟨x, hx⟩ := List.exists_mem_of_ne_nil xs hne
    have := key x hx
    rw [h0] at this ⊢
    rw [show 0 = x from by omega]; exact hx
  · rw [h.1 _ h0.1] at h0
    exact List.count_pos_iff.1 h0.2

/-- each place times the number there, added up from place k on -/
def wsum : Nat → List Nat → Nat
  | _, [] => 0
  | k, a :: t => k * a + wsum (k + 1) t
theorem wsum_append : ∀ (a b : List Nat) (k : Nat), wsum k (a ++ b) = wsum k a + wsum (k + a.length) b
  | [], b, k => by simp [wsum]
  | x :: a, b, k => by
    simp only [List.cons_append, wsum, wsum_append a b (k + 1), List.length_cons]
    rw [show k + 1 + a.length = k + (a.length + 1) from by omega]; omega
theorem wsum_zeros (n : Nat) : ∀ k, wsum k (List.replicate n 0) = 0 := by
  induction n with
  | zero => intro k; rfl
  | succ n ih => intro k; simp [List.replicate_succ, wsum, ih]
theorem wsum_grow (out : List Nat) (k : Nat) : wsum k (out ++ [0]) = wsum k out := by rw [wsum_append]; simp [wsum]
theorem wsum_inc : ∀ (out : List Nat) (k x : Nat), x < out.length → wsum k (inc out x) = wsum k out + (k + x)
  | [], _, _, h => by simp at h
  | a :: t, k, 0, _ => by simp only [inc, List.set_cons_zero, wsum, List.getD_cons_zero, Nat.mul_add]; omega
  | a :: t, k, x + 1, h => by
    have := wsum_inc t (k + 1) x (by simpa using h)
    simp only [inc, List.set_cons_succ, wsum, List.getD_cons_succ] at this ⊢
    omega
theorem wsumTo_succ (out : List Nat) (j : Nat) (hj : j < out.length) : wsum 0 (out.take (j + 1)) = wsum 0 (out.take j) + j * out.getD j 0 := by
  rw [List.take_succ_eq_append_getElem hj, wsum_append]
  simp only [Nat.zero_add, List.length_take, Nat.min_eq_left (Nat.le_of_lt hj), wsum, Nat.add_zero]
  simp [List.getD_eq_getElem?_getD, hj]
theorem wsumTo_le (out : List Nat) (j : Nat) : wsum 0 (out.take j) ≤ wsum 0 out := by
  have h : wsum 0 (out.take j ++ out.drop j) = wsum 0 out := by rw [List.take_append_drop]
  rw [wsum_append] at h
  omega

theorem sum_le (xs : List Nat) (b : Nat) (h : ∀ x ∈ xs, x ≤ b) : xs.sum ≤ b * xs.length := by
  induction xs with
  | nil => simp
  | cons a t ih =>
    have h1 := h a (by simp)
    have h2 := ih (fun x hx => h x (by simp [hx]))
    simp only [List.sum_cons, List.length_cons, Nat.mul_add]
    omega
theorem count_le (xs : List Nat) (t : Nat) : xs.count t ≤ xs.length := List.count_le_length
theorem countTo_succ (xs : List Nat) (t k : Nat) (hk : k < xs.length) : (xs.take (k + 1)).count t = (xs.take k).count t + (if xs.getD k 0 = t then 1 else 0) := by
  rw [List.take_succ_eq_append_getElem hk, List.count_append]
  congr 1
  simp only [List.getD_eq_getElem?_getD, List.getElem?_eq_getElem hk, Option.getD_some]
  by_cases h : xs[k] = t
  · rw [if_pos h, h]; simp
  · rw [if_neg h]; exact List.count_eq_zero.2 (by simpa using fun e => h e.symm)

/-- the greatest of the first j + 1 numbers -/
def maxTo (xs : List Nat) : Nat → Nat
  | 0 => xs.getD 0 0
  | j + 1 => max (maxTo xs j) (xs.getD (j + 1) 0)
theorem getD_mem {xs : List Nat} {k : Nat} (h : k < xs.length) : xs.getD k 0 ∈ xs := by
  simp only [List.getD_eq_getElem?_getD, List.getElem?_eq_getElem h, Option.getD_some]; exact List.getElem_mem h
theorem maxTo_is (xs : List Nat) : ∀ j, j < xs.length → maxTo xs j ∈ xs ∧ ∀ k, k ≤ j → xs.getD k 0 ≤ maxTo xs j
  | 0, h => ⟨getD_mem h, fun k hk => by rw [show k = 0 from by omega]; exact Nat.le_refl _⟩
  | j + 1, h => by
    obtain ⟨h1, h2⟩ := maxTo_is xs j (by omega)
    rw [maxTo]
    refine ⟨?_, fun k hk => ?_⟩
    · rcases Nat.le_total (maxTo xs j) (xs.getD (j + 1) 0) with h3 | h3
      · rw [Nat.max_eq_right h3]; exact getD_mem h
      · rw [Nat.max_eq_left h3]; exact h1
    · by_cases e : k = j + 1
      · subst e; exact Nat.le_max_right _ _
      · exact Nat.le_trans (h2 k (by omega)) (Nat.le_max_left _ _)
theorem maxTo_max (xs : List Nat) (hne : 0 < xs.length) : IsMax xs (maxTo xs (xs.length - 1)) := by
  obtain ⟨h1, h2⟩ := maxTo_is xs (xs.length - 1) (by omega)
  refine ⟨h1, fun x hx => ?_⟩
  obtain ⟨k, hk, rfl⟩ := List.getElem_of_mem hx
  have := h2 k (by omega)
  simpa [List.getD_eq_getElem?_getD, hk] using this

/-- the first place of a number -/
theorem first_place (xs : List Nat) (M : Nat) (h : M ∈ xs) : ∃ k, k < xs.length ∧ xs.getD k 0 = M ∧ ∀ j, j < k → ¬ xs.getD j 0 = M := by
  induction xs with
  | nil => simp at h
  | cons a t ih =>
    by_cases e : a = M
    · exact ⟨0, by simp, by simpa using e, fun j hj => by omega⟩
    · rcases List.mem_cons.1 h with h | h
      · exact absurd h.symm e
      · obtain ⟨k, h1, h2, h3⟩ := ih h
        refine ⟨k + 1, by simpa using h1, by simpa using h2, fun j hj => ?_⟩
        cases j with
        | zero => simpa using e
        | succ j => simpa using h3 j (by omega)

end Rw
end Go.Proofs.Ytacchefmblfobaa
