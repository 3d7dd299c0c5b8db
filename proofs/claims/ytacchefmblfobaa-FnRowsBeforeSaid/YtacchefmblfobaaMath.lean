/- Plain facts about rows of soldiers as lists of Bool (true: looks to the right): pairs who face each other, ticks, rest. Nothing of the program. -/
import Derived.WalkKit
namespace Go.Proofs.Ytacchefmblfobaa
namespace Rw

theorem getD_set {α : Type} (l : List α) (i j : Nat) (x d : α) : (l.set i x).getD j d = if i = j ∧ j < l.length then x else l.getD j d := by
  simp only [List.getD_eq_getElem?_getD, List.getElem?_set]
  by_cases h : i = j
  · subst h
    by_cases hl : i < l.length
    · simp [hl]
    · simp [hl]
  · simp [h]

def isPair (l : List Bool) (i : Nat) : Bool := l.getD i false && !l.getD (i + 1) true
def pairsTo (l : List Bool) (j : Nat) : List Nat := (List.range j).filter (isPair l)
def pairs (l : List Bool) : List Nat := pairsTo l (l.length - 1)

theorem pairsTo_succ (l : List Bool) (j : Nat) : pairsTo l (j + 1) = pairsTo l j ++ if isPair l j then [j] else [] := by
  unfold pairsTo
  rw [List.range_succ, List.filter_append]
  congr 1
  by_cases h : isPair l j <;> simp [h]

theorem pairsTo_le (l : List Bool) (j : Nat) : (pairsTo l j).length ≤ j := by
  unfold pairsTo
  have := List.length_filter_le (isPair l) (List.range j)
  simpa using this

theorem mem_pairs {l : List Bool} {p : Nat} (h : p ∈ pairs l) : p + 1 < l.length ∧ l.getD p false = true ∧ l.getD (p + 1) true = false := by
  unfold pairs pairsTo at h
  rw [List.mem_filter] at h
  obtain ⟨h1, h2⟩ := h
  simp only [List.mem_range] at h1
  unfold isPair at h2
  simp only [Bool.and_eq_true, Bool.not_eq_true'] at h2
  exact ⟨by omega, h2⟩

theorem pairs_nodup (l : List Bool) : (pairs l).Nodup := by
  unfold pairs pairsTo
  exact List.Pairwise.filter _ List.nodup_range

def swapAt (l : List Bool) (i : Nat) : List Bool := (l.set i false).set (i + 1) true
def flipAt (l : List Bool) (i : Nat) : List Bool := l.set i (!l.getD i false)
def turnAt (l : List Bool) (i : Nat) : List Bool := flipAt (flipAt l i) (i + 1)
def inc (c : List Nat) (i : Nat) : List Nat := c.set i (c.getD i 0 + 1)
def bump (c : List Nat) (i : Nat) : List Nat := inc (inc c i) (i + 1)
def tick (l : List Bool) : List Bool := (pairs l).foldl swapAt l

@[simp] theorem length_swapAt (l : List Bool) (i : Nat) : (swapAt l i).length = l.length := by simp [swapAt]
@[simp] theorem length_flipAt (l : List Bool) (i : Nat) : (flipAt l i).length = l.length := by simp [flipAt]
@[simp] theorem length_turnAt (l : List Bool) (i : Nat) : (turnAt l i).length = l.length := by simp [turnAt]
@[simp] theorem length_inc (c : List Nat) (i : Nat) : (inc c i).length = c.length := by simp [inc]
@[simp] theorem length_bump (c : List Nat) (i : Nat) : (bump c i).length = c.length := by simp [bump]
theorem length_foldl_swap (ps : List Nat) (l : List Bool) : (ps.foldl swapAt l).length = l.length := by
  induction ps generalizing l with
  | nil => rfl
  | cons a t ih => rw [List.foldl_cons, ih]; simp
theorem length_foldl_turn (ps : List Nat) (l : List Bool) : (ps.foldl turnAt l).length = l.length := by
  induction ps generalizing l with
  | nil => rfl
  | cons a t ih => rw [List.foldl_cons, ih]; simp
theorem length_foldl_bump (ps : List Nat) (c : List Nat) : (ps.foldl bump c).length = c.length := by
  induction ps generalizing c with
  | nil => rfl
  | cons a t ih => rw [List.foldl_cons, ih]; simp
@[simp] theorem length_tick (l : List Bool) : (tick l).length = l.length := length_foldl_swap _ _

theorem getD_ne (l : List Bool) {i : Nat} (h : i < l.length) (d e : Bool) : l.getD i d = l.getD i e := by
  simp [List.getD_eq_getElem?_getD, h]

theorem turnAt_pair (m : List Bool) (p : Nat) (hp : p + 1 < m.length) (h1 : m.getD p false = true) (h2 : m.getD (p + 1) true = false) : turnAt m p = swapAt m p := by
  have h2' : m.getD (p + 1) false = false := by rw [getD_ne m hp false true]; exact h2
  unfold turnAt swapAt flipAt
  rw [getD_set, if_neg (by omega), h1, h2']; rfl

theorem swapAt_getD (m : List Bool) (p j : Nat) (d : Bool) (hp : p + 1 < m.length) : (swapAt m p).getD j d = if j = p then false else if j = p + 1 then true else m.getD j d := by
  unfold swapAt
  rw [getD_set, getD_set]
  by_cases h1 : j = p
  · subst h1; simp; omega
  · by_cases h2 : j = p + 1
    · subst h2; simp; omega
    · rw [if_neg (by omega), if_neg (by omega), if_neg h1, if_neg h2]

/-- As pairs of one row do not touch each other, to turn them one after the other is to exchange them. -/
theorem fold_turn (l : List Bool) : ∀ (ps : List Nat) (m : List Bool), m.length = l.length → ps.Nodup →
    (∀ p ∈ ps, p + 1 < l.length ∧ l.getD p false = true ∧ l.getD (p + 1) true = false) →
    (∀ p ∈ ps, m.getD p false = true ∧ m.getD (p + 1) true = false) → ps.foldl turnAt m = ps.foldl swapAt m := by
  intro ps
  induction ps with
  | nil => intro m _ _ _ _; rfl
  | cons p t ih =>
    intro m hm hn hl hmm
    rw [List.foldl_cons, List.foldl_cons]
    have hp := hl p (by simp)
    have hq := hmm p (by simp)
    rw [turnAt_pair m p (by omega) hq.1 hq.2]
    rw [List.nodup_cons] at hn
    refine ih _ (by simp [hm]) hn.2 (fun q h => hl q (by simp [h])) (fun q h => ?_)
    have hlq := hl q (by simp [h])
    have hmq := hmm q (by simp [h])
    have hne : q ≠ p := fun e => hn.1 (e ▸ h)
    have hne1 : q ≠ p + 1 := by
      intro e; subst e
      have := getD_ne l hp.1 false true
      rw [this, hp.2.2] at hlq
      exact absurd hlq.2.1 (by simp)
    have hne2 : q + 1 ≠ p := by
      intro e; subst e
      have := getD_ne l (by omega : q + 1 < l.length) false true
      rw [this, hlq.2.2] at hp
      exact absurd hp.2.1 (by simp)
    rw [swapAt_getD _ _ _ _ (by omega), swapAt_getD _ _ _ _ (by omega)]
    rw [if_neg hne, if_neg hne1, if_neg hne2, if_neg (by omega)]
    exact hmq

theorem tick_turn (l : List Bool) : (pairs l).foldl turnAt l = tick l :=
  fold_turn l (pairs l) l rfl (pairs_nodup l) (fun _ h => mem_pairs h) (fun _ h => ⟨(mem_pairs h).2.1, (mem_pairs h).2.2⟩)

/-- in the middle of a tick the pairs that are still to turn stand as at first -/
theorem take_pairs (l : List Bool) (j : Nat) :
    (((pairs l).take j).foldl turnAt l) = (((pairs l).take j).foldl swapAt l) := by
  have hs : ∀ p ∈ (pairs l).take j, p ∈ pairs l := fun p h => List.mem_of_mem_take h
  exact fold_turn l _ l rfl ((pairs_nodup l).sublist (List.take_sublist _ _)) (fun _ h => mem_pairs (hs _ h)) (fun _ h => ⟨(mem_pairs (hs _ h)).2.1, (mem_pairs (hs _ h)).2.2⟩)

/-- The sum of the places of those who look to the left. -/
def mw (k : Nat) : List Bool → Nat
  | [] => 0
  | b :: t => (if b then 0 else k) + mw (k + 1) t

theorem mw_set (l : List Bool) : ∀ (k p : Nat) (b : Bool), p < l.length → mw k (l.set p b) + (if l.getD p false then 0 else k + p) = mw k l + (if b then 0 else k + p) := by
  induction l with
  | nil => intro k p b h; simp at h
  | cons a t ih =>
    intro k p b h
    cases p with
    | zero => simp only [List.set_cons_zero, mw, List.getD_cons_zero, Nat.add_zero]; omega
    | succ p =>
      have := ih (k + 1) p b (by simpa using h)
      simp only [List.set_cons_succ, mw, List.getD_cons_succ]
      have e : k + 1 + p = k + (p + 1) := by omega
      rw [e] at this
      omega

theorem mw_swap (m : List Bool) (p : Nat) (hp : p + 1 < m.length) (h1 : m.getD p false = true) (h2 : m.getD (p + 1) true = false) : mw 0 (swapAt m p) + 1 = mw 0 m := by
  have h2' : m.getD (p + 1) false = false := by rw [getD_ne m hp false true]; exact h2
  have a := mw_set m 0 p false (by omega)
  have b := mw_set (m.set p false) 0 (p + 1) true (by simpa using hp)
  have e : (m.set p false).getD (p + 1) false = false := by rw [getD_set, if_neg (by omega)]; exact h2'
  rw [e] at b
  rw [h1] at a
  unfold swapAt
  simp at a b
  omega

theorem mw_fold (l : List Bool) : ∀ (ps : List Nat) (m : List Bool), m.length = l.length → ps.Nodup →
    (∀ p ∈ ps, p + 1 < l.length ∧ l.getD p false = true ∧ l.getD (p + 1) true = false) →
    (∀ p ∈ ps, m.getD p false = true ∧ m.getD (p + 1) true = false) → mw 0 (ps.foldl swapAt m) + ps.length = mw 0 m := by
  intro ps
  induction ps with
  | nil => intro m _ _ _ _; rfl
  | cons p t ih =>
    intro m hm hn hl hmm
    have hp := hl p (by simp)
    have hq := hmm p (by simp)
    rw [List.nodup_cons] at hn
    have h := ih (swapAt m p) (by simp [hm]) hn.2 (fun q h => hl q (by simp [h])) (fun q h => by
      have hlq := hl q (by simp [h])
      have hmq := hmm q (by simp [h])
      have hne : q ≠ p := fun e => hn.1 (e ▸ h)
      have hne1 : q ≠ p + 1 := by
        intro e; subst e
        have := getD_ne l hp.1 false true
        rw [this, hp.2.2] at hlq
        exact absurd hlq.2.1 (by simp)
      have hne2 : q + 1 ≠ p := by
        intro e; subst e
        have := getD_ne l (by omega : q + 1 < l.length) false true
        rw [this, hlq.2.2] at hp
        exact absurd hp.2.1 (by simp)
      rw [swapAt_getD _ _ _ _ (by omega), swapAt_getD _ _ _ _ (by omega)]
      rw [if_neg hne, if_neg hne1, if_neg hne2, if_neg (by omega)]
      exact hmq)
    have hsw := mw_swap m p (by omega) hq.1 hq.2
    rw [List.foldl_cons, List.length_cons]
    omega

theorem mw_tick (l : List Bool) : mw 0 (tick l) + (pairs l).length = mw 0 l :=
  mw_fold l (pairs l) l rfl (pairs_nodup l) (fun _ h => mem_pairs h) (fun _ h => ⟨(mem_pairs h).2.1, (mem_pairs h).2.2⟩)

theorem mw_le (l : List Bool) : ∀ k, mw k l ≤ l.length * (k + l.length) := by
  induction l with
  | nil => intro k; simp [mw]
  | cons b t ih =>
    intro k
    have := ih (k + 1)
    simp only [mw, List.length_cons]
    have e : (t.length + 1) * (k + (t.length + 1)) = t.length * (k + 1 + t.length) + (k + (t.length + 1)) := by
      rw [Nat.add_mul, Nat.one_mul]
      congr 2
      omega
    rw [e]
    have : (if b then 0 else k) ≤ k := by split <;> omega
    omega

theorem mw_row (l : List Bool) (h : l.length ≤ 60) : mw 0 l ≤ 3600 := by
  have := mw_le l 0
  have h2 : l.length * (0 + l.length) ≤ 60 * 60 := Nat.mul_le_mul h (by omega)
  omega

theorem tick_lt (l : List Bool) (h : ¬ pairs l = []) : mw 0 (tick l) < mw 0 l := by
  have := mw_tick l
  have : 0 < (pairs l).length := List.length_pos_iff.2 h
  omega

def ticksOf (l : List Bool) : Nat := if _h : pairs l = [] then 0 else ticksOf (tick l) + 1
termination_by mw 0 l
decreasing_by exact tick_lt l _h
def restOf (l : List Bool) : List Bool := if _h : pairs l = [] then l else restOf (tick l)
termination_by mw 0 l
decreasing_by exact tick_lt l _h
def turnsOf (l : List Bool) (c : List Nat) : List Nat := if _h : pairs l = [] then c else turnsOf (tick l) ((pairs l).foldl bump c)
termination_by mw 0 l
decreasing_by exact tick_lt l _h
def countOf (l : List Bool) : Nat := if _h : pairs l = [] then 0 else (pairs l).length + countOf (tick l)
termination_by mw 0 l
decreasing_by exact tick_lt l _h
def afterOf : Nat → List Bool → List Bool
  | 0, l => l
  | k + 1, l => if pairs l = [] then l else afterOf k (tick l)

theorem ticksOf_le (l : List Bool) : ticksOf l ≤ mw 0 l := by
  induction h : mw 0 l using Nat.strongRecOn generalizing l with
  | _ n ih =>
    subst h
    rw [ticksOf]
    split
    · omega
    · next hp =>
      have h1 := tick_lt l hp
      have := ih _ h1 (tick l) rfl
      omega
theorem countOf_le (l : List Bool) : countOf l ≤ mw 0 l := by
  induction h : mw 0 l using Nat.strongRecOn generalizing l with
  | _ n ih =>
    subst h
    rw [countOf]
    split
    · omega
    · next hp =>
      have h1 := mw_tick l
      have := ih _ (tick_lt l hp) (tick l) rfl
      omega
theorem length_restOf (l : List Bool) : (restOf l).length = l.length := by
  induction h : mw 0 l using Nat.strongRecOn generalizing l with
  | _ n ih =>
    subst h
    rw [restOf]
    split
    · rfl
    · next hp => rw [ih _ (tick_lt l hp) (tick l) rfl]; simp
theorem length_turnsOf (l : List Bool) (c : List Nat) : (turnsOf l c).length = c.length := by
  induction h : mw 0 l using Nat.strongRecOn generalizing l c with
  | _ n ih =>
    subst h
    rw [turnsOf]
    split
    · rfl
    · next hp => rw [ih _ (tick_lt l hp) (tick l) _ rfl]; exact length_foldl_bump _ _

theorem sum_inc (c : List Nat) : ∀ i, i < c.length → (inc c i).sum = c.sum + 1 := by
  unfold inc
  induction c with
  | nil => intro i h; simp at h
  | cons a t ih =>
    intro i h
    cases i with
    | zero => simp; omega
    | succ i =>
      have := ih i (by simpa using h)
      simp at this ⊢
      omega
theorem sum_bump (c : List Nat) (i : Nat) (h : i + 1 < c.length) : (bump c i).sum = c.sum + 2 := by
  unfold bump
  rw [sum_inc _ _ (by simpa using h), sum_inc _ _ (by omega)]
theorem sum_fold (ps : List Nat) : ∀ c : List Nat, (∀ p ∈ ps, p + 1 < c.length) → (ps.foldl bump c).sum = c.sum + 2 * ps.length := by
  induction ps with
  | nil => intro c _; simp
  | cons p t ih =>
    intro c h
    rw [List.foldl_cons, ih _ (fun q hq => by simpa using h q (by simp [hq])), sum_bump _ _ (h p (by simp)), List.length_cons]
    omega
theorem sum_turnsOf (l : List Bool) (c : List Nat) (hc : c.length = l.length) : (turnsOf l c).sum = c.sum + 2 * countOf l := by
  induction h : mw 0 l using Nat.strongRecOn generalizing l c with
  | _ n ih =>
    subst h
    rw [turnsOf, countOf]
    split
    · omega
    · next hp =>
      rw [ih _ (tick_lt l hp) (tick l) _ (by rw [length_foldl_bump, hc]; simp) rfl, sum_fold _ _ (fun p h => by have := mem_pairs h; omega)]
      omega
theorem getD_le_sum (c : List Nat) : ∀ i, c.getD i 0 ≤ c.sum := by
  induction c with
  | nil => intro i; simp
  | cons a t ih =>
    intro i
    cases i with
    | zero => simp
    | succ i => have := ih i; simp at this ⊢; omega

end Rw
end Go.Proofs.Ytacchefmblfobaa
