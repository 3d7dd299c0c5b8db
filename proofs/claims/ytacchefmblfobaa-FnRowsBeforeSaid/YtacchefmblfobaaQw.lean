/- Plain facts for the composite law FnRowsRest: what its loops count, and all that holds of a good row. -/
import Derived.Test.YtacchefmblfobaaQu
import Derived.Test.YtacchefmblfobaaText
namespace Go.Proofs.Ytacchefmblfobaa
namespace Rw

/-- how many look to the right -/
def rt (l : List Bool) : Nat := l.count true
theorem ps_snoc : ∀ (l : List Bool) (r : Nat) (x : Bool), ps r (l ++ [x]) = ps r l ++ if x then [] else [r + rt l]
  | [], r, true => rfl
  | [], r, false => by simp [ps, rt]
  | true :: t, r, x => by
    have := ps_snoc t (r + 1) x
    simp only [List.cons_append, ps, this]
    congr 2
    simp only [rt, List.count_cons_self]
    cases x <;> simp <;> omega
  | false :: t, r, x => by
    have := ps_snoc t r x
    simp only [List.cons_append, ps, this, rt]
    simp
theorem ps_rt : ∀ (l : List Bool) (r : Nat), (ps r l).length + rt l = l.length
  | [], _ => rfl
  | true :: t, r => by have := ps_rt t (r + 1); simp only [ps, rt, List.count_cons_self, List.length_cons] at this ⊢; omega
  | false :: t, r => by have := ps_rt t r; simp only [ps, rt, List.length_cons] at this ⊢; simp; omega
theorem take_snoc (l : List Bool) (k : Nat) (hk : k < l.length) : l.take (k + 1) = l.take k ++ [l.getD k false] := by
  rw [List.take_succ_eq_append_getElem hk]; simp [List.getD_eq_getElem?_getD, hk]
/-- the crossed ones among the first k, and those who look right -/
def crTo (l : List Bool) (k : Nat) : Nat := (ps 0 (l.take k)).sum
def rtTo (l : List Bool) (k : Nat) : Nat := rt (l.take k)
theorem rtTo_zero (l : List Bool) : rtTo l 0 = 0 := rfl
theorem crTo_zero (l : List Bool) : crTo l 0 = 0 := rfl
theorem rtTo_yes (l : List Bool) (k : Nat) (hk : k < l.length) (h : l.getD k false = true) : rtTo l (k + 1) = rtTo l k + 1 ∧ crTo l (k + 1) = crTo l k := by
  unfold rtTo crTo
  rw [take_snoc l k hk, h, ps_snoc]
  simp [rt]
theorem rtTo_no (l : List Bool) (k : Nat) (hk : k < l.length) (h : l.getD k false = false) : rtTo l (k + 1) = rtTo l k ∧ crTo l (k + 1) = crTo l k + rtTo l k := by
  unfold rtTo crTo
  rw [take_snoc l k hk, h, ps_snoc]
  simp [rt]
theorem rtTo_le (l : List Bool) (k : Nat) : rtTo l k ≤ k := by
  unfold rtTo rt
  exact Nat.le_trans List.count_le_length (List.length_take_le k l)
theorem crTo_all (l : List Bool) : crTo l l.length = countOf l := by
  unfold crTo
  rw [List.take_length, count_is]
theorem crTo_le (l : List Bool) : ∀ k, k ≤ l.length → crTo l k ≤ k * k
  | 0, _ => Nat.le_refl _
  | k + 1, h => by
    have h1 := crTo_le l k (by omega)
    have h2 := rtTo_le l k
    have h3 : (k + 1) * (k + 1) = k * k + 2 * k + 1 := by rw [Nat.succ_mul, Nat.mul_succ]; omega
    rcases hb : l.getD k false with _ | _
    · have := (rtTo_no l k (by omega) hb).2; omega
    · have := (rtTo_yes l k (by omega) hb).2; omega
/-- the row at rest, from the left: c who look left, then the others -/
def goTo (c k : Nat) : List Bool := (List.range k).map fun i => decide (c ≤ i)
theorem goTo_zero (c : Nat) : goTo c 0 = [] := rfl
theorem goTo_succ (c k : Nat) : goTo c (k + 1) = goTo c k ++ [decide (c ≤ k)] := by simp [goTo, List.range_succ]
theorem length_goTo (c k : Nat) : (goTo c k).length = k := by simp [goTo]
theorem goTo_is (c n : Nat) (h : c ≤ n) : goTo c n = List.replicate c false ++ List.replicate (n - c) true := by
  apply List.ext_getElem
  · simp [goTo]; omega
  · intro i h1 h2
    simp only [goTo, List.getElem_map, List.getElem_range]
    by_cases hi : i < c
    · rw [List.getElem_append_left (by simpa using hi)]; simp; omega
    · rw [List.getElem_append_right (by simpa using hi)]; simp; omega
theorem goTo_rest (l : List Bool) : goTo (l.length - rtTo l l.length) l.length = restOf l := by
  have h := ps_rt l 0
  have e : rtTo l l.length = rt l := by unfold rtTo; rw [List.take_length]
  rw [e, show l.length - rt l = (ps 0 l).length by omega, goTo_is _ _ (by omega), ← rest_is]
theorem pairs_rise (l : List Bool) : (pairs l).Pairwise (· < ·) := by
  unfold pairs pairsTo
  exact List.Pairwise.filter _ List.pairwise_lt_range
theorem pairs_le (l : List Bool) : (pairs l).length ≤ l.length - 1 := pairsTo_le l (l.length - 1)
theorem count_row (l : List Bool) (h : l.length ≤ 60) : countOf l ≤ 3600 := Nat.le_trans (countOf_le l) (mw_row l h)
theorem ticks_row (l : List Bool) (h : l.length ≤ 60) : ticksOf l ≤ 3600 := Nat.le_trans (ticksOf_le l) (mw_row l h)
/-- at the pairs: what the tick shows -/
theorem tick_pair {l : List Bool} {p : Nat} (h : p ∈ pairs l) : (tick l).getD p false = false ∧ (tick l).getD (p + 1) false = true := by
  constructor
  · rw [tick_at, if_pos h]
  · have h1 := mem_pairs h
    have h2 : p + 1 ∉ pairs l := fun hh => by have := (mem_pairs hh).2.1; rw [getD_ne l h1.1 false true, h1.2.2] at this; cases this
    rw [tick_at, if_neg h2, if_pos ⟨by omega, by simpa using h⟩]
/-- who turns in a tick: the two of each pair -/
theorem tick_turns (l : List Bool) (j : Nat) (hj : j < l.length) : ((tick l).getD j false != l.getD j false) = (decide (j ∈ pairs l) || decide (1 ≤ j ∧ j - 1 ∈ pairs l)) := by
  rw [tick_at]
  by_cases h : j ∈ pairs l
  · have := mem_pairs h
    rw [if_pos h, this.2.1]; simp [h]
  · rw [if_neg h]
    by_cases h' : 1 ≤ j ∧ j - 1 ∈ pairs l
    · have := mem_pairs h'.2
      have e : j - 1 + 1 = j := by omega
      rw [e] at this
      rw [if_pos h', getD_ne l hj false true, this.2.2]; simp [h', h]
    · rw [if_neg h']; simp [h', h]
theorem tick_none {l : List Bool} (h : pairs l = []) : tick l = l := by unfold tick; rw [h]; rfl
theorem afterOf_succ (l : List Bool) : ∀ t, afterOf (t + 1) l = tick (afterOf t l) := by
  intro t
  induction t generalizing l with
  | zero =>
    by_cases h : pairs l = []
    · simp only [afterOf, if_pos h, tick_none h]
    · simp only [afterOf, if_neg h]
  | succ t ih =>
    by_cases h : pairs l = []
    · rw [afterOf, if_pos h, afterOf, if_pos h, tick_none h]
    · rw [afterOf, if_neg h, ih (tick l)]
      conv => rhs; rw [afterOf, if_neg h]
theorem length_afterOf (l : List Bool) : ∀ t, (afterOf t l).length = l.length := by
  intro t
  induction t with
  | zero => rfl
  | succ t ih => rw [afterOf_succ, tick_tk, length_tk, ih]
end Rw
end Go.Proofs.Ytacchefmblfobaa
