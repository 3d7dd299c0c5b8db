/- Rows come to rest within one tick less than they have soldiers. Plain. -/
import Derived.Test.YtacchefmblfobaaMath
namespace Go.Proofs.Ytacchefmblfobaa
namespace Rw

/-- a tick, from left to right -/
def tk : List Bool → List Bool
  | true :: false :: t => false :: true :: tk t
  | x :: t => x :: tk t
  | [] => []
theorem fold_at : ∀ (ps : List Nat) (m : List Bool) (j : Nat) (d : Bool), ps.Nodup → (∀ p ∈ ps, p + 1 < m.length ∧ p + 1 ∉ ps) →
    (ps.foldl swapAt m).getD j d = if j ∈ ps then false else if 1 ≤ j ∧ j - 1 ∈ ps then true else m.getD j d
  | [], m, j, d, _, _ => by simp
  | p :: t, m, j, d, hn, h => by
    rw [List.nodup_cons] at hn
    have hp := h p (by simp)
    rw [List.foldl_cons, fold_at t _ j d hn.2 (fun q hq => ⟨by rw [length_swapAt]; exact (h q (by simp [hq])).1, fun x => (h q (by simp [hq])).2 (by simp [x])⟩), swapAt_getD _ _ _ _ hp.1]
    have hp1 : p + 1 ∉ t := fun x => hp.2 (by simp [x])
    by_cases h1 : j = p
    · subst h1
      simp [hn.1]
      intro h2 h3
      exact absurd (by simp : j - 1 + 1 = j - 1 + 1) (fun _ => (h (j - 1) (by simp [h3])).2 (by rw [show j - 1 + 1 = j by omega]; simp))
    · by_cases h2 : j = p + 1
      · subst h2
        simp [hp1]
      · have e1 : (j ∈ p :: t) ↔ j ∈ t := by simp [h1]
        have e2 : (j - 1 ∈ p :: t ∧ 1 ≤ j) ↔ (j - 1 ∈ t ∧ 1 ≤ j) := by
          constructor
          · rintro ⟨x, y⟩
            rcases List.mem_cons.1 x with x | x
            · omega
            · exact ⟨x, y⟩
          · rintro ⟨x, y⟩; exact ⟨by simp [x], y⟩
        by_cases m1 : j ∈ t
        · rw [if_pos m1, if_pos (e1.2 m1)]
        · rw [if_neg m1, if_neg (fun x => m1 (e1.1 x))]
          by_cases m2 : 1 ≤ j ∧ j - 1 ∈ t
          · rw [if_pos m2, if_pos (let q := e2.2 ⟨m2.2, m2.1⟩; ⟨q.2, q.1⟩)]
          · rw [if_neg m2, if_neg h1, if_neg h2, if_neg (fun x => m2 (let q := e2.1 ⟨x.2, x.1⟩; ⟨q.2, q.1⟩))]
theorem mem_pairs_iff {l : List Bool} {p : Nat} : p ∈ pairs l ↔ p + 1 < l.length ∧ l.getD p false = true ∧ l.getD (p + 1) true = false := by
  refine ⟨mem_pairs, fun ⟨h1, h2, h3⟩ => ?_⟩
  unfold pairs pairsTo
  rw [List.mem_filter, List.mem_range]
  exact ⟨by omega, by unfold isPair; rw [h2, h3]; rfl⟩
theorem tick_at (l : List Bool) (j : Nat) (d : Bool) : (tick l).getD j d = if j ∈ pairs l then false else if 1 ≤ j ∧ j - 1 ∈ pairs l then true else l.getD j d := by
  refine fold_at _ _ _ _ (pairs_nodup l) (fun p hp => ⟨(mem_pairs hp).1, fun x => ?_⟩)
  have h1 := (mem_pairs hp).2.2
  have h2 := (mem_pairs x).2.1
  rw [getD_ne l (mem_pairs hp).1 false true, h1] at h2
  cases h2
theorem length_tk : ∀ l : List Bool, (tk l).length = l.length
  | true :: false :: t => by simp [tk, length_tk t]
  | [] => rfl
  | [x] => by cases x <;> rfl
  | true :: true :: t => by have := length_tk (true :: t); simp only [tk, List.length_cons] at this ⊢; omega
  | false :: y :: t => by have := length_tk (y :: t); simp only [tk, List.length_cons] at this ⊢; omega
/-- how many look to the right ahead of each who looks to the left -/
def ps (r : Nat) : List Bool → List Nat
  | [] => []
  | true :: t => ps (r + 1) t
  | false :: t => r :: ps r t
def stp (prev : Nat) : List Nat → List Nat
  | [] => []
  | p :: t => (if prev < p then p - 1 else p) :: stp p t
theorem ps_ge : ∀ (l : List Bool) (r p : Nat), p ∈ ps r l → r ≤ p
  | [], _, _, h => by simp [ps] at h
  | true :: t, r, p, h => by have := ps_ge t (r + 1) p h; omega
  | false :: t, r, p, h => by
    simp only [ps, List.mem_cons] at h
    rcases h with rfl | h
    · exact Nat.le_refl _
    · exact ps_ge t r p h
theorem stp_head {a b : Nat} : ∀ {l : List Nat}, (∀ p ∈ l, a < p ∧ b < p) → stp a l = stp b l
  | [], _ => rfl
  | p :: t, h => by
    have := h p (by simp)
    simp only [stp, if_pos this.1, if_pos this.2]
theorem ps_tk : ∀ (l : List Bool) (r : Nat), ps r (tk l) = stp r (ps r l)
  | [], _ => rfl
  | [true], _ => rfl
  | [false], r => by simp [tk, ps, stp]
  | true :: false :: t, r => by simp [tk, ps, stp, ps_tk t (r + 1)]
  | true :: true :: t, r => by
    have h := ps_tk (true :: t) (r + 1)
    simp only [tk, ps] at h ⊢
    rw [h]
    exact stp_head (fun p hp => by have := ps_ge t (r + 1 + 1) p hp; omega)
  | false :: y :: t, r => by
    have h := ps_tk (y :: t) r
    simp only [tk, ps, stp, if_neg (Nat.lt_irrefl r)]
    rw [h]
theorem stp_bd : ∀ (l : List Nat) (prev c T : Nat), 1 ≤ c → prev ≤ c - 1 - T → (∀ i, i < l.length → l.getD i 0 ≤ c + i - T) → ∀ i, i < (stp prev l).length → (stp prev l).getD i 0 ≤ c + i - (T + 1)
  | [], _, _, _, _, _, _, i, hi => by simp [stp] at hi
  | p :: t, prev, c, T, hc, hp, h, i, hi => by
    have h0 : p ≤ c - T := by have := h 0 (by simp); simpa using this
    match i with
    | 0 =>
      simp only [stp, List.getD_cons_zero]
      split <;> omega
    | i + 1 =>
      have ih := stp_bd t p (c + 1) T (by omega) (by omega) (fun k hk => by have := h (k + 1) (by simpa using hk); simp only [List.getD_cons_succ] at this; omega) i (by simpa [stp] using hi)
      simp only [stp, List.getD_cons_succ]
      omega
theorem ps_pair : ∀ (l : List Bool) (r i : Nat), i + 1 < l.length → l.getD i false = true → l.getD (i + 1) true = false → ∃ p ∈ ps r l, r < p
  | [], _, _, h, _, _ => by simp at h
  | [x], _, _, h, _, _ => by simp at h
  | x :: y :: t, r, 0, _, h1, h2 => by
    simp at h1 h2
    subst h1 h2
    exact ⟨r + 1, by simp [ps], by omega⟩
  | x :: y :: t, r, i + 1, h, h1, h2 => by
    simp only [List.getD_cons_succ, List.length_cons] at h1 h2 h
    cases x
    · obtain ⟨p, hp, hr⟩ := ps_pair (y :: t) r i (by simp; omega) h1 h2
      exact ⟨p, by simp only [ps, List.mem_cons]; exact .inr hp, hr⟩
    · obtain ⟨p, hp, hr⟩ := ps_pair (y :: t) (r + 1) i (by simp; omega) h1 h2
      exact ⟨p, hp, by omega⟩
theorem ps_le : ∀ (l : List Bool) (r p : Nat), p ∈ ps r l → p + (ps r l).length ≤ r + l.length
  | [], _, _, h => by simp [ps] at h
  | true :: t, r, p, h => by have := ps_le t (r + 1) p h; simp only [ps, List.length_cons]; omega
  | false :: t, r, p, h => by
    simp only [ps, List.mem_cons, List.length_cons] at h ⊢
    rcases h with rfl | h
    · have : (ps p t).length ≤ t.length := by
        have key : ∀ (t : List Bool) (r : Nat), (ps r t).length ≤ t.length := by
          intro t
          induction t with
          | nil => intro r; exact Nat.le_refl _
          | cons b t ih => intro r; cases b <;> simp only [ps, List.length_cons] <;> have := ih r <;> have := ih (r + 1) <;> omega
        exact key t p
      omega
    · have := ps_le t r p h; omega
theorem tk_zero (x : Bool) (t : List Bool) (h : ¬ (x = true ∧ t.head? = some false)) : tk (x :: t) = x :: tk t := by
  match x, t, h with
  | true, false :: t, h => simp at h
  | true, true :: t, _ => rfl
  | true, [], _ => rfl
  | false, [], _ => rfl
  | false, y :: t, _ => rfl
/-- what tk does, place by place -/
theorem tk_at : ∀ (l : List Bool) (j : Nat) (d : Bool), (tk l).getD j d = if l.getD j false = true ∧ l.getD (j + 1) true = false then false else if 1 ≤ j ∧ l.getD (j - 1) false = true ∧ l.getD j true = false then true else l.getD j d
  | [], j, d => by simp [tk]
  | [x], j, d => by
    cases x <;> rcases j with _ | _ | j <;> simp [tk]
  | true :: false :: t, j, d => by
    rcases j with _ | _ | j
    · simp [tk]
    · simp [tk]
    · have ih := tk_at t j d
      simp only [tk, List.getD_cons_succ]
      rw [ih]
      rcases j with _ | j
      · simp
      · simp
  | true :: true :: t, j, d => by
    have ih := tk_at (true :: t) 
    rcases j with _ | j
    · simp [tk]
    · simp only [tk, List.getD_cons_succ]
      rw [ih j d]
      rcases j with _ | j
      · simp
      · simp
  | false :: y :: t, j, d => by
    have ih := tk_at (y :: t)
    rcases j with _ | j
    · simp [tk]
    · simp only [tk, List.getD_cons_succ]
      rw [ih j d]
      rcases j with _ | j
      · simp
      · simp
theorem tick_tk (l : List Bool) : tick l = tk l := by
  refine List.ext_getElem (by rw [length_tick, length_tk]) fun j h1 h2 => ?_
  have hj : j < l.length := by rw [length_tick] at h1; exact h1
  have a := tick_at l j false
  have b := tk_at l j false
  have e1 : (tick l).getD j false = (tick l)[j] := by rw [List.getD_eq_getElem?_getD, List.getElem?_eq_getElem h1]; rfl
  have e2 : (tk l).getD j false = (tk l)[j] := by rw [List.getD_eq_getElem?_getD, List.getElem?_eq_getElem h2]; rfl
  rw [← e1, ← e2, a, b]
  have p1 : j ∈ pairs l ↔ l.getD j false = true ∧ l.getD (j + 1) true = false := by
    rw [mem_pairs_iff]
    refine ⟨fun h => h.2, fun h => ⟨?_, h⟩⟩
    rcases Nat.lt_or_ge (j + 1) l.length with q | q
    · exact q
    · have := h.2; rw [List.getD_eq_getElem?_getD, List.getElem?_eq_none q] at this; cases this
  have p2 : (1 ≤ j ∧ j - 1 ∈ pairs l) ↔ (1 ≤ j ∧ l.getD (j - 1) false = true ∧ l.getD j true = false) := by
    constructor
    · rintro ⟨q, h⟩
      have := mem_pairs_iff.1 h
      rw [show j - 1 + 1 = j by omega] at this
      exact ⟨q, this.2⟩
    · rintro ⟨q, h⟩
      exact ⟨q, mem_pairs_iff.2 ⟨by omega, h.1, by rw [show j - 1 + 1 = j by omega]; exact h.2⟩⟩
  by_cases c1 : j ∈ pairs l
  · rw [if_pos c1, if_pos (p1.1 c1)]
  · rw [if_neg c1, if_neg (fun x => c1 (p1.2 x))]
    by_cases c2 : 1 ≤ j ∧ j - 1 ∈ pairs l
    · rw [if_pos c2, if_pos (p2.1 c2)]
    · rw [if_neg c2, if_neg (fun x => c2 (p2.2 x))]
theorem ticks_bd : ∀ (n : Nat) (l : List Bool) (R T : Nat), ticksOf l ≤ n → 1 ≤ R → (∀ i, i < (ps 0 l).length → (ps 0 l).getD i 0 ≤ R + i - T) → ticksOf l ≤ R + (ps 0 l).length - 1 - T
  | n, l, R, T, hn, hR, h => by
    by_cases hp : pairs l = []
    · rw [ticksOf, dif_pos hp]; omega
    · have ht : ticksOf l = ticksOf (tick l) + 1 := by rw [ticksOf, dif_neg hp]
      -- somebody has still a way to go
      obtain ⟨i, hi⟩ := List.exists_mem_of_ne_nil _ hp
      have hm := mem_pairs hi
      obtain ⟨p, hpm, hp0⟩ := ps_pair l 0 i hm.1 hm.2.1 hm.2.2
      obtain ⟨k, hk, rfl⟩ := List.getElem_of_mem hpm
      have hkb := h k hk
      rw [List.getD_eq_getElem?_getD, List.getElem?_eq_getElem hk] at hkb
      simp only [Option.getD_some] at hkb
      have hst : ps 0 (tick l) = stp 0 (ps 0 l) := by rw [tick_tk]; exact ps_tk l 0
      have hlen : (stp 0 (ps 0 l)).length = (ps 0 l).length := by
        have key : ∀ (xs : List Nat) (a : Nat), (stp a xs).length = xs.length := by
          intro xs
          induction xs with
          | nil => intro a; rfl
          | cons x t ih => intro a; simp only [stp, List.length_cons, ih]
        exact key _ _
      match n, hn with
      | 0, hn => omega
      | n + 1, hn =>
        have ih := ticks_bd n (tick l) R (T + 1) (by omega) hR (by rw [hst]; exact stp_bd _ 0 R T hR (by omega) h)
        rw [hst, hlen] at ih
        omega
/-- at rest within one tick less than there are soldiers -/
theorem ticks_lt (l : List Bool) (h : 1 ≤ l.length) : ticksOf l ≤ l.length - 1 := by
  rcases Nat.eq_zero_or_pos (ps 0 l).length with h0 | h0
  · have : pairs l = [] := by
      rcases hp : pairs l with _ | ⟨i, t⟩
      · rfl
      · have hm := mem_pairs (show i ∈ pairs l by rw [hp]; simp)
        obtain ⟨p, hpm, _⟩ := ps_pair l 0 i hm.1 hm.2.1 hm.2.2
        rw [List.length_eq_zero_iff.1 h0] at hpm
        cases hpm
    rw [ticksOf, dif_pos this]; omega
  · have hb : ∀ p ∈ ps 0 l, p + (ps 0 l).length ≤ l.length := fun p hp => by have := ps_le l 0 p hp; omega
    have hl : (ps 0 l).length ≤ l.length := by
      have := hb _ (List.getElem_mem h0); omega
    by_cases hR : (ps 0 l).length = l.length
    · -- all look to the left
      have := ticks_bd _ l 1 1 (Nat.le_refl _) (Nat.le_refl _) (fun i hi => by
        have := hb _ (List.getElem_mem hi)
        rw [List.getD_eq_getElem?_getD, List.getElem?_eq_getElem hi]
        simp only [Option.getD_some]; omega)
      omega
    · have := ticks_bd _ l (l.length - (ps 0 l).length) 0 (Nat.le_refl _) (by omega) (fun i hi => by
        have := hb _ (List.getElem_mem hi)
        rw [List.getD_eq_getElem?_getD, List.getElem?_eq_getElem hi]
        simp only [Option.getD_some]; omega)
      omega
end Rw
end Go.Proofs.Ytacchefmblfobaa
