/- Chapter 4: in how many ways a word is done with mistakes: plain facts. -/
import Derived.Test.YtjbomclildkjaaaDoorDr
namespace Go.Proofs.YtjbomclildkjaaaDoor
namespace Dr

/-- of those, how many end with the command did -/
def pull (f : Nat → Nat → Nat) (c m t did : Nat) : Nat := if did = c then f m ((t + 4 - did) % 4) else match m with | 0 => 0 | m + 1 => f m ((t + 4 - did) % 4)
/-- in how many ways the first k commands are done with m mistakes, so that all together turns by t -/
def waysTo (ts : List Nat) : Nat → Nat → Nat → Nat
  | 0, m, t => if m = 0 ∧ t = 0 then 1 else 0
  | k + 1, m, t => pull (waysTo ts k) (ts.getD k 0) m t 0 + pull (waysTo ts k) (ts.getD k 0) m t 1 + pull (waysTo ts k) (ts.getD k 0) m t 2 + pull (waysTo ts k) (ts.getD k 0) m t 3
theorem pull_none {f : Nat → Nat → Nat} {k : Nat} (h : ∀ m t, k < m → f m t = 0) (c m t d : Nat) (hm : k + 1 < m) : pull f c m t d = 0 := by
  unfold pull
  split
  · exact h m _ (by omega)
  · match m with
    | 0 => rfl
    | m + 1 => exact h m _ (by omega)
theorem waysTo_none (ts : List Nat) : ∀ k m t, k < m → waysTo ts k m t = 0
  | 0, m, t, h => by rw [waysTo, if_neg (by omega)]
  | k + 1, m, t, h => by
    have ih := waysTo_none ts k
    rw [waysTo, pull_none ih _ _ _ _ h, pull_none ih _ _ _ _ h, pull_none ih _ _ _ _ h, pull_none ih _ _ _ _ h]
/-- where the command s % 4 leads from the place s / 4, if c is told -/
def target (c s : Nat) : Nat := 4 * (s / 4 / 4 + if s % 4 = c then 0 else 1) + (s / 4 + s % 4) % 4
/-- what the first s pairs of a place and a command bring to a place -/
def pushTo (f : Nat → Nat) (c : Nat) : Nat → Nat → Nat
  | 0, _ => 0
  | s + 1, to => pushTo f c s to + if target c s = to then f (s / 4) else 0
/-- what one command alone brings -/
def oneTo (f : Nat → Nat) (c to d : Nat) : Nat → Nat
  | 0 => 0
  | n + 1 => oneTo f c to d n + if n % 4 = d then (if target c n = to then f (n / 4) else 0) else 0
theorem push_split (f : Nat → Nat) (c to : Nat) : ∀ n, pushTo f c n to = oneTo f c to 0 n + oneTo f c to 1 n + oneTo f c to 2 n + oneTo f c to 3 n
  | 0 => rfl
  | n + 1 => by
    have ih := push_split f c to n
    have h : n % 4 = 0 ∨ n % 4 = 1 ∨ n % 4 = 2 ∨ n % 4 = 3 := by omega
    rw [pushTo, oneTo, oneTo, oneTo, oneTo]
    rcases h with h | h | h | h <;> rw [h] <;> simp <;> omega
theorem one_zero (f : Nat → Nat) (c to d : Nat) (h : ∀ n, n % 4 = d → target c n ≠ to) : ∀ n, oneTo f c to d n = 0
  | 0 => rfl
  | n + 1 => by
    rw [oneTo, one_zero f c to d h n]
    by_cases hd : n % 4 = d
    · rw [if_pos hd, if_neg (h n hd)]
    · rw [if_neg hd]
theorem one_at (f : Nat → Nat) (c to d s0 : Nat) (hd : s0 % 4 = d) (ht : target c s0 = to) (h : ∀ n, n % 4 = d → target c n = to → n = s0) : ∀ n, oneTo f c to d n = if s0 < n then f (s0 / 4) else 0
  | 0 => by rw [if_neg (by omega)]; rfl
  | n + 1 => by
    rw [oneTo, one_at f c to d s0 hd ht h n]
    by_cases e : n = s0
    · subst e
      rw [if_neg (by omega), if_pos hd, if_pos ht, if_pos (by omega), Nat.zero_add]
    · have : ¬ (n % 4 = d ∧ target c n = to) := fun hh => e (h n hh.1 hh.2)
      by_cases h1 : n % 4 = d
      · rw [if_pos h1, if_neg (fun h2 => this ⟨h1, h2⟩), Nat.add_zero]
        by_cases h3 : s0 < n
        · rw [if_pos h3, if_pos (by omega)]
        · rw [if_neg h3, if_neg (by omega)]
      · rw [if_neg h1, Nat.add_zero]
        by_cases h3 : s0 < n
        · rw [if_pos h3, if_pos (by omega)]
        · rw [if_neg h3, if_neg (by omega)]
theorem target_of (c a d : Nat) (hd : d < 4) : target c (4 * a + d) = 4 * (a / 4 + if d = c then 0 else 1) + (a + d) % 4 := by
  unfold target
  rw [show (4 * a + d) / 4 = a by omega, show (4 * a + d) % 4 = d by omega]
theorem one_pull (g : Nat → Nat → Nat) (c m t d n : Nat) (hd : d < 4) (ht : t < 4) (hn : 4 * (m + 1) ≤ n) : oneTo (fun a => g (a / 4) (a % 4)) c (4 * m + t) d (4 * n) = pull g c m t d := by
  by_cases hc : d = c
  · have h1 := one_at (fun a => g (a / 4) (a % 4)) c (4 * m + t) d (4 * (4 * m + (t + 4 - d) % 4) + d) (by omega) (by rw [target_of _ _ _ hd, if_pos hc]; omega) (fun s hs hts => by
      obtain ⟨a, rfl⟩ : ∃ a, s = 4 * a + d := ⟨s / 4, by omega⟩
      rw [target_of _ _ _ hd, if_pos hc] at hts
      omega) (4 * n)
    rw [h1, if_pos (by omega)]
    unfold pull
    rw [if_pos hc, show (4 * (4 * m + (t + 4 - d) % 4) + d) / 4 = 4 * m + (t + 4 - d) % 4 by omega]
    try simp only
    rw [show (4 * m + (t + 4 - d) % 4) / 4 = m by omega, show (4 * m + (t + 4 - d) % 4) % 4 = (t + 4 - d) % 4 by omega]
  · unfold pull
    rw [if_neg hc]
    match m with
    | 0 =>
      refine one_zero _ _ _ _ (fun s hs hts => ?_) _
      obtain ⟨a, rfl⟩ : ∃ a, s = 4 * a + d := ⟨s / 4, by omega⟩
      rw [target_of _ _ _ hd, if_neg hc] at hts
      omega
    | m + 1 =>
      have h1 := one_at (fun a => g (a / 4) (a % 4)) c (4 * (m + 1) + t) d (4 * (4 * m + (t + 4 - d) % 4) + d) (by omega) (by rw [target_of _ _ _ hd, if_neg hc]; omega) (fun s hs hts => by
        obtain ⟨a, rfl⟩ : ∃ a, s = 4 * a + d := ⟨s / 4, by omega⟩
        rw [target_of _ _ _ hd, if_neg hc] at hts
        omega) (4 * n)
      rw [h1, if_pos (by omega)]
      rw [show (4 * (4 * m + (t + 4 - d) % 4) + d) / 4 = 4 * m + (t + 4 - d) % 4 by omega]
      try simp only
      rw [show (4 * m + (t + 4 - d) % 4) / 4 = m by omega, show (4 * m + (t + 4 - d) % 4) % 4 = (t + 4 - d) % 4 by omega]
/-- place by place, four to a number of mistakes -/
def waysA (ts : List Nat) (k a : Nat) : Nat := waysTo ts k (a / 4) (a % 4)
theorem push_all (ts : List Nat) (k n a : Nat) (hn : 4 * (a / 4 + 1) ≤ n) : pushTo (waysA ts k) (ts.getD k 0) (4 * n) a = waysA ts (k + 1) a := by
  have e : a = 4 * (a / 4) + a % 4 := by omega
  have h4 : a % 4 < 4 := by omega
  show pushTo (fun b => waysTo ts k (b / 4) (b % 4)) _ _ _ = waysTo ts (k + 1) (a / 4) (a % 4)
  rw [push_split, waysTo]
  generalize a / 4 = m at *
  generalize a % 4 = t at *
  subst e
  rw [one_pull _ _ _ _ _ _ (by omega) h4 hn, one_pull _ _ _ _ _ _ (by omega) h4 hn, one_pull _ _ _ _ _ _ (by omega) h4 hn, one_pull _ _ _ _ _ _ (by omega) h4 hn]
/-- no more than C -/
theorem cap_add (a b C : Nat) : min (min a C + min b C) C = min (a + b) C := by omega

end Dr
end Go.Proofs.YtjbomclildkjaaaDoor
