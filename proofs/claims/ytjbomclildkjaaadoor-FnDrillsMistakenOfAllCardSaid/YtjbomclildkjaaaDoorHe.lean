/- Chapter 2: plain facts on heights. Nothing of the program. -/
import Derived.WalkKit
namespace Go.Proofs.YtjbomclildkjaaaDoor
namespace He

/-- the greatest of the first j heights (0 if there is none) -/
def mostTo (hs : List Nat) : Nat → Nat
  | 0 => 0
  | j + 1 => max (mostTo hs j) (hs.getD j 0)
def seenTo (hs : List Nat) (j : Nat) : List Nat := (List.range j).filter fun i => decide (mostTo hs i < hs.getD i 0)
def seen (hs : List Nat) : List Nat := seenTo hs hs.length
theorem filter_yes (p : Nat → Bool) (j : Nat) (h : p j = true) : (List.range (j + 1)).filter p = (List.range j).filter p ++ [j] := by
  rw [List.range_succ, List.filter_append]; congr 1; simp [h]
theorem filter_no (p : Nat → Bool) (j : Nat) (h : p j = false) : (List.range (j + 1)).filter p = (List.range j).filter p := by
  rw [List.range_succ, List.filter_append]; simp [h]
theorem seenTo_yes (hs : List Nat) (j : Nat) (h : mostTo hs j < hs.getD j 0) : seenTo hs (j + 1) = seenTo hs j ++ [j] := filter_yes _ j (decide_eq_true h)
theorem seenTo_no (hs : List Nat) (j : Nat) (h : ¬ mostTo hs j < hs.getD j 0) : seenTo hs (j + 1) = seenTo hs j := filter_no _ j (decide_eq_false h)
theorem seenTo_len (hs : List Nat) (j : Nat) : (seenTo hs j).length ≤ j := by
  unfold seenTo
  have := List.length_filter_le (fun i => decide (mostTo hs i < hs.getD i 0)) (List.range j)
  simpa using this
theorem mostTo_le (hs : List Nat) (b : Nat) (h : ∀ x ∈ hs, x ≤ b) : ∀ j, mostTo hs j ≤ b
  | 0 => Nat.zero_le _
  | j + 1 => by
    have h1 := mostTo_le hs b h j
    have h2 : hs.getD j 0 ≤ b := by
      by_cases hj : j < hs.length
      · simp only [List.getD_eq_getElem?_getD, List.getElem?_eq_getElem hj, Option.getD_some]; exact h _ (List.getElem_mem hj)
      · simp only [List.getD_eq_getElem?_getD, List.getElem?_eq_none (by omega : hs.length ≤ j), Option.getD_none]; omega
    rw [mostTo]; omega

/-- from its end on, the last j -/
def backTo {α : Type} (l : List α) (k : Nat) : List α := (l.drop k).reverse
theorem backTo_all {α : Type} (l : List α) : backTo l l.length = [] := by simp [backTo]
theorem backTo_succ {α : Type} (d : α) (l : List α) (k : Nat) (hk : k < l.length) : backTo l k = backTo l (k + 1) ++ [l.getD k d] := by
  unfold backTo
  rw [List.drop_eq_getElem_cons hk, List.reverse_cons]; simp [List.getD_eq_getElem?_getD, hk]
theorem length_backTo {α : Type} (l : List α) (k : Nat) : (backTo l k).length = l.length - k := by simp [backTo]

/-- the first j of a list, each told by f -/
def mapTo {α β : Type} (f : α → β) (l : List α) (j : Nat) : List β := (l.take j).map f
theorem mapTo_succ {α β : Type} (d : α) (f : α → β) (l : List α) (j : Nat) (hj : j < l.length) : mapTo f l (j + 1) = mapTo f l j ++ [f (l.getD j d)] := by
  unfold mapTo
  rw [List.take_succ_eq_append_getElem hj, List.map_append]; simp [List.getD_eq_getElem?_getD, hj]
theorem mapTo_all {α β : Type} (f : α → β) (l : List α) : mapTo f l l.length = l.map f := by simp [mapTo]
theorem length_mapTo {α β : Type} (f : α → β) (l : List α) (j : Nat) : (mapTo f l j).length ≤ j := by simp [mapTo]; omega

/-- the nearest taller one on the right of i, below j -/
def nextTo (hs : List Nat) (i : Nat) : Nat → Int
  | 0 => -1
  | j + 1 => if nextTo hs i j < 0 then (if i < j ∧ hs.getD i 0 < hs.getD j 0 then (j : Int) else -1) else nextTo hs i j
theorem nextTo_start (hs : List Nat) (i : Nat) : ∀ j, j ≤ i + 1 → nextTo hs i j = -1
  | 0, _ => rfl
  | j + 1, h => by
    rw [nextTo, nextTo_start hs i j (by omega), if_pos (by omega), if_neg (by omega)]
theorem nextTo_stay (hs : List Nat) (i : Nat) : ∀ n j, j ≤ n → 0 ≤ nextTo hs i j → nextTo hs i n = nextTo hs i j
  | 0, j, h, _ => by rw [show j = 0 from by omega]
  | n + 1, j, h, hp => by
    by_cases e : j = n + 1
    · rw [e]
    · have := nextTo_stay hs i n j (by omega) hp
      rw [nextTo, this, if_neg (by omega)]
theorem nextTo_bd (hs : List Nat) (i : Nat) : ∀ j, nextTo hs i j = -1 ∨ (0 ≤ nextTo hs i j ∧ nextTo hs i j < j)
  | 0 => .inl rfl
  | j + 1 => by
    rw [nextTo]
    rcases nextTo_bd hs i j with h | h
    · rw [h, if_pos (by omega)]
      split
      · right; omega
      · left; rfl
    · rw [if_neg (by omega)]; right; omega
theorem nextTo_yes (hs : List Nat) (i j : Nat) (h : nextTo hs i j < 0) (hij : i < j) (hx : hs.getD i 0 < hs.getD j 0) : nextTo hs i (j + 1) = (j : Int) := by rw [nextTo, if_pos h, if_pos ⟨hij, hx⟩]
theorem nextTo_no (hs : List Nat) (i j : Nat) (h : nextTo hs i j < 0) (hx : ¬ hs.getD i 0 < hs.getD j 0) : nextTo hs i (j + 1) = nextTo hs i j := by
  rw [nextTo, if_pos h, if_neg (fun e => hx e.2)]
  rcases nextTo_bd hs i j with h1 | h1 <;> omega

/-- how many of the first j come before soldier i -/
def isBefore (hs : List Nat) (i j : Nat) : Bool := decide (hs.getD j 0 < hs.getD i 0) || (decide (hs.getD j 0 = hs.getD i 0) && decide (j < i))
def rankTo (hs : List Nat) (i : Nat) : Nat → Nat
  | 0 => 0
  | j + 1 => rankTo hs i j + (if isBefore hs i j then 1 else 0)
theorem rankTo_le (hs : List Nat) (i : Nat) : ∀ j, rankTo hs i j ≤ j
  | 0 => Nat.le_refl _
  | j + 1 => by have := rankTo_le hs i j; rw [rankTo]; split <;> omega

end He
end Go.Proofs.YtjbomclildkjaaaDoor
