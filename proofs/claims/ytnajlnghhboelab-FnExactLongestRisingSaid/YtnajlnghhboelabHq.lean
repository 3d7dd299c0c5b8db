/- Chapter 2: plain facts on ranks, disorder, windows, chains. Nothing of the program. -/
import Derived.Test.YtnajlnghhboelabHe
namespace Go.Proofs.Ytnajlnghhboelab
namespace He

theorem getD_drop {α : Type} (d : α) (l : List α) (k j : Nat) : (l.drop k).getD j d = l.getD (k + j) d := by simp [List.getD_eq_getElem?_getD]
theorem getD_take {α : Type} (d : α) (l : List α) (k j : Nat) (h : j < k) : (l.take k).getD j d = l.getD j d := by simp [List.getD_eq_getElem?_getD, h]

/-- how many of the first j are taller than soldier k -/
def tallTo (hs : List Nat) (k : Nat) : Nat → Nat
  | 0 => 0
  | j + 1 => tallTo hs k j + (if hs.getD k 0 < hs.getD j 0 then 1 else 0)
theorem tallTo_le (hs : List Nat) (k : Nat) : ∀ j, tallTo hs k j ≤ j
  | 0 => Nat.le_refl _
  | j + 1 => by have := tallTo_le hs k j; rw [tallTo]; split <;> omega
theorem tallTo_yes (hs : List Nat) (k j : Nat) (h : hs.getD k 0 < hs.getD j 0) : tallTo hs k (j + 1) = tallTo hs k j + 1 := by rw [tallTo, if_pos h]
theorem tallTo_no (hs : List Nat) (k j : Nat) (h : ¬ hs.getD k 0 < hs.getD j 0) : tallTo hs k (j + 1) = tallTo hs k j := by rw [tallTo, if_neg h, Nat.add_zero]
theorem rank_tall (hs : List Nat) (k : Nat) : ∀ j, j ≤ k → rankTo hs k j + tallTo hs k j = j
  | 0, _ => rfl
  | j + 1, h => by
    have := rank_tall hs k j (by omega)
    rw [rankTo, tallTo]
    by_cases e : hs.getD k 0 < hs.getD j 0
    · rw [if_pos e, if_neg (by unfold isBefore; simp only [Bool.or_eq_true, Bool.and_eq_true, decide_eq_true_eq]; omega)]; omega
    · rw [if_neg e, if_pos (by unfold isBefore; simp only [Bool.or_eq_true, Bool.and_eq_true, decide_eq_true_eq]; omega)]; omega
theorem rank_yes (hs : List Nat) (k j : Nat) (h : hs.getD j 0 < hs.getD k 0) : rankTo hs k (j + 1) = rankTo hs k j + 1 := by
  rw [rankTo, if_pos (by unfold isBefore; simp only [Bool.or_eq_true, Bool.and_eq_true, decide_eq_true_eq]; omega)]
theorem rank_eq (hs : List Nat) (k j : Nat) (h : hs.getD j 0 = hs.getD k 0) (hj : j < k) : rankTo hs k (j + 1) = rankTo hs k j + 1 := by
  rw [rankTo, if_pos (by unfold isBefore; simp only [Bool.or_eq_true, Bool.and_eq_true, decide_eq_true_eq]; omega)]
theorem rank_no (hs : List Nat) (k j : Nat) (h : ¬ hs.getD j 0 < hs.getD k 0) (hj : k ≤ j ∨ hs.getD j 0 ≠ hs.getD k 0) : rankTo hs k (j + 1) = rankTo hs k j := by
  rw [rankTo, if_neg (by unfold isBefore; simp only [Bool.or_eq_true, Bool.and_eq_true, decide_eq_true_eq]; omega), Nat.add_zero]

/-- how many of those from i + 1 up to j - 1 are shorter than i -/
def lessTo (hs : List Nat) (i : Nat) : Nat → Nat
  | 0 => 0
  | j + 1 => lessTo hs i j + (if i < j ∧ hs.getD j 0 < hs.getD i 0 then 1 else 0)
theorem lessTo_le (hs : List Nat) (i : Nat) : ∀ j, lessTo hs i j ≤ j
  | 0 => Nat.le_refl _
  | j + 1 => by have := lessTo_le hs i j; rw [lessTo]; split <;> omega
theorem lessTo_start (hs : List Nat) (i : Nat) : ∀ j, j ≤ i + 1 → lessTo hs i j = 0
  | 0, _ => rfl
  | j + 1, h => by rw [lessTo, lessTo_start hs i j (by omega), if_neg (by omega)]
theorem lessTo_yes (hs : List Nat) (i j : Nat) (hij : i < j) (h : hs.getD j 0 < hs.getD i 0) : lessTo hs i (j + 1) = lessTo hs i j + 1 := by rw [lessTo, if_pos ⟨hij, h⟩]
theorem lessTo_no (hs : List Nat) (i j : Nat) (h : ¬ hs.getD j 0 < hs.getD i 0) : lessTo hs i (j + 1) = lessTo hs i j := by rw [lessTo, if_neg (fun e => h e.2), Nat.add_zero]
/-- the pairs of which the left one is below m -/
def pairsTo (hs : List Nat) (n : Nat) : Nat → Nat
  | 0 => 0
  | m + 1 => pairsTo hs n m + lessTo hs m n
def sumTo (hs : List Nat) : Nat → Nat
  | 0 => 0
  | k + 1 => sumTo hs k + tallTo hs k k
theorem pairs_step (hs : List Nat) (n : Nat) : ∀ m, m ≤ n → pairsTo hs (n + 1) m = pairsTo hs n m + tallTo hs n m
  | 0, _ => rfl
  | m + 1, h => by
    rw [pairsTo, pairsTo, tallTo, pairs_step hs n m (by omega), lessTo]
    by_cases e : hs.getD n 0 < hs.getD m 0
    · rw [if_pos ⟨by omega, e⟩, if_pos e]; omega
    · rw [if_neg (fun x => e x.2), if_neg e]; omega
theorem pairs_sum (hs : List Nat) : ∀ n, pairsTo hs n n = sumTo hs n
  | 0 => rfl
  | n + 1 => by
    rw [pairsTo, sumTo, pairs_step hs n n (Nat.le_refl _), pairs_sum hs n, lessTo, lessTo_start hs n n (by omega), if_neg (by omega)]
    omega
theorem sumTo_le (hs : List Nat) : ∀ n, sumTo hs n ≤ n * n
  | 0 => Nat.le_refl _
  | n + 1 => by
    have := sumTo_le hs n; have := tallTo_le hs n n
    rw [sumTo, Nat.add_mul, Nat.mul_add]; omega
theorem pairsTo_le (hs : List Nat) (n : Nat) : ∀ m, pairsTo hs n m ≤ m * n
  | 0 => by rw [pairsTo]; omega
  | m + 1 => by
    have := pairsTo_le hs n m; have := lessTo_le hs m n
    rw [pairsTo, Nat.add_mul]; omega

/-- the greatest of k, .., k + width - 1 -/
def most (l : List Nat) : Nat := mostTo l l.length
def win (hs : List Nat) (width k : Nat) : List Nat := (hs.drop k).take width
theorem getD_win (hs : List Nat) (width k j : Nat) (h : j < width) : (win hs width k).getD j 0 = hs.getD (k + j) 0 := by
  unfold win; rw [getD_take _ _ _ _ h, getD_drop]
theorem length_win (hs : List Nat) (width k : Nat) (h : k + width ≤ hs.length) : (win hs width k).length = width := by unfold win; simp; omega

/-- for each how many at most stand in a chain from this one on, p telling who can come next -/
def bestTo (p : Nat → Nat → Bool) (x : Nat) (t c : List Nat) : Nat → Nat
  | 0 => 0
  | j + 1 => if p x (t.getD j 0) then max (bestTo p x t c j) (c.getD j 0) else bestTo p x t c j
def ch (p : Nat → Nat → Bool) : List Nat → List Nat
  | [] => []
  | x :: t => (1 + bestTo p x t (ch p t) t.length) :: ch p t
theorem length_ch (p : Nat → Nat → Bool) : ∀ l, (ch p l).length = l.length
  | [] => rfl
  | x :: t => by rw [ch, List.length_cons, List.length_cons, length_ch p t]
theorem drop_ch (p : Nat → Nat → Bool) : ∀ l k, (ch p l).drop k = ch p (l.drop k)
  | [], k => by simp [ch]
  | x :: t, 0 => rfl
  | x :: t, k + 1 => by rw [ch, List.drop_succ_cons, List.drop_succ_cons, drop_ch p t k]
theorem bestTo_yes (p : Nat → Nat → Bool) (x : Nat) (t c : List Nat) (j : Nat) (h : p x (t.getD j 0) = true) : bestTo p x t c (j + 1) = max (bestTo p x t c j) (c.getD j 0) := by rw [bestTo, if_pos h]
theorem bestTo_no (p : Nat → Nat → Bool) (x : Nat) (t c : List Nat) (j : Nat) (h : p x (t.getD j 0) = false) : bestTo p x t c (j + 1) = bestTo p x t c j := by rw [bestTo, if_neg (by rw [h]; simp)]
theorem bestTo_le (p : Nat → Nat → Bool) (x : Nat) (t c : List Nat) (b : Nat) (h : ∀ j, c.getD j 0 ≤ b) : ∀ j, bestTo p x t c j ≤ b
  | 0 => Nat.zero_le _
  | j + 1 => by
    have := bestTo_le p x t c b h j; have := h j
    rw [bestTo]; split <;> omega
theorem ch_bd (p : Nat → Nat → Bool) : ∀ (l : List Nat) (j : Nat), (ch p l).getD j 0 ≤ l.length ∧ (j < l.length → 1 ≤ (ch p l).getD j 0)
  | [], j => by simp [ch]
  | x :: t, 0 => by
    have := bestTo_le p x t (ch p t) t.length (fun j => (ch_bd p t j).1) t.length
    rw [ch, List.getD_cons_zero, List.length_cons]
    exact ⟨by omega, fun _ => by omega⟩
  | x :: t, j + 1 => by
    have := ch_bd p t j
    rw [ch, List.getD_cons_succ, List.length_cons]
    exact ⟨by omega, fun h => this.2 (by omega)⟩
/-- the chain from k on, told by those behind k -/
theorem ch_at (p : Nat → Nat → Bool) (l : List Nat) (k : Nat) (hk : k < l.length) : (ch p l).getD k 0 = 1 + bestTo p (l.getD k 0) (l.drop (k + 1)) (ch p (l.drop (k + 1))) (l.length - (k + 1)) := by
  have h1 : ch p (l.drop k) = (ch p l).drop k := (drop_ch p l k).symm
  have h2 : l.drop k = l.getD k 0 :: l.drop (k + 1) := by
    rw [List.drop_eq_getElem_cons hk]; simp [List.getD_eq_getElem?_getD, hk]
  have h3 : (ch p l).getD k 0 = ((ch p l).drop k).getD 0 0 := by rw [getD_drop]; rfl
  rw [h3, ← h1, h2, ch, List.getD_cons_zero, List.length_drop]

/-- the greatest of those behind k and below j who can come next behind k -/
def bta (p : Nat → Nat → Bool) (hs : List Nat) (k : Nat) : Nat → Nat
  | 0 => 0
  | j + 1 => if k < j ∧ p (hs.getD k 0) (hs.getD j 0) = true then max (bta p hs k j) ((ch p hs).getD j 0) else bta p hs k j
theorem bta_start (p : Nat → Nat → Bool) (hs : List Nat) (k : Nat) : ∀ j, j ≤ k + 1 → bta p hs k j = 0
  | 0, _ => rfl
  | j + 1, h => by rw [bta, if_neg (by omega), bta_start p hs k j (by omega)]
theorem bta_yes (p : Nat → Nat → Bool) (hs : List Nat) (k j : Nat) (hk : k < j) (h : p (hs.getD k 0) (hs.getD j 0) = true) : bta p hs k (j + 1) = max (bta p hs k j) ((ch p hs).getD j 0) := by rw [bta, if_pos ⟨hk, h⟩]
theorem bta_no (p : Nat → Nat → Bool) (hs : List Nat) (k j : Nat) (h : p (hs.getD k 0) (hs.getD j 0) = false) : bta p hs k (j + 1) = bta p hs k j := by rw [bta, if_neg (by rw [h]; simp)]
theorem bta_le (p : Nat → Nat → Bool) (hs : List Nat) (k : Nat) : ∀ j, bta p hs k j ≤ hs.length
  | 0 => Nat.zero_le _
  | j + 1 => by
    have := bta_le p hs k j
    have := (ch_bd p hs j).1
    rw [bta]; split <;> omega
theorem bta_best (p : Nat → Nat → Bool) (hs : List Nat) (k : Nat) : ∀ m, bta p hs k (k + 1 + m) = bestTo p (hs.getD k 0) (hs.drop (k + 1)) (ch p (hs.drop (k + 1))) m
  | 0 => by rw [Nat.add_zero, bta_start p hs k (k + 1) (Nat.le_refl _)]; rfl
  | m + 1 => by
    rw [show k + 1 + (m + 1) = k + 1 + m + 1 from by omega, bta, bestTo, bta_best p hs k m, getD_drop, ← drop_ch, getD_drop]
    by_cases h : p (hs.getD k 0) (hs.getD (k + 1 + m) 0) = true
    · rw [if_pos ⟨by omega, h⟩, if_pos h]
    · rw [if_neg (fun e => h e.2), if_neg h]
theorem bta_end (p : Nat → Nat → Bool) (hs : List Nat) (k : Nat) (hk : k < hs.length) : (ch p hs).getD k 0 = bta p hs k hs.length + 1 := by
  have h := bta_best p hs k (hs.length - (k + 1))
  rw [show k + 1 + (hs.length - (k + 1)) = hs.length from by omega] at h
  rw [ch_at p hs k hk, h]; omega

/-- zeros up to k, then the list's own -/
def zerosTo (c : List Nat) (k : Nat) : List Nat := List.replicate k 0 ++ c.drop k
theorem length_zerosTo (c : List Nat) (k : Nat) (h : k ≤ c.length) : (zerosTo c k).length = c.length := by unfold zerosTo; simp; omega
theorem zerosTo_all (c : List Nat) : zerosTo c c.length = List.replicate c.length 0 := by simp [zerosTo]
theorem zerosTo_zero (c : List Nat) : zerosTo c 0 = c := by simp [zerosTo]
theorem getD_zerosTo (c : List Nat) (k j : Nat) (h : k ≤ j) : (zerosTo c k).getD j 0 = c.getD j 0 := by
  unfold zerosTo
  rw [List.getD_eq_getElem?_getD, List.getElem?_append_right (by rw [List.length_replicate]; exact h), List.length_replicate, List.getElem?_drop, show k + (j - k) = j from by omega, ← List.getD_eq_getElem?_getD]
theorem zerosTo_set (c : List Nat) (k : Nat) (h : k < c.length) (x : Nat) (hx : x = c.getD k 0) : (zerosTo c (k + 1)).set k x = zerosTo c k := by
  subst hx
  unfold zerosTo
  rw [List.replicate_succ', List.append_assoc, List.set_append_right _ _ (by rw [List.length_replicate]; exact Nat.le_refl _), List.length_replicate, Nat.sub_self, List.drop_eq_getElem_cons h]
  simp [List.getD_eq_getElem?_getD, h]
def pad (c : List Nat) : List Nat := c ++ List.replicate (40 - c.length) 0
theorem length_pad (c : List Nat) (h : c.length ≤ 40) : (pad c).length = 40 := by unfold pad; simp; omega
theorem getD_pad (c : List Nat) (j : Nat) : (pad c).getD j 0 = c.getD j 0 := by
  unfold pad
  by_cases h : j < c.length
  · rw [List.getD_eq_getElem?_getD, List.getElem?_append_left h, ← List.getD_eq_getElem?_getD]
  · rw [List.getD_eq_getElem?_getD, List.getElem?_append_right (by omega), List.getElem?_replicate, List.getD_eq_getElem?_getD, List.getElem?_eq_none (by omega : c.length ≤ j)]
    split <;> rfl
theorem zerosTo_pad (c : List Nat) (h : c.length ≤ 40) : zerosTo (pad c) c.length = List.replicate 40 0 := by
  unfold zerosTo pad
  rw [List.drop_left, List.replicate_append_replicate]
  congr 1; omega

theorem bestTo_congr (p q : Nat → Nat → Bool) (x y : Nat) (t u c : List Nat) (h : ∀ j, j < t.length → p x (t.getD j 0) = q y (u.getD j 0)) : ∀ j, j ≤ t.length → bestTo p x t c j = bestTo q y u c j
  | 0, _ => rfl
  | j + 1, hj => by
    rw [bestTo, bestTo, h j (by omega), bestTo_congr p q x y t u c h j (by omega)]
theorem ch_map (p q : Nat → Nat → Bool) (f : Nat → Nat) : ∀ (l : List Nat), (∀ a ∈ l, ∀ b ∈ l, p (f a) (f b) = q a b) → ch p (l.map f) = ch q l
  | [], _ => rfl
  | x :: t, h => by
    rw [List.map_cons, ch, ch, ch_map p q f t (fun a ha b hb => h a (List.mem_cons_of_mem _ ha) b (List.mem_cons_of_mem _ hb)), List.length_map]
    rw [bestTo_congr p q (f x) x (t.map f) t (ch q t) (fun j hj => by
      rw [List.length_map] at hj
      have e : (t.map f).getD j 0 = f (t.getD j 0) := by simp [List.getD_eq_getElem?_getD, hj]
      rw [e]
      have hm : t.getD j 0 ∈ t := by simp [List.getD_eq_getElem?_getD, hj]
      exact h x (List.mem_cons_self ..) _ (List.mem_cons_of_mem _ hm)) t.length (by rw [List.length_map]; exact Nat.le_refl _)]

def up (a b : Nat) : Bool := decide (a < b)
def down (a b : Nat) : Bool := decide (b < a)
/-- the longest mountain of those whose peak is below k -/
def mountTo (hs : List Nat) : Nat → Nat
  | 0 => 0
  | k + 1 => max (mountTo hs k) ((ch down hs.reverse).getD (hs.length - 1 - k) 0 + (ch down hs).getD k 0 - 1)
theorem mountTo_le (hs : List Nat) : ∀ k, mountTo hs k ≤ 2 * hs.length
  | 0 => Nat.zero_le _
  | k + 1 => by
    have := mountTo_le hs k
    have h1 := (ch_bd down hs.reverse (hs.length - 1 - k)).1
    have h2 := (ch_bd down hs k).1
    rw [List.length_reverse] at h1
    rw [mountTo]; omega

/-- who is taken of the first k: out, the last one's height, how many are still to be taken -/
def takeTo (hs cs : List Nat) (left0 : Nat) : Nat → List Nat × Nat × Nat
  | 0 => ([], 0, left0)
  | k + 1 => if cs.getD k 0 = (takeTo hs cs left0 k).2.2 ∧ (takeTo hs cs left0 k).2.1 < hs.getD k 0 then ((takeTo hs cs left0 k).1 ++ [k], hs.getD k 0, (takeTo hs cs left0 k).2.2 - 1) else takeTo hs cs left0 k
theorem takeTo_yes (hs cs : List Nat) (l0 k : Nat) (h : cs.getD k 0 = (takeTo hs cs l0 k).2.2 ∧ (takeTo hs cs l0 k).2.1 < hs.getD k 0) :
    takeTo hs cs l0 (k + 1) = ((takeTo hs cs l0 k).1 ++ [k], hs.getD k 0, (takeTo hs cs l0 k).2.2 - 1) := by rw [takeTo, if_pos h]
theorem takeTo_no (hs cs : List Nat) (l0 k : Nat) (h : ¬ (cs.getD k 0 = (takeTo hs cs l0 k).2.2 ∧ (takeTo hs cs l0 k).2.1 < hs.getD k 0)) : takeTo hs cs l0 (k + 1) = takeTo hs cs l0 k := by rw [takeTo, if_neg h]
theorem takeTo_len (hs cs : List Nat) (l0 : Nat) : ∀ k, (takeTo hs cs l0 k).1.length ≤ k
  | 0 => Nat.le_refl _
  | k + 1 => by
    have := takeTo_len hs cs l0 k
    rw [takeTo]; split
    · rw [List.length_append, List.length_singleton]; omega
    · omega
theorem takeTo_left (hs cs : List Nat) (l0 : Nat) : ∀ k, (takeTo hs cs l0 k).2.2 ≤ l0
  | 0 => Nat.le_refl _
  | k + 1 => by
    have := takeTo_left hs cs l0 k
    rw [takeTo]; split <;> simp <;> omega
/-- the last one's height is told by the last one's index -/
theorem takeTo_last (hs cs : List Nat) (l0 : Nat) : ∀ k, (takeTo hs cs l0 k).2.1 = if (takeTo hs cs l0 k).1.length = 0 then 0 else hs.getD ((takeTo hs cs l0 k).1.getD ((takeTo hs cs l0 k).1.length - 1) 0) 0
  | 0 => rfl
  | k + 1 => by
    rw [takeTo]; split
    · simp [List.getD_eq_getElem?_getD]
    · exact takeTo_last hs cs l0 k
theorem takeTo_lt (hs cs : List Nat) (l0 : Nat) : ∀ k, ∀ x ∈ (takeTo hs cs l0 k).1, x < k
  | 0, x, h => by simp [takeTo] at h
  | k + 1, x, h => by
    rw [takeTo] at h; split at h
    · simp at h
      rcases h with h | h
      · have := takeTo_lt hs cs l0 k x h; omega
      · omega
    · have := takeTo_lt hs cs l0 k x h; omega

end He
end Go.Proofs.Ytnajlnghhboelab
