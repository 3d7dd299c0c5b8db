/- Chapter 6, the program, plain: heights in order by a merge sort; files in a block of cells. -/
import Derived.Test.YtcljhjfmhnmgnaaFn
import Derived.Test.YtcljhjfmhnmgnaaArr
import Derived.Test.YtcljhjfmhnmgnaaMx
import Derived.Laws.CopyOwn
namespace Go.Proofs.Ytcljhjfmhnmgnaa
open Go.ChangeShapes Go.WideShapes Go.ChangeAt Go.RowKit
open Fi

namespace Fi
theorem insAt_hi (out : List Int) (h : Int) : ∀ k j, insAt out h k ≤ j → j < k → h < out.getD j 0
  | 0, j, _, h2 => absurd h2 (Nat.not_lt_zero _)
  | k + 1, j, h1, h2 => by
    rw [insAt] at h1
    split at h1
    · by_cases e : j = k
      · subst e; assumption
      · exact insAt_hi out h k j h1 (by omega)
    · omega
theorem insAt_lo (out : List Int) (h : Int) : ∀ k, 0 < insAt out h k → out.getD (insAt out h k - 1) 0 ≤ h
  | 0, hp => absurd hp (Nat.lt_irrefl 0)
  | k + 1, hp => by
    by_cases hc : h < out.getD k 0
    · rw [insAt, if_pos hc] at hp ⊢
      exact insAt_lo out h k hp
    · rw [insAt, if_neg hc, Nat.add_sub_cancel]
      omega
theorem insL_up {l : List Int} (h : Int) (hl : l.Pairwise (· ≤ ·)) : (insL l h).Pairwise (· ≤ ·) := by
  have hp := insAt_le l h l.length
  have hhi := insAt_hi l h l.length
  have hlo := insAt_lo l h l.length
  have hg : ∀ i (hi : i < l.length), l.getD i 0 = l[i] := fun i hi => by simp [List.getD_eq_getElem?_getD, hi]
  have hpw := List.pairwise_iff_getElem.1 hl
  unfold insL
  generalize insAt l h l.length = p at hp hhi hlo ⊢
  have hl2 := hl
  rw [← List.take_append_drop p l] at hl2
  obtain ⟨h1, h2, h3⟩ := List.pairwise_append.1 hl2
  have ht : ∀ x ∈ l.take p, x ≤ h := fun x hx => by
    obtain ⟨i, hi, rfl⟩ := List.getElem_of_mem hx
    rw [List.length_take] at hi
    rw [List.getElem_take]
    have hq := hlo (by omega)
    rw [hg (p - 1) (by omega)] at hq
    by_cases e : i = p - 1
    · subst e; exact hq
    · exact Int.le_trans (hpw i (p - 1) (by omega) (by omega) (by omega)) hq
  have hd : ∀ x ∈ l.drop p, h ≤ x := fun x hx => by
    obtain ⟨i, hi, rfl⟩ := List.getElem_of_mem hx
    rw [List.length_drop] at hi
    rw [List.getElem_drop]
    have := hhi (p + i) (by omega) (by omega)
    rw [hg (p + i) (by omega)] at this
    omega
  rw [List.append_assoc, List.pairwise_append]
  refine ⟨h1, ?_, ?_⟩
  · rw [List.singleton_append, List.pairwise_cons]; exact ⟨hd, h2⟩
  · intro a ha b hb
    rw [List.singleton_append, List.mem_cons] at hb
    rcases hb with rfl | hb
    · exact ht a ha
    · exact h3 a ha b hb
theorem insL_perm (l : List Int) (h : Int) : (insL l h).Perm (h :: l) := by
  unfold insL
  have hc : l.take (insAt l h l.length) ++ l.drop (insAt l h l.length) = l := List.take_append_drop _ _
  rw [List.append_assoc, List.singleton_append]
  have := List.perm_middle (a := h) (l₁ := l.take (insAt l h l.length)) (l₂ := l.drop (insAt l h l.length))
  rwa [hc] at this
theorem sortTo_perm (zs : List Int) : ∀ j, j ≤ zs.length → (sortTo zs j).Perm (zs.take j)
  | 0, _ => by simp [sortTo]
  | j + 1, hj => by
    have ih := sortTo_perm zs j (by omega)
    rw [sortTo, List.take_succ_eq_append_getElem (by omega)]
    have e : zs.getD j 0 = zs[j] := by simp [List.getD_eq_getElem?_getD, show j < zs.length by omega]
    rw [e]
    exact ((insL_perm _ _).trans (ih.cons _)).trans (List.perm_append_comm (l₁ := [_]))
theorem sortTo_up (zs : List Int) : ∀ j, (sortTo zs j).Pairwise (· ≤ ·)
  | 0 => List.Pairwise.nil
  | j + 1 => insL_up _ (sortTo_up zs j)
theorem sortL_perm (zs : List Int) : (sortL zs).Perm zs := by
  have := sortTo_perm zs zs.length (Nat.le_refl _)
  rwa [List.take_length] at this
theorem sortL_up (zs : List Int) : (sortL zs).Pairwise (· ≤ ·) := sortTo_up _ _
theorem sortL_only {zs ys : List Int} (hp : ys.Perm zs) (hu : ys.Pairwise (· ≤ ·)) : ys = sortL zs :=
  List.Perm.eq_of_pairwise (le := (· ≤ ·)) (fun _ _ _ _ h1 h2 => Int.le_antisymm h1 h2) hu (sortL_up zs) (hp.trans (sortL_perm zs).symm)
theorem merge_sortL (zs : List Int) : (zs.mergeSort fun x y => decide (x ≤ y)) = sortL zs := by
  refine sortL_only (List.mergeSort_perm _ _) ?_
  have := List.pairwise_mergeSort (le := fun x y : Int => decide (x ≤ y)) (fun _ _ _ h1 h2 => decide_eq_true (Int.le_trans (of_decide_eq_true h1) (of_decide_eq_true h2))) (fun a b => by
    rcases Int.le_total a b with h | h
    · simp [h]
    · simp [h]) zs
  exact this.imp (fun h => of_decide_eq_true h)
theorem le_far {f : Nat → Int} {n : Nat} (h : ∀ k, k + 1 < n → f k ≤ f (k + 1)) (i : Nat) : ∀ d, i + d < n → f i ≤ f (i + d)
  | 0, _ => Int.le_refl _
  | d + 1, hd => Int.le_trans (le_far h i d (by omega)) (h (i + d) (by omega))
theorem rowSorted_sort (r : List Int) : rowSortedB r = decide (r = sortL r) := by
  have hg : ∀ i (hi : i < r.length), r.getD i 0 = r[i] := fun i hi => by simp [List.getD_eq_getElem?_getD, hi]
  rw [Bool.eq_iff_iff, decide_eq_true_eq, rowSorted_iff]
  constructor
  · intro h
    refine sortL_only (List.Perm.refl _) (List.pairwise_iff_getElem.2 fun i j hi hj hij => ?_)
    have := le_far (f := fun i => r.getD i 0) h i (j - i) (by omega)
    rw [show i + (j - i) = j by omega] at this
    rwa [← hg i hi, ← hg j hj]
  · intro h k hk
    have hu : r.Pairwise (· ≤ ·) := by rw [h]; exact sortL_up r
    have := List.pairwise_iff_getElem.1 hu k (k + 1) (by omega) hk (by omega)
    rwa [hg k (by omega), hg (k + 1) hk]

/-- how many are at most so great, of some in order -/
theorem leTo_eq (zs : List Int) (h : Int) (i : Nat) (h1 : ∀ j, j < i → zs.getD j 0 ≤ h) : ∀ n, i ≤ n → (∀ j, i ≤ j → j < n → h < zs.getD j 0) → leTo zs h n = i
  | 0, hi, _ => by obtain rfl : i = 0 := by omega
                   rfl
  | n + 1, hi, h2 => by
    rw [leTo]
    by_cases e : i = n + 1
    · subst e
      rw [if_pos (h1 n (by omega))]
      have : ∀ m, m ≤ n → leTo zs h m = m := by
        intro m
        induction m with
        | zero => intro _; rfl
        | succ m ih => intro hm; rw [leTo, if_pos (h1 m (by omega)), ih (by omega)]
      rw [this n (Nat.le_refl _)]
    · have := h2 n (by omega) (by omega)
      rw [if_neg (by omega)]
      exact leTo_eq zs h i h1 n (by omega) (fun j ha hb => h2 j ha (by omega))

/-- a stretch of a list, put anew -/
theorem getD_splice (l ys : List Int) (off p : Nat) (h : off + ys.length ≤ l.length) : (splice l off ys).getD p 0 = if off ≤ p ∧ p < off + ys.length then ys.getD (p - off) 0 else l.getD p 0 := by
  unfold splice
  simp only [List.getD_eq_getElem?_getD]
  by_cases h1 : p < off
  · rw [if_neg (by omega), List.getElem?_append_left (by rw [List.length_take]; omega), List.getElem?_take, if_pos h1]
  · rw [List.getElem?_append_right (by rw [List.length_take]; omega), List.length_take, Nat.min_eq_left (by omega)]
    by_cases h2 : p < off + ys.length
    · rw [if_pos ⟨by omega, h2⟩, List.getElem?_append_left (by omega)]
    · rw [if_neg (by omega), List.getElem?_append_right (by omega), List.getElem?_drop]
      congr 2; omega

/-- the places of a block of R rows and C columns, as far as P tells, are those of f -/
structure IsP (bs : List Int) (f : Nat → Nat → Int) (R C : Nat) (P : Nat → Nat → Prop) : Prop where
  len : bs.length = 66
  rows : bs.getD 64 0 = (R : Int)
  cols : bs.getD 65 0 = (C : Int)
  r8 : R ≤ 8
  c8 : C ≤ 8
  at' : ∀ i j, i < R → j < C → P i j → bs.getD (i * 8 + j) 0 = f i j
/-- all of it -/
def IsF (bs : List Int) (f : Nat → Nat → Int) (R C : Nat) : Prop := IsP bs f R C fun _ _ => True
theorem IsP.mono {bs : List Int} {f g : Nat → Nat → Int} {R C : Nat} {P Q : Nat → Nat → Prop} (h : IsP bs f R C P) (hq : ∀ i j, i < R → j < C → Q i j → P i j ∧ f i j = g i j) : IsP bs g R C Q :=
  ⟨h.len, h.rows, h.cols, h.r8, h.c8, fun i j hi hj q => by rw [h.at' i j hi hj (hq i j hi hj q).1, (hq i j hi hj q).2]⟩
theorem getD_setI (l : List Int) (i j : Nat) (x : Int) (h : i < l.length) : (l.set i x).getD j 0 = if i = j then x else l.getD j 0 := by
  simp only [List.getD_eq_getElem?_getD, List.getElem?_set]
  split
  · subst i; simp
  · rfl
theorem IsP.set {bs : List Int} {f : Nat → Nat → Int} {R C : Nat} {P : Nat → Nat → Prop} (h : IsP bs f R C P) (i j : Nat) (hi : i < R) (hj : j < C) (x : Int) (hx : x = f i j) :
    IsP (bs.set (i * 8 + j) x) f R C (fun a b => P a b ∨ a = i ∧ b = j) := by
  have hl := h.len
  have hr := h.r8
  have hc := h.c8
  refine ⟨by rw [List.length_set]; exact hl, ?_, ?_, hr, hc, fun a b ha hb hp => ?_⟩
  · rw [getD_setI _ _ _ _ (by omega), if_neg (by omega)]; exact h.rows
  · rw [getD_setI _ _ _ _ (by omega), if_neg (by omega)]; exact h.cols
  · rw [getD_setI _ _ _ _ (by omega)]
    split
    · obtain ⟨rfl, rfl⟩ : i = a ∧ j = b := by omega
      exact hx
    · rcases hp with hp | ⟨rfl, rfl⟩
      · exact h.at' a b ha hb hp
      · omega
theorem IsP.put {bs : List Int} {f : Nat → Nat → Int} {R C : Nat} {P : Nat → Nat → Prop} (h : IsP bs f R C P) (i : Nat) (hi : i < R) (ys : List Int) (h1 : C ≤ ys.length) (h2 : ys.length ≤ 8) (hx : ∀ j, j < C → ys.getD j 0 = f i j) :
    IsP (splice bs (i * 8) ys) f R C (fun a b => P a b ∨ a = i) := by
  have hl := h.len
  have hr := h.r8
  have hc := h.c8
  refine ⟨by rw [length_splice _ _ _ (by omega)]; exact hl, ?_, ?_, hr, hc, fun a b ha hb hp => ?_⟩
  · rw [getD_splice _ _ _ _ (by omega), if_neg (by omega)]; exact h.rows
  · rw [getD_splice _ _ _ _ (by omega), if_neg (by omega)]; exact h.cols
  · rw [getD_splice _ _ _ _ (by omega)]
    split
    · obtain rfl : a = i := by omega
      rw [show a * 8 + b - a * 8 = b by omega]
      exact hx b hb
    · rcases hp with hp | rfl
      · exact h.at' a b ha hb hp
      · omega
/-- row i of a block, eight places -/
def seg (bs : List Int) (i : Nat) : List Int := (bs.drop (i * 8)).take 8
theorem length_seg {bs : List Int} (h : bs.length = 66) (i : Nat) (hi : i < 8) : (seg bs i).length = 8 := by
  unfold seg; rw [List.length_take, List.length_drop]; omega
theorem getD_seg (bs : List Int) (i j : Nat) (hj : j < 8) : (seg bs i).getD j 0 = bs.getD (i * 8 + j) 0 := by
  unfold seg
  simp only [List.getD_eq_getElem?_getD, List.getElem?_take, if_pos hj, List.getElem?_drop]
/-- the height at a place -/
def fOf (zss : List (List Int)) (i j : Nat) : Int := (row zss i).getD j 0
/-- these files in a block -/
structure IsZ (bs : List Int) (zss : List (List Int)) (R C : Nat) : Prop where
  good : Good zss R C
  is : IsF bs (fOf zss) R C
theorem fOf_turn {zss : List (List Int)} {R C : Nat} (h : Good zss R C) (i j : Nat) (hi : i < C) (hj : j < R) : fOf (turnL zss) i j = fOf zss j i := by
  unfold fOf
  rw [row_turn _ _ (by rw [h.cols 0 h.r1]; exact hi)]
  unfold col
  rw [getD_upTo _ _ _ (by rw [h.rows]; exact hj)]
theorem IsP.off {bs : List Int} {f : Nat → Nat → Int} {R C : Nat} {P : Nat → Nat → Prop} (h : IsP bs f R C P) (i : Nat) (hi : i < R) (ys : List Int) (h2 : ys.length ≤ 8) :
    IsP (splice bs (i * 8) ys) f R C (fun a b => P a b ∧ a ≠ i) := by
  have hl := h.len
  have hr := h.r8
  have hc := h.c8
  refine ⟨by rw [length_splice _ _ _ (by omega)]; exact hl, ?_, ?_, hr, hc, fun a b ha hb hp => ?_⟩
  · rw [getD_splice _ _ _ _ (by omega), if_neg (by omega)]; exact h.rows
  · rw [getD_splice _ _ _ _ (by omega), if_neg (by omega)]; exact h.cols
  · rw [getD_splice _ _ _ _ (by omega), if_neg (by omega)]
    exact h.at' a b ha hb hp.1
theorem seg_row {bs : List Int} {f : Nat → Nat → Int} {R C : Nat} {P : Nat → Nat → Prop} (h : IsP bs f R C P) {r : List Int} (i : Nat) (hi : i < R) (hr : r.length = C) (hp : ∀ j, j < C → P i j ∧ f i j = r.getD j 0) : (seg bs i).take C = r := by
  have h8 := h.c8
  have hr8 := h.r8
  have hl := length_seg h.len i (by omega)
  refine ext_getD 0 (by rw [List.length_take, hl, hr]; omega) fun j hj => ?_
  rw [List.length_take, hl] at hj
  have e : ((seg bs i).take C).getD j 0 = (seg bs i).getD j 0 := by simp only [List.getD_eq_getElem?_getD, List.getElem?_take, if_pos (show j < C by omega)]
  rw [e, getD_seg _ _ _ (by omega), h.at' i j hi (by omega) (hp j (by omega)).1, (hp j (by omega)).2]
/-- the first C places of a row put in order -/
def ordR (C : Nat) (rs : List Int) : List Int := splice rs 0 (sortL (rs.take C))
theorem length_ordR {C : Nat} {rs : List Int} (h : C ≤ rs.length) : (ordR C rs).length = rs.length := by
  unfold ordR
  rw [length_splice _ _ _ (by rw [length_sortL, List.length_take]; omega)]
theorem getD_ordR {C : Nat} {rs : List Int} (h : C ≤ rs.length) (j : Nat) (hj : j < C) : (ordR C rs).getD j 0 = (sortL (rs.take C)).getD j 0 := by
  unfold ordR
  rw [getD_splice _ _ _ _ (by rw [length_sortL, List.length_take]; omega), length_sortL, List.length_take, if_pos (by omega)]
  rfl
theorem ordR_is {C : Nat} {rs : List Int} (h : C ≤ rs.length) : decide (rs = ordR C rs) = rowSortedB (rs.take C) := by
  rw [rowSorted_sort]
  have hs : (sortL (rs.take C)).length = C := by rw [length_sortL, List.length_take]; omega
  have e : ordR C rs = sortL (rs.take C) ++ rs.drop C := by unfold ordR splice; rw [List.take_zero, List.nil_append, hs, Nat.zero_add]
  rw [e]
  by_cases h1 : rs.take C = sortL (rs.take C)
  · rw [decide_eq_true h1, ← h1, List.take_append_drop, decide_eq_true rfl]
  · rw [decide_eq_false h1]
    refine decide_eq_false fun h2 => h1 ?_
    have := congrArg (List.take C) h2
    rwa [List.take_append_of_le_length (by omega), List.take_of_length_le (Nat.le_of_eq hs)] at this
theorem mostTo_max (zs : List Int) : ∀ k, mostTo zs (k + 1) = maxTo zs k
  | 0 => by show max (zs.getD 0 0) (zs.getD 0 0) = zs.getD 0 0; omega
  | k + 1 => by rw [mostTo, mostTo_max zs k, maxTo]
theorem leastTo_min (zs : List Int) : ∀ k, leastTo zs (k + 1) = minTo zs k
  | 0 => by show min (zs.getD 0 0) (zs.getD 0 0) = zs.getD 0 0; omega
  | k + 1 => by rw [leastTo, leastTo_min zs k, minTo]
theorem mostL_max {zs : List Int} (h : 0 < zs.length) : mostL zs = maxTo zs (zs.length - 1) := by
  obtain ⟨k, hk⟩ : ∃ k, zs.length = k + 1 := ⟨zs.length - 1, by omega⟩
  unfold mostL; rw [hk, mostTo_max, Nat.add_sub_cancel]
theorem leastL_min {zs : List Int} (h : 0 < zs.length) : leastL zs = minTo zs (zs.length - 1) := by
  obtain ⟨k, hk⟩ : ∃ k, zs.length = k + 1 := ⟨zs.length - 1, by omega⟩
  unfold leastL; rw [hk, leastTo_min, Nat.add_sub_cancel]
/-- what is told of each row -/
def ofL (t : List Int → Int) (zss : List (List Int)) (k : Nat) : List Int := upTo (fun i => t (row zss i)) k
theorem short_min {zss : List (List Int)} (h : ∀ j, mostL (row (turnL zss) j) ≤ 999) : ∀ k n, k < n → shortTo zss (k + 1) = minTo (ofL mostL (turnL zss) n) k
  | 0, n, hn => by
    have := h 0
    show min 999 (mostL (row (turnL zss) 0)) = (ofL mostL (turnL zss) n).getD 0 0
    unfold ofL
    rw [getD_upTo _ _ _ hn]; omega
  | k + 1, n, hn => by
    rw [shortTo, short_min h k n (by omega), minTo]
    congr 1
    unfold ofL
    rw [getD_upTo _ _ _ hn]
theorem tall_max {zss : List (List Int)} (h : ∀ j, 0 ≤ leastL (row zss j)) : ∀ k n, k < n → tallTo zss (k + 1) = maxTo (ofL leastL zss n) k
  | 0, n, hn => by
    have := h 0
    show max 0 (leastL (row zss 0)) = (ofL leastL zss n).getD 0 0
    unfold ofL
    rw [getD_upTo _ _ _ hn]; omega
  | k + 1, n, hn => by
    rw [tallTo, tall_max h k n (by omega), maxTo]
    congr 1
    unfold ofL
    rw [getD_upTo _ _ _ hn]
theorem most_in {zss : List (List Int)} {R C : Nat} (g : Good zss R C) (j : Nat) (hj : j < R) : 1 ≤ mostL (row zss j) ∧ mostL (row zss j) ≤ 999 := by
  have hl := g.cols j hj
  have h1 := g.c1
  rw [mostL_max (by omega)]
  obtain ⟨i, hi, e⟩ := maxTo_is (row zss j) ((row zss j).length - 1)
  rw [← e]
  exact g.get j i hj (by omega)
theorem least_in {zss : List (List Int)} {R C : Nat} (g : Good zss R C) (j : Nat) (hj : j < R) : 1 ≤ leastL (row zss j) ∧ leastL (row zss j) ≤ 999 := by
  have hl := g.cols j hj
  have h1 := g.c1
  rw [leastL_min (by omega)]
  obtain ⟨i, hi, e⟩ := minTo_is (row zss j) ((row zss j).length - 1)
  rw [← e]
  exact g.get j i hj (by omega)
theorem row_out {zss : List (List Int)} (j : Nat) (h : zss.length ≤ j) : row zss j = [] := by
  unfold row; simp [List.getD_eq_getElem?_getD, h]
theorem most_any {zss : List (List Int)} {R C : Nat} (g : Good zss R C) (j : Nat) : mostL (row zss j) ≤ 999 := by
  by_cases h : j < R
  · exact (most_in g j h).2
  · rw [row_out j (by have := g.rows; omega)]; decide
theorem least_any {zss : List (List Int)} {R C : Nat} (g : Good zss R C) (j : Nat) : 0 ≤ leastL (row zss j) := by
  by_cases h : j < R
  · have := (least_in g j h).1; omega
  · rw [row_out j (by have := g.rows; omega)]; decide
end Fi

/-! ## Cells in the middle of a block -/
theorem cellsI_splice (l ys : List Int) (off : Nat) : splice (cellsI l) off (cellsI ys) = cellsI (splice l off ys) := by
  unfold splice cellsI
  rw [List.map_append, List.map_append, List.map_take, List.map_drop, List.length_map]
theorem Blk.setCells {g : Nat} {t : TypeId} : ∀ (vs : List Value) (o : Nat) {w : World} {cs : List Value}, Blk w g t cs → o + vs.length ≤ cs.length → Blk (w.setCells g o vs) g t (splice cs o vs)
  | [], o, w, cs, h, _ => by unfold splice; simpa [World.setCells] using h
  | v :: r, o, w, cs, h, hl => by
    rw [World.setCells]
    have := Blk.setCells r (o + 1) (h.set o v) (by rw [List.length_set]; simp only [List.length_cons] at hl; omega)
    have e : splice (cs.set o v) (o + 1) r = splice cs o (v :: r) := by
      simp only [List.length_cons] at hl
      unfold splice
      have ho : o < cs.length := by omega
      rw [List.take_succ_eq_append_getElem (by rw [List.length_set]; exact ho), List.getElem_set_self, List.take_set_of_le (Nat.le_refl _), List.drop_set_of_lt (by omega), List.append_assoc, List.length_cons, show o + 1 + r.length = o + (r.length + 1) by omega]
      rfl
    rw [← e]; exact this
theorem grown_setCells (g : Nat) : ∀ (vs : List Value) (o : Nat) (w : World), w.grownBy (w.setCells g o vs) (some g)
  | [], _, w => World.grownBy.refl _ _
  | v :: r, o, w => by rw [World.setCells]; exact grownBy_trans (set_grown _ _ _ _) (grown_setCells g r (o + 1) _)
theorem Blk.range {w : World} {g : Nat} {t : TypeId} {cs : List Value} (h : Blk w g t cs) (o n : Nat) : w.rangeAt g o ((cs.drop o).take n) := fun j v hv => by
  rw [h.cell]
  rw [List.getElem?_take] at hv
  split at hv
  · rw [List.getElem?_drop] at hv; exact hv
  · cases hv
theorem Blk.there {w : World} {g : Nat} {t : TypeId} {cs : List Value} (h : Blk w g t cs) (o n : Nat) (hn : o + n ≤ cs.length) : w.there g o n := fun j hj =>
  ⟨by rw [h.cell, List.getElem?_eq_getElem (by omega)]; rfl, h.free _⟩
theorem cellsI_seg (bs : List Int) (i : Nat) : ((cellsI bs).drop (i * 8)).take 8 = cellsI (seg bs i) := by
  unfold cellsI seg; rw [List.map_take, List.map_drop]

end Go.Proofs.Ytcljhjfmhnmgnaa
