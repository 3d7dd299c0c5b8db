/- Plain facts on files for the composite law FnFilesSorted: turned twice, in order both ways, ends, saddles, disorder. Nothing of the program. -/
import Derived.Test.YtcljhjfmhnmgnaaQa
import Derived.Test.YtcljhjfmhnmgnaaKa
namespace Go.Proofs.Ytcljhjfmhnmgnaa
open Go.ChangeShapes Go.WideShapes Go.ChangeAt Go.RowKit
open Fi

namespace Qb
theorem good_ext {a b : List (List Int)} {R C : Nat} (ga : Fi.Good a R C) (gb : Fi.Good b R C) (h : ∀ i j, i < R → j < C → fOf a i j = fOf b i j) : a = b := by
  refine ext_getD [] (by rw [ga.rows, gb.rows]) fun i hi => ?_
  have hi2 : i < R := by rw [← ga.rows]; exact hi
  refine ext_getD 0 ((ga.cols i hi2).trans (gb.cols i hi2).symm) fun j hj => ?_
  exact h i j hi2 (by rw [← ga.cols i hi2]; exact hj)
theorem turn_turn {z : List (List Int)} {R C : Nat} (g : Fi.Good z R C) : turnL (turnL z) = z :=
  good_ext (good_turn (good_turn g)) g fun i j hi hj => by rw [fOf_turn (good_turn g) i j hi hj, fOf_turn g j i hj hi]
theorem sort_sort (r : List Int) : sortL (sortL r) = sortL r := (sortL_only (List.Perm.refl _) (sortL_up r)).symm
theorem sorted_rows {z : List (List Int)} : sortedB (rowsL z) = true := by
  refine sorted_all fun i hi => ?_
  unfold rowsL at hi
  rw [length_rowsTo] at hi
  rw [row_rows z i hi, rowSorted_sort, sort_sort]
  exact decide_eq_true rfl
theorem rows_same (z : List (List Int)) : sortedB z = decide (rowsL z = z) := by
  rw [Bool.eq_iff_iff, decide_eq_true_eq]
  constructor
  · intro h
    refine ext_getD [] (by unfold rowsL; rw [length_rowsTo]) fun i hi => ?_
    unfold rowsL at hi
    rw [length_rowsTo] at hi
    have h1 : row (rowsL z) i = sortL (row z i) := row_rows z i hi
    have h2 : rowSortedB (row z i) = true := by
      unfold sortedB at h
      exact (List.all_eq_true.1 h) _ (row_mem hi)
    rw [rowSorted_sort, decide_eq_true_eq] at h2
    exact h1.trans h2.symm
  · intro h
    rw [← h]; exact sorted_rows
theorem cols_same {z : List (List Int)} {R C : Nat} (g : Fi.Good z R C) : sortedB (turnL z) = decide (colsL z = z) := by
  rw [rows_same, Bool.eq_iff_iff, decide_eq_true_eq, decide_eq_true_eq]
  constructor
  · intro h
    unfold colsL
    rw [h, turn_turn g]
  · intro h
    unfold colsL at h
    have := congrArg turnL h
    rwa [turn_turn (good_rows (good_turn g))] at this
theorem cols_sorted {z : List (List Int)} {R C : Nat} (g : Fi.Good z R C) : sortedB (turnL (colsL z)) = true := by
  unfold colsL
  rw [turn_turn (good_rows (good_turn g))]
  exact sorted_rows
theorem fOf_cols {z : List (List Int)} {R C : Nat} (g : Fi.Good z R C) (i j : Nat) (hi : i < R) (hj : j < C) : fOf (colsL z) i j = (sortL (col z j)).getD i 0 := by
  unfold colsL
  rw [fOf_turn (good_rows (good_turn g)) i j hi hj]
  unfold fOf
  rw [row_rows _ _ (by rw [(good_turn g).rows]; exact hj), row_turn z j (by rw [g.cols 0 g.r1]; exact hj)]
theorem getD_col {z : List (List Int)} {R C : Nat} (g : Fi.Good z R C) (i j : Nat) (hi : i < R) : (col z j).getD i 0 = fOf z i j := by
  unfold col fOf
  rw [getD_upTo _ _ _ (by rw [g.rows]; exact hi)]
/-- columns put in order leave rows in order -/
theorem both_rows {z : List (List Int)} {R C : Nat} (g : Fi.Good z R C) (hs : sortedB z = true) : sortedB (colsL z) = true := by
  have gc := good_cols g
  refine sorted_all fun i hi => rowSorted_iff.2 fun k hk => ?_
  rw [gc.rows] at hi
  rw [gc.cols i hi] at hk
  show fOf (colsL z) i k ≤ fOf (colsL z) i (k + 1)
  rw [fOf_cols g i k hi (by omega), fOf_cols g i (k + 1) hi hk]
  refine Qa.order_le (col z k) (col z (k + 1)) _ _ (by rw [length_col, length_col]) (fun j hj => ?_) (sortL_perm _) (sortL_perm _) (sortL_up _) (sortL_up _) i (by rw [length_col, g.rows]; exact hi)
  rw [length_col, g.rows] at hj
  rw [getD_col g j k hj, getD_col g j (k + 1) hj]
  have h2 : rowSortedB (row z j) = true := by
    unfold sortedB at hs
    exact (List.all_eq_true.1 hs) _ (row_mem (by rw [g.rows]; exact hj))
  exact rowSorted_iff.1 h2 k (by rw [g.cols j hj]; exact hk)

/-! ### ends -/
theorem leastTo_le (zs : List Int) : ∀ n j, j < n → leastTo zs n ≤ zs.getD j 0
  | 0, _, h => by omega
  | n + 1, j, h => by
    rw [leastTo]
    by_cases e : j = n
    · rw [e]; exact Int.min_le_right _ _
    · exact Int.le_trans (Int.min_le_left _ _) (leastTo_le zs n j (by omega))
theorem leastTo_is (zs : List Int) : ∀ n, ∃ j, (j < n ∨ j = 0) ∧ leastTo zs n = zs.getD j 0
  | 0 => ⟨0, .inr rfl, rfl⟩
  | n + 1 => by
    obtain ⟨j, hj, e⟩ := leastTo_is zs n
    rw [leastTo]
    rcases Int.le_total (leastTo zs n) (zs.getD n 0) with h | h
    · exact ⟨j, hj.imp (by omega) id, by rw [Int.min_eq_left h, e]⟩
    · exact ⟨n, .inl (by omega), by rw [Int.min_eq_right h]⟩
theorem mostTo_ge (zs : List Int) : ∀ n j, j < n → zs.getD j 0 ≤ mostTo zs n
  | 0, _, h => by omega
  | n + 1, j, h => by
    rw [mostTo]
    by_cases e : j = n
    · rw [e]; exact Int.le_max_right _ _
    · exact Int.le_trans (mostTo_ge zs n j (by omega)) (Int.le_max_left _ _)
theorem mostTo_is (zs : List Int) : ∀ n, ∃ j, (j < n ∨ j = 0) ∧ mostTo zs n = zs.getD j 0
  | 0 => ⟨0, .inr rfl, rfl⟩
  | n + 1 => by
    obtain ⟨j, hj, e⟩ := mostTo_is zs n
    rw [mostTo]
    rcases Int.le_total (mostTo zs n) (zs.getD n 0) with h | h
    · exact ⟨n, .inl (by omega), by rw [Int.max_eq_right h]⟩
    · exact ⟨j, hj.imp (by omega) id, by rw [Int.max_eq_left h, e]⟩
/-- the least of row i, the greatest of column j -/
def lo (z : List (List Int)) (i : Nat) : Int := leastL (row z i)
def hi (z : List (List Int)) (j : Nat) : Int := mostL (row (turnL z) j)
theorem lo_le {z : List (List Int)} {R C : Nat} (g : Fi.Good z R C) (i j : Nat) (h1 : i < R) (h2 : j < C) : lo z i ≤ fOf z i j :=
  leastTo_le (row z i) (row z i).length j (by rw [g.cols i h1]; exact h2)
theorem le_hi {z : List (List Int)} {R C : Nat} (g : Fi.Good z R C) (i j : Nat) (h1 : i < R) (h2 : j < C) : fOf z i j ≤ hi z j := by
  rw [← fOf_turn g j i h2 h1]
  exact mostTo_ge (row (turnL z) j) (row (turnL z) j).length i (by rw [(good_turn g).cols j h2]; exact h1)
theorem tall_ge (z : List (List Int)) : ∀ n i, i < n → lo z i ≤ tallTo z n
  | 0, _, h => by omega
  | n + 1, i, h => by
    rw [tallTo]
    by_cases e : i = n
    · rw [e]; exact Int.le_max_right _ _
    · exact Int.le_trans (tall_ge z n i (by omega)) (Int.le_max_left _ _)
theorem tall_le (z : List (List Int)) (B : Int) (h0 : 0 ≤ B) : ∀ n, (∀ i, i < n → lo z i ≤ B) → tallTo z n ≤ B
  | 0, _ => h0
  | n + 1, h => by
    rw [tallTo]
    exact Int.max_le.2 ⟨tall_le z B h0 n (fun i hi => h i (by omega)), h n (by omega)⟩
theorem short_le (z : List (List Int)) : ∀ n j, j < n → shortTo z n ≤ hi z j
  | 0, _, h => by omega
  | n + 1, j, h => by
    rw [shortTo]
    by_cases e : j = n
    · rw [e]; exact Int.min_le_right _ _
    · exact Int.le_trans (Int.min_le_left _ _) (short_le z n j (by omega))
theorem short_ge (z : List (List Int)) (B : Int) (h0 : B ≤ 999) : ∀ n, (∀ j, j < n → B ≤ hi z j) → B ≤ shortTo z n
  | 0, _ => h0
  | n + 1, h => by
    rw [shortTo]
    exact Int.le_min.2 ⟨short_ge z B h0 n (fun j hj => h j (by omega)), h n (by omega)⟩
theorem tall_is (z : List (List Int)) (h0 : ∀ i, 0 ≤ lo z i ∨ True) : ∀ n, tallTo z n = 0 ∨ ∃ i, i < n ∧ tallTo z n = lo z i
  | 0 => .inl rfl
  | n + 1 => by
    rw [tallTo]
    rcases Int.le_total (tallTo z n) (lo z n) with h | h
    · exact .inr ⟨n, by omega, Int.max_eq_right h⟩
    · rw [show max (tallTo z n) (leastL (row z n)) = tallTo z n from Int.max_eq_left h]
      rcases tall_is z h0 n with e | ⟨i, hi, e⟩
      · exact .inl e
      · exact .inr ⟨i, by omega, e⟩
theorem short_is (z : List (List Int)) : ∀ n, shortTo z n = 999 ∨ ∃ j, j < n ∧ shortTo z n = hi z j
  | 0 => .inl rfl
  | n + 1 => by
    rw [shortTo]
    rcases Int.le_total (shortTo z n) (hi z n) with h | h
    · rw [show min (shortTo z n) (mostL (row (turnL z) n)) = shortTo z n from Int.min_eq_left h]
      rcases short_is z n with e | ⟨i, hi, e⟩
      · exact .inl e
      · exact .inr ⟨i, by omega, e⟩
    · exact .inr ⟨n, by omega, Int.min_eq_right h⟩
theorem low_high {z : List (List Int)} {R C : Nat} (g : Fi.Good z R C) : tallTo z R ≤ shortTo z C := by
  refine tall_le z _ ?_ R fun i h1 => ?_
  · refine short_ge z 0 (by omega) C fun j h2 => ?_
    have h3 := le_hi g 0 j g.r1 h2
    have h4 := (g.get 0 j g.r1 h2).1
    unfold fOf at h3
    omega
  · refine short_ge z _ ?_ C fun j h2 => Int.le_trans (lo_le g i j h1 h2) (le_hi g i j h1 h2)
    have h3 := lo_le g i 0 h1 g.c1
    have h4 := (g.get i 0 h1 g.c1).2
    unfold fOf at h3
    omega

/-! ### saddles -/
theorem sad_iff (z : List (List Int)) (i k : Nat) : sadB z i k = true ↔ fOf z i k = lo z i ∧ fOf z i k = hi z k := by
  unfold sadB fOf lo hi
  rw [Bool.and_eq_true, decide_eq_true_eq, decide_eq_true_eq]
theorem sad_is {z : List (List Int)} {R C : Nat} (g : Fi.Good z R C) (i k : Nat) (h1 : i < R) (h2 : k < C) (h : sadB z i k = true) : fOf z i k = tallTo z R ∧ fOf z i k = shortTo z C := by
  obtain ⟨e1, e2⟩ := (sad_iff z i k).1 h
  have h3 := tall_ge z R i h1
  have h4 := short_le z C k h2
  have h5 := low_high g
  omega
theorem sad_ex {z : List (List Int)} {R C : Nat} (g : Fi.Good z R C) (h : tallTo z R = shortTo z C) : ∃ i k, i < R ∧ k < C ∧ sadB z i k = true := by
  have t1 : ∃ i, i < R ∧ tallTo z R = lo z i := by
    rcases tall_is z (fun _ => .inr trivial) R with e | e
    · have h3 := tall_ge z R 0 g.r1
      obtain ⟨j, hj, e2⟩ := leastTo_is (row z 0) (row z 0).length
      have hjC : j < C := by have := g.cols 0 g.r1; have := g.c1; omega
      have h4 := (g.get 0 j g.r1 hjC).1
      have e3 : lo z 0 = (row z 0).getD j 0 := e2
      omega
    · exact e
  have t2 : ∃ k, k < C ∧ shortTo z C = hi z k := by
    rcases short_is z C with e | e
    · refine ⟨0, g.c1, ?_⟩
      have h3 := short_le z C 0 g.c1
      obtain ⟨j, hj, e2⟩ := mostTo_is (row (turnL z) 0) (row (turnL z) 0).length
      have hjR : j < R := by have := (good_turn g).cols 0 g.c1; have := g.r1; omega
      have h4 := ((good_turn g).get 0 j g.c1 hjR).2
      have e3 : hi z 0 = (row (turnL z) 0).getD j 0 := e2
      omega
    · exact e
  obtain ⟨i, h1, e1⟩ := t1
  obtain ⟨k, h2, e2⟩ := t2
  refine ⟨i, k, h1, h2, (sad_iff z i k).2 ?_⟩
  have h3 := lo_le g i k h1 h2
  have h4 := le_hi g i k h1 h2
  omega
theorem sadRow_iff (z : List (List Int)) (i : Nat) (x : List Int) : ∀ n, x ∈ sadRow z i n ↔ ∃ k, k < n ∧ sadB z i k = true ∧ x = [(i : Int), (k : Int)]
  | 0 => by simp [sadRow]
  | n + 1 => by
    have ih := sadRow_iff z i x n
    rw [sadRow]
    rcases hb : sadB z i n with _ | _
    · rw [if_neg (by simp), ih]
      constructor
      · rintro ⟨k, h1, h2, h3⟩; exact ⟨k, by omega, h2, h3⟩
      · rintro ⟨k, h1, h2, h3⟩
        refine ⟨k, ?_, h2, h3⟩
        by_cases e : k = n
        · rw [e, hb] at h2; cases h2
        · omega
    · rw [if_pos rfl, List.mem_append, ih, List.mem_singleton]
      constructor
      · rintro (⟨k, h1, h2, h3⟩ | h3)
        · exact ⟨k, by omega, h2, h3⟩
        · exact ⟨n, by omega, hb, h3⟩
      · rintro ⟨k, h1, h2, h3⟩
        by_cases e : k = n
        · exact .inr (by rw [h3, e])
        · exact .inl ⟨k, by omega, h2, h3⟩
theorem sadTo_iff (z : List (List Int)) (x : List Int) : ∀ n, x ∈ sadTo z n ↔ ∃ i k, i < n ∧ k < (row z 0).length ∧ sadB z i k = true ∧ x = [(i : Int), (k : Int)]
  | 0 => by simp [sadTo]
  | n + 1 => by
    rw [sadTo, List.mem_append, sadTo_iff z x n, sadRow_iff]
    constructor
    · rintro (⟨i, k, h1, h2, h3, h4⟩ | ⟨k, h1, h2, h3⟩)
      · exact ⟨i, k, by omega, h2, h3, h4⟩
      · exact ⟨n, k, by omega, h1, h2, h3⟩
    · rintro ⟨i, k, h1, h2, h3, h4⟩
      by_cases e : i = n
      · subst e; exact .inr ⟨k, h2, h3, h4⟩
      · exact .inl ⟨i, k, by omega, h2, h3, h4⟩
theorem sad_some {z : List (List Int)} {R C : Nat} (g : Fi.Good z R C) : decide (0 < (sadTo z R).length) = decide (tallTo z R = shortTo z C) := by
  have hC : (row z 0).length = C := g.cols 0 g.r1
  rw [Bool.eq_iff_iff, decide_eq_true_eq, decide_eq_true_eq]
  constructor
  · intro h
    obtain ⟨x, hx⟩ := List.length_pos_iff_exists_mem.1 h
    obtain ⟨i, k, h1, h2, h3, _⟩ := (sadTo_iff z x R).1 hx
    obtain ⟨e1, e2⟩ := sad_is g i k h1 (by omega) h3
    omega
  · intro h
    obtain ⟨i, k, h1, h2, h3⟩ := sad_ex g h
    exact List.length_pos_iff_exists_mem.2 ⟨_, (sadTo_iff z _ R).2 ⟨i, k, h1, by omega, h3, rfl⟩⟩

/-! ### disorder -/
theorem disTo_zero (r : List Int) : ∀ m, disTo r m = 0 ↔ ∀ k, k < m → r.getD k 0 ≤ r.getD (k + 1) 0
  | 0 => by simp [disTo]
  | m + 1 => by
    have ih := disTo_zero r m
    rw [disTo]
    split
    · rename_i h
      constructor
      · intro h2; omega
      · intro h2; have := h2 m (by omega); omega
    · rename_i h
      rw [ih]
      constructor
      · intro h2 k hk
        by_cases e : k = m
        · rw [e]; omega
        · exact h2 k (by omega)
      · intro h2 k hk; exact h2 k (by omega)
theorem disRow_zero (r : List Int) : disRow r = 0 ↔ rowSortedB r = true := by
  unfold disRow
  rw [disTo_zero, rowSorted_iff]
  constructor
  · intro h k hk; exact h k (by omega)
  · intro h k hk; exact h k (by omega)
theorem disAll_zero (z : List (List Int)) : ∀ n, disAll z n = 0 ↔ ∀ i, i < n → rowSortedB (row z i) = true
  | 0 => by simp [disAll]
  | n + 1 => by
    rw [disAll, Nat.add_eq_zero_iff, disAll_zero z n, disRow_zero]
    constructor
    · rintro ⟨h1, h2⟩ i hi
      by_cases e : i = n
      · rw [e]; exact h2
      · exact h1 i (by omega)
    · intro h; exact ⟨fun i hi => h i (by omega), h n (by omega)⟩
theorem disL_zero (z : List (List Int)) : disL z = 0 ↔ sortedB z = true := by
  unfold disL
  rw [disAll_zero]
  constructor
  · intro h; exact sorted_all h
  · intro h i hi
    unfold sortedB at h
    exact (List.all_eq_true.1 h) _ (row_mem hi)
theorem dis_zero (z : List (List Int)) : decide (disL z + disL (turnL z) = 0) = (sortedB z && sortedB (turnL z)) := by
  rw [Bool.eq_iff_iff, decide_eq_true_eq, Nat.add_eq_zero_iff, disL_zero, disL_zero, Bool.and_eq_true]
end Qb

end Go.Proofs.Ytcljhjfmhnmgnaa
