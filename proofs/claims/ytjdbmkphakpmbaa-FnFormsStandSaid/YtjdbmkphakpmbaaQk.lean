/- What the composite law on formations that stand asks: pairs in order, squares, triangles, hollow squares, places. Plain. -/
import Derived.Test.YtjdbmkphakpmbaaFoC
import Derived.Test.YtjdbmkphakpmbaaFoR
import Derived.Test.YtjdbmkphakpmbaaFo
namespace Go.Proofs.Ytjdbmkphakpmbaa
open Go.ChangeShapes Go.WideShapes Go.ChangeAt Go.RowKit
open Fo

namespace Fs
theorem coll_pair {α : Type} {R : α → α → Prop} {p : Nat → Bool} {g : Nat → α} (h : ∀ i j, 1 ≤ i → i < j → p i = true → p j = true → R (g i) (g j)) : ∀ k, (collTo p g k).Pairwise R
  | 0 => List.Pairwise.nil
  | k + 1 => by
    rw [collTo]
    split
    · rename_i hp
      rw [List.pairwise_append]
      refine ⟨coll_pair h k, List.pairwise_singleton _ _, fun a ha b hb => ?_⟩
      obtain ⟨i, h1, h2, h3, rfl⟩ := collTo_mem k a ha
      rw [List.mem_singleton] at hb
      subst hb
      exact h i (k + 1) h1 (by omega) h3 hp
    · exact coll_pair h k
/-- the first of a pair -/
def fst (r : List Int) : Int := r.getD 0 0
structure Pairs (L : List (List Int)) (E : Nat → Nat → Prop) : Prop where
  each : ∀ k, k < L.length → ∃ x y : Nat, L.getD k [] = [(x : Int), (y : Int)] ∧ E x y
  rise : ∀ k, 0 < k → k < L.length → fst (L.getD (k - 1) []) < fst (L.getD k [])
theorem pairs_of {L : List (List Int)} {E : Nat → Nat → Prop} (h1 : ∀ r ∈ L, ∃ x y : Nat, r = [(x : Int), (y : Int)] ∧ E x y) (h2 : L.Pairwise fun a b => fst a < fst b) : Pairs L E := by
  refine ⟨fun k hk => h1 _ (by rw [List.getD_eq_getElem?_getD, List.getElem?_eq_getElem hk]; exact List.getElem_mem hk), fun k h0 hk => ?_⟩
  rw [List.pairwise_iff_getElem] at h2
  have := h2 (k - 1) k (by omega) hk (by omega)
  simpa [List.getD_eq_getElem?_getD, List.getElem?_eq_getElem hk, List.getElem?_eq_getElem (show k - 1 < L.length by omega)] using this
theorem rect_pairs (n : Nat) : Pairs (rectL n) (fun x y => 1 ≤ x ∧ x ≤ y ∧ x * y = n) := by
  refine pairs_of (fun r hr => ?_) (coll_pair (fun i j _ hij _ _ => by show (i : Int) < (j : Int); omega) n)
  obtain ⟨i, h1, h2, h3, rfl⟩ := collTo_mem n r hr
  unfold rectP at h3
  rw [Bool.and_eq_true, decide_eq_true_eq, decide_eq_true_eq] at h3
  have hm : i * (n / i) = n := Nat.mul_div_cancel' (Nat.dvd_of_mod_eq_zero h3.2)
  refine ⟨i, n / i, rfl, h1, ?_, hm⟩
  exact (Nat.le_div_iff_mul_le h1).2 h3.1
theorem rect_some {n : Nat} (h : 1 ≤ n) : 1 ≤ (rectL n).length := by
  have : ∀ k, 1 ≤ k → k ≤ n → 1 ≤ (collTo (rectP n) (rectG n) k).length := by
    intro k
    induction k with
    | zero => intro h; omega
    | succ k ih =>
      intro _ hk
      rw [collTo]
      split
      · simp
      · rename_i hp
        rcases Nat.eq_zero_or_pos k with rfl | h0
        · exfalso; apply hp; unfold rectP; rw [decide_eq_true (by omega), decide_eq_true (by omega)]; rfl
        · exact ih h0 (by omega)
  exact this n h (Nat.le_refl _)
theorem hollow_lt {q s t a b : Nat} (hst : s < t) (h1 : t * a = q) (h2 : s * b = q) (hta : t < a) : a + t < b + s := by
  obtain ⟨e, rfl⟩ : ∃ e, t = s + e := ⟨t - s, by omega⟩
  have hab : a < b := by
    rcases Nat.lt_or_ge a b with h | h
    · exact h
    · have h3 : s * b ≤ s * a := Nat.mul_le_mul_left _ h
      have h4 : (s + e) * a = s * a + e * a := Nat.add_mul _ _ _
      have h5 : 1 * 1 ≤ e * a := Nat.mul_le_mul (by omega) (by omega)
      omega
  obtain ⟨d, rfl⟩ : ∃ d, b = a + d := ⟨b - a, by omega⟩
  have h3 : (s + e) * a = s * a + e * a := Nat.add_mul _ _ _
  have h4 : s * (a + d) = s * a + s * d := Nat.mul_add _ _ _
  have h5 : e * a = s * d := by omega
  rcases Nat.lt_or_ge e d with h | h
  · omega
  · exfalso
    have h6 : s * d ≤ s * e := Nat.mul_le_mul_left _ h
    have h7 : e * (s + 1) ≤ e * a := Nat.mul_le_mul_left _ (by omega)
    have h8 : e * (s + 1) = e * s + e := by rw [Nat.mul_add, Nat.mul_one]
    rw [Nat.mul_comm e s] at h8
    omega
structure HollowE (n s t : Nat) : Prop where
  t1 : 1 ≤ t
  st : 2 * t < s
  s1 : s ≤ 1000001
  cnt : 4 * t * (s - t) = n
  great : t ≤ 1000 → greatB n t = true ∧ n / 4 / t + t = s ∧ 4 * t * (n / 4 / t) = n
theorem hollow_pairs {n : Nat} (hn : 1 ≤ n) (hn2 : n ≤ 1000000) : Pairs (hollowL n) (HollowE n) := by
  have key : ∀ i, hollowP n i = true → 1 ≤ i → n % 4 = 0 ∧ i * (n / 4 / i) = n / 4 ∧ 2 * i < n / 4 / i + i := by
    intro i h3 _
    unfold hollowP at h3
    rw [Bool.and_eq_true, Bool.and_eq_true, decide_eq_true_eq, decide_eq_true_eq, decide_eq_true_eq] at h3
    exact ⟨h3.1, Nat.mul_div_cancel' (Nat.dvd_of_mod_eq_zero h3.2.1), h3.2.2⟩
  unfold hollowL
  rw [downTo_rev]
  refine pairs_of (fun r hr => ?_) ?_
  · rw [List.mem_reverse] at hr
    obtain ⟨i, h1, h2, h3, rfl⟩ := collTo_mem _ r hr
    obtain ⟨k1, k2, k3⟩ := key i h3 h1
    have hq : n / 4 / i ≤ n / 4 := Nat.div_le_self _ _
    have h4 : 4 * i * (n / 4 / i) = n := by rw [Nat.mul_assoc, k2]; omega
    refine ⟨n / 4 / i + i, i, rfl, h1, k3, by omega, by rw [Nat.add_sub_cancel]; exact h4, fun ht => ⟨?_, rfl, h4⟩⟩
    unfold greatB
    rw [inB_of (by omega), inB_of (by omega), Bool.true_and, Bool.true_and, decide_eq_true_eq]
    have : ((n : Int) / 4 / (i : Int)) = ((n / 4 / i : Nat) : Int) := by simp
    rw [this]; omega
  · rw [List.pairwise_reverse]
    refine coll_pair (fun i j h1 hij hi hj => ?_) _
    obtain ⟨a1, a2, a3⟩ := key i hi h1
    obtain ⟨b1, b2, b3⟩ := key j hj (by omega)
    show (((n / 4 / j + j : Nat)) : Int) < ((n / 4 / i + i : Nat) : Int)
    have := hollow_lt hij b2 a2 (by omega)
    omega
theorem two_pairs (n : Nat) : Pairs (twoL n) (fun x y => 1 ≤ x ∧ x ≤ y ∧ x * x + y * y = n) := by
  refine pairs_of (fun r hr => ?_) (coll_pair (fun i j _ hij _ _ => by show (i : Int) < (j : Int); omega) n)
  obtain ⟨i, h1, h2, h3, rfl⟩ := collTo_mem n r hr
  unfold twoP at h3
  rw [Bool.and_eq_true, decide_eq_true_eq, decide_eq_true_eq] at h3
  refine ⟨i, root (n - i * i), rfl, h1, ?_, h3.2⟩
  refine sq_le_root ?_
  have : 2 * i * i = 2 * (i * i) := Nat.mul_assoc _ _ _
  omega
theorem square_is (n : Nat) : root n * root n + (n - root n * root n) = n ∧ n - root n * root n ≤ 2 * root n := by
  have h := root_spec n
  have := sq_succ (root n)
  omega
theorem tri_is (n : Nat) : tri n * (tri n + 1) / 2 + triLeft n = n ∧ triLeft n ≤ tri n := by
  have h := tri_spec n
  have h1 := tri_succ (tri n)
  have h2 := tri_even (tri n)
  unfold triLeft
  omega
structure SqTri (n : Nat) (L : List Int) : Prop where
  rise : L.Pairwise (· < ·)
  len : L.length ≤ 1000000
  each : ∀ k, k < L.length → ∃ m : Nat, L.getD k 0 = (m : Int) ∧ m ≤ n ∧ outSquareOf_2 (m : Int) = true ∧ outSquareOf_1 (m : Int) = 0 ∧ outTriangleOf_2 (m : Int) = true ∧ outTriangleOf_1 (m : Int) = 0
theorem sqtri_is {n : Nat} (hn2 : n ≤ 1000000) : SqTri n (sqTriL n) := by
  refine ⟨coll_pair (fun i j h1 hij _ _ => ?_) n, Nat.le_trans (collTo_len _ _ _) hn2, fun k hk => ?_⟩
  · show ((i * i : Nat) : Int) < ((j * j : Nat) : Int)
    have := Nat.mul_lt_mul_of_lt_of_le hij (Nat.le_of_lt hij) (by omega)
    omega
  · have hm : (sqTriL n).getD k 0 ∈ sqTriL n := by rw [List.getD_eq_getElem?_getD, List.getElem?_eq_getElem hk]; exact List.getElem_mem hk
    obtain ⟨i, h1, h2, h3, he⟩ := collTo_mem n _ hm
    unfold sqTriP at h3
    rw [Bool.and_eq_true, decide_eq_true_eq, decide_eq_true_eq] at h3
    have hi : 1 * 1 ≤ i * i := Nat.mul_le_mul h1 h1
    have hs : soldB ((i * i : Nat) : Int) = true := inB_of (by omega)
    have hr : root (i * i) = i := (root_unique (Nat.le_refl _) (by have := sq_succ i; omega)).symm
    refine ⟨i * i, he, h3.1, hs, ?_, hs, ?_⟩
    · unfold outSquareOf_1; rw [if_pos hs, Int.toNat_natCast, hr]; omega
    · unfold outTriangleOf_1; rw [if_pos hs, Int.toNat_natCast, h3.2]; rfl
/-- numbers alone -/
theorem hollow_num (s t : Int) : s * s - (s - 2 * t) * (s - 2 * t) = 4 * t * (s - t) := by
  have e1 : (s - 2 * t) * (s - 2 * t) = s * s - 2 * (s * t) - 2 * (t * s) + 4 * (t * t) := by
    rw [Int.sub_mul, Int.mul_sub, Int.mul_sub, show s * (2 * t) = 2 * (s * t) from Int.mul_left_comm _ _ _, show 2 * t * s = 2 * (t * s) from Int.mul_assoc _ _ _, show 2 * t * (2 * t) = 4 * (t * t) by rw [Int.mul_assoc, show t * (2 * t) = 2 * (t * t) from Int.mul_left_comm _ _ _, ← Int.mul_assoc]; rfl]
    omega
  have e2 : 4 * t * (s - t) = 4 * (t * s) - 4 * (t * t) := by rw [Int.mul_sub, Int.mul_assoc, Int.mul_assoc]
  rw [e1, e2, Int.mul_comm s t]; omega
/-- all that the law asks of n soldiers -/
structure FormFacts (n : Int) (r1 r2 r3 : List (List Int)) (r4 : List Int) (sd ov tw lf : Int) : Prop where
  n1 : 1 ≤ n
  n2 : n ≤ 1000000
  rect : Pairs r1 (fun x y => 1 ≤ x ∧ x ≤ y ∧ y ≤ 1000000 ∧ (x : Int) * (y : Int) = n)
  some : 1 ≤ r1.length
  hol : Pairs r2 (fun s t => 1 ≤ t ∧ 2 * t < s ∧ s ≤ 1000001 ∧ (s : Int) * (s : Int) - ((s : Int) - 2 * (t : Int)) * ((s : Int) - 2 * (t : Int)) = n ∧ (t ≤ 1000 → outGreatestHollow_2 n (t : Int) = true ∧ outGreatestHollow_0 n (t : Int) = (s : Int) ∧ outGreatestHollow_1 n (t : Int) = 0))
  two : Pairs r3 (fun x y => 1 ≤ x ∧ x ≤ y ∧ y ≤ 1000 ∧ (x : Int) * (x : Int) + (y : Int) * (y : Int) = n)
  tri : SqTri n.toNat r4
  s1 : sd * sd + ov = n
  s2 : 0 ≤ ov
  s3 : ov ≤ 2 * sd
  s4 : 0 ≤ sd
  s5 : sd ≤ 1000
  t1 : tw * (tw + 1) / 2 + lf = n
  t2 : 0 ≤ lf
  t3 : lf ≤ tw
  t4 : 0 ≤ tw
  t5 : tw ≤ 1500
  len : r1.length ≤ 1000000000 ∧ r2.length ≤ 1000000000 ∧ r3.length ≤ 1000000000
theorem Pairs.imp {L : List (List Int)} {E F : Nat → Nat → Prop} (h : Pairs L E) (hi : ∀ x y, E x y → F x y) : Pairs L F :=
  ⟨fun k hk => let ⟨x, y, h1, h2⟩ := h.each k hk; ⟨x, y, h1, hi x y h2⟩, h.rise⟩
theorem form_facts {n : Int} (h : soldB n = true) : FormFacts n (outRectanglesOf_0 n) (outHollowsOf_0 n) (outTwoSquares_0 n) (outSquareTriangles_0 n) (outSquareOf_0 n) (outSquareOf_1 n) (outTriangleOf_0 n) (outTriangleOf_1 n) := by
  have hl1 := (lenRectanglesOf_0 n).1
  have hl2 := (lenHollowsOf_0 n).1
  have hl3 := (lenTwoSquares_0 n).1
  have e1 : outRectanglesOf_0 n = rectL n.toNat := by unfold outRectanglesOf_0; rw [if_pos h]
  have e2 : outHollowsOf_0 n = hollowL n.toNat := by unfold outHollowsOf_0; rw [if_pos h]
  have e3 : outTwoSquares_0 n = twoL n.toNat := by unfold outTwoSquares_0; rw [if_pos h]
  have e4 : outSquareTriangles_0 n = sqTriL n.toNat := by unfold outSquareTriangles_0; rw [if_pos h]
  have e5 : outSquareOf_0 n = (root n.toNat : Nat) := by unfold outSquareOf_0; rw [if_pos h]
  have e6 : outSquareOf_1 n = n - ((root n.toNat * root n.toNat : Nat) : Int) := by unfold outSquareOf_1; rw [if_pos h]
  have e7 : outTriangleOf_0 n = (tri n.toNat : Nat) := by unfold outTriangleOf_0; rw [if_pos h]
  have e8 : outTriangleOf_1 n = (triLeft n.toNat : Nat) := by unfold outTriangleOf_1; rw [if_pos h]
  rw [e1] at hl1 ⊢
  rw [e2] at hl2 ⊢
  rw [e3] at hl3 ⊢
  rw [e4, e5, e6, e7, e8]
  obtain ⟨m, rfl, h1, h2⟩ := sold_nat h
  simp only [Int.toNat_natCast] at hl1 hl2 hl3 ⊢
  have hsq := square_is m
  have htr := tri_is m
  have hrt : root m ≤ 1000 := root_bd h2
  have htl : tri m ≤ 1500 := tri_le (by omega)
  refine ⟨by omega, by omega, (rect_pairs m).imp (fun x y ⟨a, b, c⟩ => ⟨a, b, ?_, ?_⟩), rect_some h1, (hollow_pairs h1 h2).imp (fun s t ⟨a, b, c, d, e⟩ => ⟨a, b, c, ?_, fun ht => ?_⟩), (two_pairs m).imp (fun x y ⟨a, b, c⟩ => ⟨a, b, ?_, ?_⟩), by rw [Int.toNat_natCast]; exact sqtri_is h2, ?_, by omega, by omega, by omega, by omega, ?_, by omega, by omega, by omega, by omega, hl1, hl2, hl3⟩
  · have : 1 * y ≤ x * y := Nat.mul_le_mul_right _ a
    omega
  · rw [← Int.natCast_mul, c]
  · rw [hollow_num, ← d, Int.natCast_mul, Int.natCast_mul, Int.natCast_sub (by omega)]; rfl
  · obtain ⟨g1, g2, g3⟩ := e ht
    have hg : ((m : Int) / 4 / (t : Int)) = ((m / 4 / t : Nat) : Int) := by simp
    refine ⟨g1, ?_, ?_⟩
    · unfold outGreatestHollow_0; rw [if_pos g1, hg]; omega
    · unfold outGreatestHollow_1; rw [if_pos g1, hg]
      have : ((4 * t * (m / 4 / t) : Nat) : Int) = 4 * (t : Int) * ((m / 4 / t : Nat) : Int) := by rw [Int.natCast_mul, Int.natCast_mul]; rfl
      rw [← this, g3]; omega
  · have : y * 1 ≤ y * y ∨ y = 0 := by
      rcases Nat.eq_zero_or_pos y with h | h
      · exact .inr h
      · exact .inl (Nat.mul_le_mul_left _ h)
    have h3 : y * y ≤ 1000 * 1000 := by omega
    rcases Nat.lt_or_ge 1000 y with h4 | h4
    · have := Nat.mul_le_mul (show 1001 ≤ y from h4) (show 1001 ≤ y from h4); omega
    · exact h4
  · rw [← Int.natCast_mul, ← Int.natCast_mul, ← Int.natCast_add, c]
  · rw [← Int.natCast_mul]; omega
  · have : (((tri m * (tri m + 1) : Nat)) : Int) = (tri m : Int) * ((tri m : Int) + 1) := by rw [Int.natCast_mul, Int.natCast_add]; rfl
    rw [← this]; omega
/-- numbers alone: the second half of the law -/
theorem count_hollow {s t : Int} (h : outCountHollow_1 s t = true) : 3 ≤ s ∧ s ≤ 1000 ∧ 1 ≤ t ∧ t ≤ 500 ∧ s * s - (s - 2 * t) * (s - 2 * t) = outCountHollow_0 s t := by
  have h2 := h
  unfold outCountHollow_1 hollowB at h2
  rw [Bool.and_eq_true] at h2
  have a := inB_yes h2.1
  have b := inB_yes h2.2
  refine ⟨a.1, a.2, b.1, by omega, ?_⟩
  unfold outCountHollow_1 at h
  unfold outCountHollow_0
  rw [if_pos h, hollow_num]
theorem great_hollow {n t : Int} (h : outGreatestHollow_2 n t = true) : 1 ≤ n ∧ n ≤ 1000000 ∧ 1 ≤ t ∧ t ≤ 1000 ∧ 2 * t < outGreatestHollow_0 n t ∧ outGreatestHollow_0 n t ≤ 251000 ∧ 4 * t * (outGreatestHollow_0 n t - t) + outGreatestHollow_1 n t = n ∧ 0 ≤ outGreatestHollow_1 n t ∧ outGreatestHollow_1 n t < 4 * t := by
  have h2 := h
  unfold outGreatestHollow_2 greatB at h2
  rw [Bool.and_eq_true, Bool.and_eq_true, decide_eq_true_eq] at h2
  have a := inB_yes h2.1
  have b := inB_yes h2.2.1
  have c := great_in h2.1 h2.2.1
  unfold outGreatestHollow_2 at h
  unfold outGreatestHollow_0 outGreatestHollow_1
  rw [if_pos h, if_pos h, Int.add_sub_cancel]
  refine ⟨a.1, a.2, b.1, b.2, h2.2.2, by omega, by omega, by omega, ?_⟩
  have d := Int.emod_lt_of_pos (n / 4) (show 0 < t by omega)
  have e := Int.mul_ediv_add_emod (n / 4) t
  have f : 4 * t * (n / 4 / t) = 4 * (t * (n / 4 / t)) := Int.mul_assoc _ _ _
  omega
theorem place_in {c s : Int} (h : outPlaceIn_2 c s = true) : 1 ≤ c ∧ c ≤ 1000 ∧ 0 ≤ s ∧ s ≤ 999999 ∧ outSnakePlace_0 c s = outPlaceIn_0 c s ∧ outPlaceIn_0 c s * c + outPlaceIn_1 c s = s ∧ 0 ≤ outPlaceIn_0 c s ∧ outPlaceIn_0 c s ≤ 999999 ∧ 0 ≤ outPlaceIn_1 c s ∧ outPlaceIn_1 c s < c ∧
    outSnakePlace_1 c s = (if outPlaceIn_0 c s % 2 = 1 then c - 1 - outPlaceIn_1 c s else outPlaceIn_1 c s) ∧
    (outPlaceIn_0 c s ≤ 1000 → outSoldierAt_1 c (outPlaceIn_0 c s) (outPlaceIn_1 c s) = true ∧ outSoldierAt_0 c (outPlaceIn_0 c s) (outPlaceIn_1 c s) = s ∧ outSoldierOfSnake_1 c (outPlaceIn_0 c s) (outSnakePlace_1 c s) = true ∧ outSoldierOfSnake_0 c (outPlaceIn_0 c s) (outSnakePlace_1 c s) = s) := by
  have h2 := placed_yes h
  obtain ⟨c1, c2, s1, s2⟩ := h2
  unfold outPlaceIn_2 at h
  have e0 : outPlaceIn_0 c s = s / c := by unfold outPlaceIn_0; rw [if_pos h]
  have e1 : outPlaceIn_1 c s = s % c := by unfold outPlaceIn_1; rw [if_pos h]
  have e2 : outSnakePlace_0 c s = s / c := by unfold outSnakePlace_0; rw [if_pos h]
  have e3 : outSnakePlace_1 c s = snake c (s / c) (s % c) := by unfold outSnakePlace_1; rw [if_pos h]
  have m1 := Int.emod_nonneg s (show c ≠ 0 by omega)
  have m2 := Int.emod_lt_of_pos s (show 0 < c by omega)
  have m3 := Int.mul_ediv_add_emod s c
  have m4 : 0 ≤ s / c := Int.ediv_nonneg s1 (by omega)
  have m5 : s / c ≤ s := Int.ediv_le_self _ s1
  have m6 : s / c * c = c * (s / c) := Int.mul_comm _ _
  rw [e0, e1, e2, e3]
  refine ⟨c1, c2, s1, s2, rfl, by omega, m4, by omega, m1, m2, rfl, fun h10 => ?_⟩
  have ha : atB c (s / c) (s % c) = true := by unfold atB; rw [inB_of (by omega), inB_of (by omega), inB_of (by omega)]; rfl
  have hb : atB c (s / c) (snake c (s / c) (s % c)) = true := by
    unfold atB snake
    rw [inB_of (by omega), inB_of (by omega), inB_of (by split <;> omega)]; rfl
  refine ⟨ha, ?_, hb, ?_⟩
  · unfold outSoldierAt_0; rw [if_pos ha]; omega
  · unfold outSoldierOfSnake_0; rw [if_pos hb]
    unfold snake
    by_cases q : s / c % 2 = 1
    · simp only [if_pos q]; omega
    · simp only [if_neg q]; omega
end Fs
end Go.Proofs.Ytjdbmkphakpmbaa
