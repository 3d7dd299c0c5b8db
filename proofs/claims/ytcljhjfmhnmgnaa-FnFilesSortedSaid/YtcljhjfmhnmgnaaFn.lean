/- Chapter 6, the model: PlacesSearched, fiAll, CountUpTo, HeightOfRank, FileDisorder, ExchangeFiles. -/
import Derived.Test.YtcljhjfmhnmgnaaFm
import Derived.Test.YtcljhjfmhnmgnaaClone
namespace Go.Proofs.Ytcljhjfmhnmgnaa
open Go.ChangeShapes Go.WideShapes Go.ChangeAt Go.RowKit
open Fi

namespace Fi
/-- the places a search goes over, from row i and the column before kk on -/
def srch (zss : List (List Int)) (h : Int) (R : Nat) : Nat → Nat → Nat → List (List Int)
  | 0, _, _ => []
  | f + 1, i, kk =>
    if i < R ∧ 0 < kk then
      [(i : Int), ((kk - 1 : Nat) : Int)] :: (if (row zss i).getD (kk - 1) 0 = h then [] else if h < (row zss i).getD (kk - 1) 0 then srch zss h R f i (kk - 1) else srch zss h R f (i + 1) kk)
    else []
def searchL (zss : List (List Int)) (h : Int) : List (List Int) := srch zss h zss.length (zss.length + (row zss 0).length) 0 (row zss 0).length
theorem srch_mem (zss : List (List Int)) (h : Int) (R : Nat) : ∀ f i kk, (srch zss h R f i kk).length ≤ f ∧ ∀ x ∈ srch zss h R f i kk, x.length = 2
  | 0, _, _ => ⟨by simp [srch], by simp [srch]⟩
  | f + 1, i, kk => by
    have h1 := srch_mem zss h R f i (kk - 1)
    have h2 := srch_mem zss h R f (i + 1) kk
    rw [srch]
    split
    · split
      · exact ⟨by simp, by simp⟩
      · split
        · exact ⟨by simp; exact h1.1, by simp; exact h1.2⟩
        · exact ⟨by simp; exact h2.1, by simp; exact h2.2⟩
    · exact ⟨by simp, by simp⟩
/-- all heights, row by row -/
def flatTo (zss : List (List Int)) : Nat → List Int
  | 0 => []
  | k + 1 => flatTo zss k ++ row zss k
def allL (zss : List (List Int)) : List Int := sortL (flatTo zss zss.length)
theorem length_flatTo {zss : List (List Int)} {R C : Nat} (g : Fi.Good zss R C) : ∀ k, k ≤ R → (flatTo zss k).length = k * C
  | 0, _ => by simp [flatTo]
  | k + 1, hk => by rw [flatTo, List.length_append, length_flatTo g k (by omega), g.cols k (by omega), Nat.succ_mul]
theorem length_allL {zss : List (List Int)} {R C : Nat} (g : Fi.Good zss R C) : (allL zss).length = R * C := by
  unfold allL
  rw [length_sortL, g.rows, length_flatTo g R (Nat.le_refl _)]
/-- how many of the first j are at most so great -/
def leTo (zs : List Int) (h : Int) : Nat → Nat
  | 0 => 0
  | j + 1 => if zs.getD j 0 ≤ h then leTo zs h j + 1 else leTo zs h j
theorem leTo_le (zs : List Int) (h : Int) : ∀ j, leTo zs h j ≤ j
  | 0 => Nat.le_refl _
  | j + 1 => by
    have := leTo_le zs h j
    rw [leTo]; split <;> omega
/-- how many of the first m pairs of neighbours are in disorder -/
def disTo (r : List Int) : Nat → Nat
  | 0 => 0
  | m + 1 => if r.getD (m + 1) 0 < r.getD m 0 then disTo r m + 1 else disTo r m
def disRow (r : List Int) : Nat := disTo r (r.length - 1)
def disAll (zss : List (List Int)) : Nat → Nat
  | 0 => 0
  | i + 1 => disAll zss i + disRow (row zss i)
def disL (zss : List (List Int)) : Nat := disAll zss zss.length
theorem disTo_le (r : List Int) : ∀ m, disTo r m ≤ m
  | 0 => Nat.le_refl _
  | m + 1 => by
    have := disTo_le r m
    rw [disTo]; split <;> omega
theorem disAll_le {zss : List (List Int)} {c : Nat} (h : ∀ i, (row zss i).length ≤ c) : ∀ i, disAll zss i ≤ i * c
  | 0 => by simp [disAll]
  | i + 1 => by
    have h1 := disAll_le h i
    have h2 := disTo_le (row zss i) ((row zss i).length - 1)
    have h3 := h i
    rw [disAll, Nat.succ_mul]
    unfold disRow
    omega
/-- the rows up to i, two exchanged -/
def exRow (zss : List (List Int)) (a b i : Nat) : List Int := if i = a then row zss b else if i = b then row zss a else row zss i
def exTo (zss : List (List Int)) (a b k : Nat) : List (List Int) := (List.range k).map (exRow zss a b)
theorem exTo_succ (zss : List (List Int)) (a b k : Nat) : exTo zss a b (k + 1) = exTo zss a b k ++ [exRow zss a b k] := by unfold exTo; rw [List.range_succ, List.map_append]; rfl
theorem length_exTo (zss : List (List Int)) (a b k : Nat) : (exTo zss a b k).length = k := by simp [exTo]
theorem good_ex {zss : List (List Int)} {R C : Nat} (g : Fi.Good zss R C) {a b : Nat} (ha : a < R) (hb : b < R) : Fi.Good (exTo zss a b R) R C := by
  have hr : ∀ i, i < R → row (exTo zss a b R) i = exRow zss a b i := fun i hi => by
    unfold exTo
    show ((List.range _).map _).getD i [] = _
    rw [getD_range _ _ _ hi]
  refine ⟨length_exTo _ _ _ _, g.r1, g.r8, g.c1, g.c8, fun i hi => ?_, fun i hi => ?_⟩
  · rw [hr i hi]
    unfold exRow
    split
    · exact g.cols b hb
    · split
      · exact g.cols a ha
      · exact g.cols i hi
  · rw [hr i hi]
    unfold exRow
    split
    · exact g.all b hb
    · split
      · exact g.all a ha
      · exact g.all i hi
def serB (zss : List (List Int)) (h : Int) : Bool := goodF zss && (inB h 0 1000 && (sortedB zss && sortedB (turnL zss)))
def rankB (zss : List (List Int)) (k : Int) : Bool := goodF zss && inB k 0 ((zss.length : Int) * ((row zss 0).length : Int) - 1)
def exB (zss : List (List Int)) (a b : Int) : Bool := goodF zss && (inB a 0 ((zss.length : Int) - 1) && (inB b 0 ((zss.length : Int) - 1) && decide (a ≠ b)))
end Fi
def outPlacesSearched_0 (zss : List (List Int)) (h : Int) : List (List Int) := if serB zss h then searchL zss h else []
def outPlacesSearched_1 (zss : List (List Int)) (h : Int) : Bool := serB zss h
theorem lenPlacesSearched_0 (zss : List (List Int)) (h : Int) : (outPlacesSearched_0 zss h).length ≤ 1000000000 ∧ total (outPlacesSearched_0 zss h) ≤ 1000000000 := by
  unfold outPlacesSearched_0
  split
  · rename_i hb
    unfold serB at hb
    simp only [Bool.and_eq_true] at hb
    have g := good_of hb.1
    have h1 := srch_mem zss h zss.length (zss.length + (row zss 0).length) 0 (row zss 0).length
    exact fits_twos (Nat.le_trans h1.1 (by have := g.r8; have := g.c8; omega)) h1.2
  · exact fits_nilF
def outCountUpTo_0 (zss : List (List Int)) (h : Int) : Int := if goodF zss && inB h 0 1000 then (leTo (allL zss) h (allL zss).length : Nat) else 0
def outCountUpTo_1 (zss : List (List Int)) (h : Int) : Bool := goodF zss && inB h 0 1000
def outHeightOfRank_0 (zss : List (List Int)) (k : Int) : Int := if rankB zss k then (allL zss).getD k.toNat 0 else 0
def outHeightOfRank_1 (zss : List (List Int)) (k : Int) : Bool := rankB zss k
def outFileDisorder_0 (zss : List (List Int)) : Int := if goodF zss then (disL zss + disL (turnL zss) : Nat) else 0
def outFileDisorder_1 (zss : List (List Int)) : Bool := goodF zss
def outExchangeFiles_0 (zss : List (List Int)) (a b : Int) : List (List Int) := if exB zss a b then exTo zss a.toNat b.toNat zss.length else []
def outExchangeFiles_1 (zss : List (List Int)) (a b : Int) : Bool := exB zss a b
theorem lenExchangeFiles_0 (zss : List (List Int)) (a b : Int) : (outExchangeFiles_0 zss a b).length ≤ 1000000000 ∧ total (outExchangeFiles_0 zss a b) ≤ 1000000000 := by
  unfold outExchangeFiles_0
  split
  · rename_i h
    unfold exB at h
    simp only [Bool.and_eq_true] at h
    have h1 := inB_yes h.2.1
    have h2 := inB_yes h.2.2.1
    exact fits_good (good_ex (good_of h.1) (by omega) (by omega))
  · exact fits_nilF




end Go.Proofs.Ytcljhjfmhnmgnaa
