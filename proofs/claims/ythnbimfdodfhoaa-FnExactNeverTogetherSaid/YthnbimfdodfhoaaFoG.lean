/- Chapter 3, columns: the model's StepOf, LeastWith, CanBeLeft, CountWith. -/
import Derived.Test.YthnbimfdodfhoaaFoF
namespace Go.Proofs.Ythnbimfdodfhoaa
open Go.ChangeShapes Go.WideShapes Go.ChangeAt Go.RowKit
open Fo

/-- what stands behind good columns and what is left over -/
theorem left_parts {zs ls : List Int} (h : leftB zs ls = true) : ∃ cs l2 : List Nat, zs = asInts cs ∧ ls = asInts l2 ∧ l2.length = cs.length ∧ 1 ≤ cs.length ∧ cs.length ≤ 6 ∧ (∀ i, 1 ≤ cs.getD i 1 ∧ cs.getD i 1 ≤ 1000) ∧ ∀ i, l2.getD i 0 ≤ 1000 := by
  obtain ⟨h1, h2, h3⟩ := left_cols h
  obtain ⟨cs, rfl, h4, h5, h6⟩ := cols_nat h1
  obtain ⟨l2, rfl⟩ := left_nat h
  rw [asInts_len, asInts_len] at h2
  refine ⟨cs, l2, rfl, rfl, h2, h4, h5, col_bd h6, fun i => ?_⟩
  by_cases hi : i < l2.length
  · obtain ⟨hx1, hx2⟩ := inB_yes (h3 i (by rw [asInts_len]; exact hi))
    rw [getD_asInts] at hx1 hx2
    rw [getD_asInts, getD_in (cs := cs) (by omega)] at hx2
    obtain ⟨hy1, hy2⟩ := col_bd h6 i
    generalize l2.getD i 0 = x at *
    generalize cs.getD i 1 = y at *
    omega
  · simp only [List.getD_eq_getElem?_getD, List.getElem?_eq_none (by omega : l2.length ≤ i), Option.getD_none]; omega


theorem leastR_some {cs l2 : List Nat} {k n : Nat} (h : leastO cs l2 k = some n) : leastA cs l2 k = n ∧ leastS cs l2 k = lcmTo cs k := by unfold leastA leastS; rw [h]; exact ⟨rfl, rfl⟩
theorem leastO_lt {cs l2 : List Nat} {k n : Nat} (h : leastO cs l2 k = some n) : n < lcmTo cs k := by
  unfold leastO at h
  exact List.mem_range.1 (List.mem_of_find?_eq_some h)




end Go.Proofs.Ythnbimfdodfhoaa
