/- What the composite law on sorted files asks, out of files that are good. Plain. -/
import Derived.Test.YtcljhjfmhnmgnaaQb
import Derived.Test.YtcljhjfmhnmgnaaQs
import Derived.Test.YtcljhjfmhnmgnaaFk
import Derived.Test.YtcljhjfmhnmgnaaFia
namespace Go.Proofs.Ytcljhjfmhnmgnaa
open Go.ChangeShapes Go.WideShapes Go.ChangeAt Go.RowKit
open Fi Qb Qs

namespace Qb
structure Sad (z rS : List (List Int)) (lo hi : Int) : Prop where
  each : ∀ k, k < rS.length → ∃ i j : Nat, rS.getD k [] = [(i : Int), (j : Int)] ∧ i < z.length ∧ j < (z.getD i []).length ∧ (z.getD i []).getD j 0 = lo ∧ lo = hi
  some : decide (0 < rS.length) = decide (lo = hi)
structure FilesFacts (z rB rR rC rT rS : List (List Int)) (bR bC : Bool) (lo hi : Int) : Prop where
  b1 : outAreRowsSorted_0 rB = true
  b2 : outAreRowsSorted_1 rB = true
  c1 : outAreColumnsSorted_0 rB = true
  c2 : outAreColumnsSorted_1 rB = true
  d1 : outSortFileColumns_0 rR = rB
  d2 : outSortFileColumns_1 rR = true
  e1 : outTurnFiles_0 rT = z
  e2 : outTurnFiles_1 rT = true
  le : ¬ hi < lo
  a1 : sameR rR z = bR
  a2 : sameR rC z = bC
  sad : Sad z rS lo hi
  f1 : outFileDisorder_1 z = true
  f2 : decide (outFileDisorder_0 z = 0) = (bR && bC)
  f3 : 0 ≤ outFileDisorder_0 z
  g1 : outFileDisorder_1 rB = true
  g2 : outFileDisorder_0 rB = 0
  lB : LenSS rB
  lR : LenSS rR
  lT : LenSS rT
theorem Good.len {z : List (List Int)} {R C : Nat} (g : Fi.Good z R C) : LenSS z := g.fits.len
theorem files_facts {z : List (List Int)} (hz : goodF z = true) :
    FilesFacts z (outSortBoth_0 z) (outSortFileRows_0 z) (outSortFileColumns_0 z) (outTurnFiles_0 z) (outSaddlePlaces_0 z) (outAreRowsSorted_0 z) (outAreColumnsSorted_0 z) (outTallestOfShortest_0 z) (outShortestOfTallest_0 z) := by
  have g := good_of hz
  have gR := good_rows g
  have gC := good_cols g
  have gB := good_cols gR
  have gT := good_turn g
  have eB : outSortBoth_0 z = colsL (rowsL z) := by unfold outSortBoth_0; rw [if_pos hz]
  have eR : outSortFileRows_0 z = rowsL z := by unfold outSortFileRows_0; rw [if_pos hz]
  have eC : outSortFileColumns_0 z = colsL z := by unfold outSortFileColumns_0; rw [if_pos hz]
  have eT : outTurnFiles_0 z = turnL z := by unfold outTurnFiles_0; rw [if_pos hz]
  have eS : outSaddlePlaces_0 z = sadTo z z.length := by unfold outSaddlePlaces_0; rw [if_pos hz]
  have eL : outTallestOfShortest_0 z = tallTo z z.length := by unfold outTallestOfShortest_0; rw [if_pos hz]
  have eH : outShortestOfTallest_0 z = shortTo z (row z 0).length := by unfold outShortestOfTallest_0; rw [if_pos hz]
  have e1 : outAreRowsSorted_0 z = sortedB z := by unfold outAreRowsSorted_0; rw [hz]; rfl
  have e2 : outAreColumnsSorted_0 z = sortedB (turnL z) := by unfold outAreColumnsSorted_0; rw [hz]; rfl
  have sB : sortedB (colsL (rowsL z)) = true := both_rows gR sorted_rows
  have sC : sortedB (turnL (colsL (rowsL z))) = true := cols_sorted gR
  rw [eB, eR, eC, eT, eS, eL, eH, e1, e2]
  refine ⟨?_, of_good gB, ?_, of_good gB, ?_, of_good gR, ?_, of_good gT, ?_, ?_, ?_, ⟨?_, ?_⟩, hz, ?_, ?_, of_good gB, ?_, Good.len gB, Good.len gR, Good.len gT⟩
  · unfold outAreRowsSorted_0; rw [of_good gB, sB]; rfl
  · unfold outAreColumnsSorted_0; rw [of_good gB, sC]; rfl
  · unfold outSortFileColumns_0; rw [if_pos (of_good gR)]
  · unfold outTurnFiles_0; rw [if_pos (of_good gT)]; exact turn_turn g
  · have := low_high g; omega
  · rw [rows_same]; rfl
  · rw [cols_same g]; rfl
  · intro k hk
    have hm : (sadTo z z.length).getD k [] ∈ sadTo z z.length := by
      rw [List.getD_eq_getElem?_getD, List.getElem?_eq_getElem hk]; exact List.getElem_mem hk
    obtain ⟨i, j, h1, h2, h3, h4⟩ := (sadTo_iff z _ _).1 hm
    obtain ⟨q1, q2⟩ := sad_is g i j h1 h2 h3
    refine ⟨i, j, h4, h1, ?_, q1, q1.symm.trans q2⟩
    have hc := g.cols i h1
    unfold row at hc h2
    omega
  · exact sad_some g
  · unfold outFileDisorder_0
    rw [hz, if_pos rfl]
    have := dis_zero z
    rw [← this]
    exact decide_eq_decide.2 (by omega)
  · unfold outFileDisorder_0; rw [hz, if_pos rfl]; omega
  · have := dis_zero (colsL (rowsL z))
    rw [sB, sC] at this
    have h0 := of_decide_eq_true this
    unfold outFileDisorder_0
    rw [of_good gB, if_pos rfl]
    omega
end Qb
end Go.Proofs.Ytcljhjfmhnmgnaa
