/- Chapter 6, the model: fiOrder, fiRows, fiColumns; SortFileRows, SortFileColumns, SortBoth. -/
import Derived.Test.YtpoceonmlpnhlabDoorFk
import Derived.Test.YtpoceonmlpnhlabDoorOw
namespace Go.Proofs.YtpoceonmlpnhlabDoor
open Go.ChangeShapes Go.WideShapes Go.ChangeAt Go.RowKit
open Fi

namespace Fi
/-- where a height goes in behind the first k of some in order -/
def insAt (out : List Int) (h : Int) : Nat → Nat
  | 0 => 0
  | k + 1 => if h < out.getD k 0 then insAt out h k else k + 1
def insL (out : List Int) (h : Int) : List Int := out.take (insAt out h out.length) ++ [h] ++ out.drop (insAt out h out.length)
def sortTo (zs : List Int) : Nat → List Int
  | 0 => []
  | j + 1 => insL (sortTo zs j) (zs.getD j 0)
def sortL (zs : List Int) : List Int := sortTo zs zs.length
theorem insAt_le (out : List Int) (h : Int) : ∀ k, insAt out h k ≤ k
  | 0 => Nat.le_refl _
  | k + 1 => by
    have := insAt_le out h k
    rw [insAt]; split <;> omega
theorem length_insL (out : List Int) (h : Int) : (insL out h).length = out.length + 1 := by
  have := insAt_le out h out.length
  unfold insL
  simp
  omega
theorem length_sortTo (zs : List Int) : ∀ j, (sortTo zs j).length = j
  | 0 => rfl
  | j + 1 => by rw [sortTo, length_insL, length_sortTo zs j]
theorem length_sortL (zs : List Int) : (sortL zs).length = zs.length := length_sortTo _ _
theorem insL_nil (h : Int) : insL [] h = [h] := rfl
end Fi

theorem Came.takeZ {w : World} {a : Option Addr} {len k : Nat} {zs : List Int} (h : Came w a len zs) (hk : k ≤ len) : Came w a k (zs.take k) := by
  refine ⟨by rw [List.length_take, h.1]; omega, fun hp => ?_⟩
  obtain ⟨b, off, rfl, hcell⟩ := h.2 (by omega)
  refine ⟨b, off, rfl, fun j hj => ?_⟩
  have e : (zs.take k).getD j 0 = zs.getD j 0 := by simp only [List.getD_eq_getElem?_getD, List.getElem?_take, if_pos hj]
  rw [e]
  exact hcell j (by omega)
theorem Came.dropZ {w : World} {b off len k : Nat} {zs : List Int} (h : Came w (some ⟨b, off, none⟩) len zs) : Came w (some ⟨b, off + k, none⟩) (len - k) (zs.drop k) := by
  refine ⟨by rw [List.length_drop, h.1], fun hp => ?_⟩
  obtain ⟨b', off', e, hcell⟩ := h.2 (by omega)
  cases e
  refine ⟨b, off + k, rfl, fun j hj => ?_⟩
  have e : (zs.drop k).getD j 0 = zs.getD (k + j) 0 := by simp only [List.getD_eq_getElem?_getD, List.getElem?_drop]
  rw [e]
  have := hcell (k + j) (by omega)
  rw [show off + (k + j) = off + k + j by omega] at this
  exact this


namespace Fi
def rowsTo (zss : List (List Int)) (k : Nat) : List (List Int) := (List.range k).map fun i => sortL (row zss i)
def rowsL (zss : List (List Int)) : List (List Int) := rowsTo zss zss.length
def colsL (zss : List (List Int)) : List (List Int) := turnL (rowsL (turnL zss))
theorem rowsTo_succ (zss : List (List Int)) (k : Nat) : rowsTo zss (k + 1) = rowsTo zss k ++ [sortL (row zss k)] := by unfold rowsTo; rw [List.range_succ, List.map_append]; rfl
theorem length_rowsTo (zss : List (List Int)) (k : Nat) : (rowsTo zss k).length = k := by simp [rowsTo]
theorem row_rows (zss : List (List Int)) (k : Nat) (h : k < zss.length) : row (rowsL zss) k = sortL (row zss k) := by
  unfold rowsL rowsTo
  show ((List.range _).map _).getD k [] = _
  rw [getD_range _ _ _ h]
theorem allB_insL {out : List Int} {h lo hi : Int} (h1 : allB out lo hi = true) (h2 : inB h lo hi = true) : allB (insL out h) lo hi = true := by
  unfold allB at h1 ⊢
  unfold insL
  rw [List.all_eq_true] at h1 ⊢
  intro x hx
  simp only [List.mem_append, List.mem_singleton] at hx
  rcases hx with (hx | hx) | hx
  · exact h1 x (List.mem_of_mem_take hx)
  · subst hx; exact h2
  · exact h1 x (List.mem_of_mem_drop hx)
theorem allB_sortTo {zs : List Int} {lo hi : Int} (h : allB zs lo hi = true) : ∀ j, j ≤ zs.length → allB (sortTo zs j) lo hi = true
  | 0, _ => rfl
  | j + 1, hj => by
    rw [sortTo]
    exact allB_insL (allB_sortTo h j (by omega)) (inB_of (allB_get h j (by omega)))
theorem good_rows {zss : List (List Int)} {R C : Nat} (h : Good zss R C) : Good (rowsL zss) R C := by
  have hl : (rowsL zss).length = R := by unfold rowsL; rw [length_rowsTo, h.rows]
  refine ⟨hl, h.r1, h.r8, h.c1, h.c8, fun i hi => ?_, fun i hi => ?_⟩
  · rw [row_rows _ _ (by rw [h.rows]; exact hi), length_sortL, h.cols i hi]
  · rw [row_rows _ _ (by rw [h.rows]; exact hi)]
    exact allB_sortTo (h.all i hi) _ (Nat.le_refl _)
theorem good_cols {zss : List (List Int)} {R C : Nat} (h : Good zss R C) : Good (colsL zss) R C := good_turn (good_rows (good_turn h))
end Fi



def outSortFileRows_0 (zss : List (List Int)) : List (List Int) := if goodF zss then rowsL zss else []
def outSortFileRows_1 (zss : List (List Int)) : Bool := goodF zss
theorem lenSortFileRows_0 (zss : List (List Int)) : (outSortFileRows_0 zss).length ≤ 1000000000 ∧ total (outSortFileRows_0 zss) ≤ 1000000000 := by
  unfold outSortFileRows_0
  split
  · rename_i h
    exact fits_good (good_rows (good_of h))
  · exact fits_nilF
def outSortFileColumns_0 (zss : List (List Int)) : List (List Int) := if goodF zss then colsL zss else []
def outSortFileColumns_1 (zss : List (List Int)) : Bool := goodF zss
theorem lenSortFileColumns_0 (zss : List (List Int)) : (outSortFileColumns_0 zss).length ≤ 1000000000 ∧ total (outSortFileColumns_0 zss) ≤ 1000000000 := by
  unfold outSortFileColumns_0
  split
  · rename_i h
    exact fits_good (good_cols (good_of h))
  · exact fits_nilF
def outSortBoth_0 (zss : List (List Int)) : List (List Int) := if goodF zss then colsL (rowsL zss) else []
def outSortBoth_1 (zss : List (List Int)) : Bool := goodF zss
theorem lenSortBoth_0 (zss : List (List Int)) : (outSortBoth_0 zss).length ≤ 1000000000 ∧ total (outSortBoth_0 zss) ≤ 1000000000 := by
  unfold outSortBoth_0
  split
  · rename_i h
    exact fits_good (good_cols (good_rows (good_of h)))
  · exact fits_nilF




end Go.Proofs.YtpoceonmlpnhlabDoor
