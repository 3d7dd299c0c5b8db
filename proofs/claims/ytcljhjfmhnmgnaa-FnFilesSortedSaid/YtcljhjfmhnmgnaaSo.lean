/- slices.Sort at ints, by the shelf's contract: the cells behind it, told on the block. -/
import Derived.Test.YtcljhjfmhnmgnaaKa
import Derived.Test.YtcljhjfmhnmgnaaShs
namespace Go.Proofs.Ytcljhjfmhnmgnaa
open Go.ChangeShapes Go.WideShapes Go.ChangeAt Go.RowKit
open Fi

theorem putCells_ints (zs ys : List Int) (off : Nat) (h : off + ys.length ≤ zs.length) : Go.Sort.putCells (Value.int .i64) off ys.toArray (cellsI zs).toArray = (cellsI (splice zs off ys)).toArray := by
  apply Array.ext_getElem?
  intro k
  simp only [Go.Sort.putCells, Array.getElem?_mapIdx, List.getElem?_toArray, List.size_toArray]
  by_cases hk : k < zs.length
  · rw [cellsI_get zs k hk, cellsI_get _ k (by rw [length_splice _ _ _ h]; exact hk), getD_splice _ _ _ _ h, Option.map_some]
    by_cases h1 : off ≤ k ∧ k < off + ys.length
    · rw [if_pos h1, if_pos h1]
      have : k - off < ys.length := by omega
      simp [List.getD_eq_getElem?_getD, this]
    · rw [if_neg h1, if_neg h1]
  · have e1 : (cellsI zs)[k]? = none := List.getElem?_eq_none (by rw [length_cellsI]; omega)
    have e2 : (cellsI (splice zs off ys))[k]? = none := List.getElem?_eq_none (by rw [length_cellsI, length_splice _ _ _ h]; omega)
    rw [e1, e2]; rfl

set_option maxRecDepth 20000 in
theorem sort_any (w : World) (g : Nat) (t : TypeId) (off n cap : Nat) (zs : List Int) (h : Blk w g t (cellsI zs)) (hn : off + n ≤ zs.length) (hb : n ≤ 1000000000) :
    Calls Try.prog 71 #[.slice (some ⟨g, off, none⟩) n cap] w fun e w' => e = .returned (.tuple #[]) ∧ Blk w' g t (cellsI (splice zs off (sortL ((zs.drop off).take n)))) ∧ w.grownBy w' (some g) := by
  have hl : ((zs.drop off).take n).length = n := by rw [List.length_take, List.length_drop]; omega
  have hH : Go.Sort.Holds (Value.int .i64) w g off ((zs.drop off).take n).toArray := fun j hj => by
    rw [List.size_toArray, hl] at hj
    refine ⟨?_, h.free _⟩
    rw [h.celI (off + j) (by omega)]
    have e : ((zs.drop off).take n)[j]? = zs[off + j]? := by rw [List.getElem?_take, if_pos hj, List.getElem?_drop]
    simp only [List.getElem!_toArray, List.getElem!_eq_getElem?_getD, List.getD_eq_getElem?_getD, e]
    rfl
  have hc := Try.slices_Sort_int g off cap ((zs.drop off).take n) w hH h.lt (by omega)
  rw [hl, merge_sortL] at hc
  refine hc.mono ?_
  rintro e w' ⟨he, m, os, rfl⟩
  have hs : (sortL ((zs.drop off).take n)).length = n := by rw [length_sortL, hl]
  have hlt := h.lt
  refine ⟨he, ?_, ⟨rfl, rfl, rfl, ?_, fun k hk hr => ?_⟩⟩
  · unfold Blk
    rw [Go.Sort.heap_grow_old _ _ (by rw [Go.Sort.size_putRow]; exact hlt)]
    unfold Go.Sort.putRow Go.Sort.mapBlock
    have h2 : (Go.Sort.ahead w m).heap[g]? = some (.cells (cellsI zs).toArray t (0, 0)) := h
    simp only [Array.getElem?_modify, if_pos, h2, Option.map_some, Go.Sort.onCells]
    rw [putCells_ints _ _ _ (by rw [hs]; exact hn)]
  · rw [Go.Sort.size_grow, Go.Sort.size_putRow]; exact Nat.le_add_right _ _
  · rw [Go.Sort.heap_grow_old _ _ (by rw [Go.Sort.size_putRow]; exact hk)]
    unfold Go.Sort.putRow Go.Sort.mapBlock
    have hne : g ≠ k := fun e => hr (by rw [e])
    simp only [Array.getElem?_modify, if_neg hne]
    rfl

end Go.Proofs.Ytcljhjfmhnmgnaa
