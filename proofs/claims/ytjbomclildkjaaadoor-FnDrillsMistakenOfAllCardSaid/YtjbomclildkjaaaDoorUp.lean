/- Lists that a loop fills from the left: told index by index. -/
import Derived.Test.YtjbomclildkjaaaDoorOwn
import Derived.Deep.RegionHeldLaw
import Derived.WalkMore
namespace Go.Proofs.YtjbomclildkjaaaDoor
open Go.ChangeShapes Go.WideShapes Go.ChangeAt Go.RowKit

theorem ext_getD {α : Type} (d : α) {a b : List α} (hl : a.length = b.length) (h : ∀ i, i < a.length → a.getD i d = b.getD i d) : a = b := by
  apply List.ext_getElem hl
  intro i h1 h2
  have := h i h1
  simpa [List.getD_eq_getElem?_getD, h1, h2] using this

def upTo (f : Nat → Int) (k : Nat) : List Int := (List.range k).map f
theorem upTo_succ (f : Nat → Int) (k : Nat) : upTo f (k + 1) = upTo f k ++ [f k] := by unfold upTo; rw [List.range_succ, List.map_append]; rfl
theorem length_upTo (f : Nat → Int) (k : Nat) : (upTo f k).length = k := by simp [upTo]
theorem upTo_zero (f : Nat → Int) : upTo f 0 = [] := rfl
theorem getD_upTo (f : Nat → Int) (k j : Nat) (h : j < k) : (upTo f k).getD j 0 = f j := by simp [upTo, List.getD_eq_getElem?_getD, h]
theorem upTo_congr (f g : Nat → Int) (k : Nat) (h : ∀ i, i < k → f i = g i) : upTo f k = upTo g k := by
  unfold upTo; exact List.map_congr_left (fun i hi => h i (List.mem_range.1 hi))
theorem upTo_asInts (hs : List Nat) : upTo (fun i => ((hs.getD i 0 : Nat) : Int)) hs.length = asInts hs := by
  refine ext_getD 0 (by rw [length_upTo, asInts_len]) fun i hi => ?_
  rw [length_upTo] at hi
  rw [getD_upTo _ _ _ hi, getD_asInts]
def fillTo (f : Nat → Int) (n k : Nat) : List Int := upTo f k ++ List.replicate (n - k) 0
theorem length_fillTo (f : Nat → Int) (n k : Nat) (hk : k ≤ n) : (fillTo f n k).length = n := by unfold fillTo; rw [List.length_append, length_upTo, List.length_replicate]; omega
theorem fillTo_zero (f : Nat → Int) (n : Nat) : fillTo f n 0 = List.replicate n 0 := by simp [fillTo, upTo]
theorem fillTo_all (f : Nat → Int) (n : Nat) : fillTo f n n = upTo f n := by simp [fillTo]
theorem fillTo_succ (f : Nat → Int) (n k : Nat) (hk : k < n) : (fillTo f n k).set k (f k) = fillTo f n (k + 1) := by
  unfold fillTo
  rw [show n - k = (n - (k + 1)) + 1 from by omega, List.replicate_succ, List.set_append_right _ _ (by rw [length_upTo]; omega), length_upTo, Nat.sub_self, List.set_cons_zero, upTo_succ, List.append_assoc]
  rfl
theorem getD_fill_lo (f : Nat → Int) (n k j : Nat) (hj : j < k) : (fillTo f n k).getD j 0 = f j := by
  unfold fillTo
  rw [List.getD_eq_getElem?_getD, List.getElem?_append_left (by rw [length_upTo]; exact hj), ← List.getD_eq_getElem?_getD, getD_upTo _ _ _ hj]
theorem getD_fill_hi (f : Nat → Int) (n k j : Nat) (hj : k ≤ j) : (fillTo f n k).getD j 0 = 0 := by
  unfold fillTo
  rw [List.getD_eq_getElem?_getD, List.getElem?_append_right (by rw [length_upTo]; exact hj), length_upTo, List.getElem?_replicate]
  split <;> rfl
/-- an owned row of zeros, just made -/
theorem made_fill {w w1 : World} {B n : Nat} (f : Nat → Int) (h : w1.ownsRow B 3 1 (.slice (some ⟨w.heap.size, 0, none⟩) n n) n (madeCells #[.int .i64 0] (n * 1)).toList) :
    Own w1 B (.slice (some ⟨w.heap.size, 0, none⟩) n n) (fillTo f n 0) := by
  rw [fillTo_zero]
  unfold Own
  rw [List.length_replicate]
  rw [Nat.mul_one, toList_madeCells_one] at h
  rw [List.map_replicate]; exact h
theorem setGet (l : List Int) (k : Nat) (x : Int) (hk : k < l.length) : (l.set k x).getD k 0 = x := by simp [hk]
theorem setSet (l : List Int) (k : Nat) (x y : Int) : (l.set k x).set k y = l.set k y := by simp

end Go.Proofs.YtjbomclildkjaaaDoor
