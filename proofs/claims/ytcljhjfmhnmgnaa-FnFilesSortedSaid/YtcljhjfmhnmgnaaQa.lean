/- Plain facts on lists put in order, for the composite laws of files: what is below pointwise stays below when both are put in order. Nothing of the program. -/
import Derived.WalkKit
namespace Go.Proofs.Ytcljhjfmhnmgnaa
namespace Qa

def Ord (l : List Int) : Prop := l.Pairwise (· ≤ ·)
theorem getD_cons_succ (x : Int) (t : List Int) (i : Nat) : (x :: t).getD (i + 1) 0 = t.getD i 0 := by simp [List.getD_eq_getElem?_getD]
theorem getD_mem {l : List Int} {i : Nat} (hi : i < l.length) : l.getD i 0 ∈ l := by
  simp [List.getD_eq_getElem?_getD, hi]
/-- in an ordered list place i holds at most v just if more than i of its numbers do -/
theorem ord_le : ∀ (l : List Int) (_ : Ord l) (v : Int) (i : Nat), i < l.length → (l.getD i 0 ≤ v ↔ i < l.countP (fun x => decide (x ≤ v)))
  | [], _, _, _, hi => by simp at hi
  | x :: t, h, v, i, hi => by
    have h2 := List.pairwise_cons.1 h
    by_cases hx : x ≤ v
    · rw [List.countP_cons_of_pos (by simpa using hx)]
      cases i with
      | zero => simp [hx]
      | succ i =>
        rw [getD_cons_succ, ord_le t h2.2 v i (by simpa using hi)]
        omega
    · have h0 : t.countP (fun x => decide (x ≤ v)) = 0 := by
        rw [List.countP_eq_zero]
        intro y hy
        have := h2.1 y hy
        simp
        omega
      rw [List.countP_cons_of_neg (by simpa using hx), h0]
      cases i with
      | zero => simp; omega
      | succ i =>
        rw [getD_cons_succ]
        have := h2.1 _ (getD_mem (l := t) (i := i) (by simpa using hi))
        constructor
        · intro hh; omega
        · intro hh; omega
theorem count_le : ∀ (a b : List Int), a.length = b.length → (∀ i, i < a.length → a.getD i 0 ≤ b.getD i 0) → ∀ v, b.countP (fun x => decide (x ≤ v)) ≤ a.countP (fun x => decide (x ≤ v))
  | [], b, hl, _, v => by
    have : b = [] := List.eq_nil_of_length_eq_zero hl.symm
    rw [this]; exact Nat.le_refl _
  | x :: t, [], hl, _, _ => by simp at hl
  | x :: t, y :: u, hl, h, v => by
    have h1 := count_le t u (by simpa using hl) (fun i hi => by
      have := h (i + 1) (by simpa using hi)
      rwa [getD_cons_succ, getD_cons_succ] at this) v
    have h0 : x ≤ y := by simpa using h 0 (by simp)
    rw [List.countP_cons, List.countP_cons]
    by_cases hy : y ≤ v
    · rw [if_pos (by simpa using hy), if_pos (by simp; omega)]; omega
    · rw [if_neg (by simpa using hy)]; omega
/-- what is below pointwise stays below when both are put in order -/
theorem order_le (a b sa sb : List Int) (hl : a.length = b.length) (h : ∀ i, i < a.length → a.getD i 0 ≤ b.getD i 0) (pa : sa.Perm a) (pb : sb.Perm b) (oa : Ord sa) (ob : Ord sb) (i : Nat) (hi : i < a.length) : sa.getD i 0 ≤ sb.getD i 0 := by
  have h1 := (ord_le sb ob (sb.getD i 0) i (by rw [pb.length_eq]; omega)).1 (Int.le_refl _)
  rw [pb.countP_eq] at h1
  have h2 := count_le a b hl h (sb.getD i 0)
  rw [ord_le sa oa (sb.getD i 0) i (by rw [pa.length_eq]; exact hi), pa.countP_eq]
  omega
theorem ord_steps : ∀ (l : List Int), (∀ k, k + 1 < l.length → l.getD k 0 ≤ l.getD (k + 1) 0) → Ord l
  | [], _ => List.Pairwise.nil
  | [x], _ => List.pairwise_singleton _ _
  | x :: y :: t, h => by
    have ih := ord_steps (y :: t) (fun k hk => by
      have := h (k + 1) (by simpa using hk)
      rwa [getD_cons_succ, getD_cons_succ] at this)
    refine List.pairwise_cons.2 ⟨fun z hz => ?_, ih⟩
    have h0 : x ≤ y := by simpa using h 0 (by simp)
    rcases List.mem_cons.1 hz with rfl | hz
    · exact h0
    · exact Int.le_trans h0 ((List.pairwise_cons.1 ih).1 z hz)
theorem ord_step {l : List Int} (h : Ord l) (k : Nat) (hk : k + 1 < l.length) : l.getD k 0 ≤ l.getD (k + 1) 0 := by
  have := List.pairwise_iff_getElem.1 h k (k + 1) (by omega) hk (by omega)
  simp [List.getD_eq_getElem?_getD, hk, show k < l.length by omega]
  exact this
/-- two lists in order with the same numbers are one -/
theorem ord_unique {a b : List Int} (p : a.Perm b) (ha : Ord a) (hb : Ord b) : a = b :=
  List.Perm.eq_of_pairwise (fun _ _ _ _ h1 h2 => Int.le_antisymm h1 h2) ha hb p
end Qa

end Go.Proofs.Ytcljhjfmhnmgnaa
