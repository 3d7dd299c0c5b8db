/- Chapter 2, plain: how many orders are seen so; a square of numbers, and one that the call owns. -/
import Derived.Test.YtkolkigpppfhcaaCa
import Derived.Test.YtkolkigpppfhcaaIn
namespace Go.Proofs.Ytkolkigpppfhcaa
open Go.ChangeShapes Go.WideShapes Go.ChangeAt Go.RowKit

namespace Sn
/-- how many orders of n soldiers are seen so from both ends -/
def T : Nat → Nat → Nat → Nat
  | 0, _, _ => 0
  | 1, l, r => if l = 1 ∧ r = 1 then 1 else 0
  | n + 2, l, r => n * T (n + 1) l r + ((if l = 0 then 0 else T (n + 1) (l - 1) r) + (if r = 0 then 0 else T (n + 1) l (r - 1)))
theorem T_zl : ∀ n r, T n 0 r = 0
  | 0, _ => rfl
  | 1, r => by rw [T, if_neg (by omega)]
  | n + 2, r => by
    rw [T, T_zl (n + 1) r, if_pos rfl, Nat.mul_zero]
    split
    · rfl
    · rw [T_zl (n + 1)]
theorem T_zr : ∀ n l, T n l 0 = 0
  | 0, _ => rfl
  | 1, l => by rw [T, if_neg (by omega)]
  | n + 2, l => by
    rw [T, T_zr (n + 1) l, if_pos rfl, Nat.mul_zero]
    split
    · rfl
    · rw [T_zr (n + 1)]
def fc : Nat → Nat
  | 0 => 1
  | n + 1 => (n + 1) * fc n
theorem fc_pos : ∀ n, 1 ≤ fc n
  | 0 => Nat.le_refl _
  | n + 1 => Nat.mul_le_mul (show 1 ≤ n + 1 by omega) (fc_pos n)
theorem T_fc : ∀ n l r, T n l r ≤ fc n
  | 0, _, _ => Nat.zero_le _
  | 1, l, r => by rw [T]; split <;> decide
  | n + 2, l, r => by
    rw [T, fc]
    have h1 := T_fc (n + 1) l r
    have h2 : (if l = 0 then 0 else T (n + 1) (l - 1) r) ≤ fc (n + 1) := by split; exact Nat.zero_le _; exact T_fc (n + 1) _ _
    have h3 : (if r = 0 then 0 else T (n + 1) l (r - 1)) ≤ fc (n + 1) := by split; exact Nat.zero_le _; exact T_fc (n + 1) _ _
    have h4 := Nat.mul_le_mul_left n h1
    have h5 : (n + 1 + 1) * fc (n + 1) = n * fc (n + 1) + (fc (n + 1) + fc (n + 1)) := by rw [Nat.add_assoc, Nat.add_mul, Nat.two_mul]
    omega
theorem fc_mono (a : Nat) : ∀ d, fc a ≤ fc (a + d)
  | 0 => Nat.le_refl _
  | d + 1 => Nat.le_trans (fc_mono a d) (by
    show fc (a + d) ≤ (a + d + 1) * fc (a + d)
    exact Nat.le_mul_of_pos_left _ (by omega))
theorem T_le (n l r : Nat) (h : n ≤ 15) : T n l r ≤ 1307674368000 := by
  have h1 := fc_mono n (15 - n)
  rw [show n + (15 - n) = 15 by omega, show fc 15 = 1307674368000 by decide] at h1
  exact Nat.le_trans (T_fc n l r) h1
theorem T_next (n l r : Nat) (h : 2 ≤ n) (hl : 1 ≤ l) (hr : 1 ≤ r) : T n l r = (n - 2) * T (n - 1) l r + (T (n - 1) (l - 1) r + T (n - 1) l (r - 1)) := by
  obtain ⟨m, rfl⟩ : ∃ m, n = m + 2 := ⟨n - 2, by omega⟩
  rw [T, if_neg (by omega), if_neg (by omega)]; rfl

def gridL (f : Nat → Nat → Nat) : List (List Int) := (List.range 16).map fun l => (List.range 16).map fun r => ((f l r : Nat) : Int)
theorem length_gridL (f : Nat → Nat → Nat) : (gridL f).length = 16 := by simp [gridL]
theorem row_gridL (f : Nat → Nat → Nat) (l : Nat) (h : l < 16) : (gridL f).getD l [] = (List.range 16).map fun r => ((f l r : Nat) : Int) := by
  unfold gridL
  rw [List.getD_eq_getElem?_getD, List.getElem?_map, List.getElem?_range h]; rfl
theorem cell_gridL (f : Nat → Nat → Nat) (l r : Nat) (hl : l < 16) (hr : r < 16) : ((gridL f).getD l []).getD r 0 = ((f l r : Nat) : Int) := by
  rw [row_gridL f l hl, List.getD_eq_getElem?_getD, List.getElem?_map, List.getElem?_range hr]; rfl
def updF (f : Nat → Nat → Nat) (l r v : Nat) : Nat → Nat → Nat := fun a b => if a = l ∧ b = r then v else f a b
theorem grid_ext {f g : Nat → Nat → Nat} (h : ∀ a b, a < 16 → b < 16 → f a b = g a b) : gridL f = gridL g := by
  unfold gridL
  refine List.map_congr_left fun a ha => List.map_congr_left fun b hb => ?_
  rw [List.mem_range] at ha hb
  rw [h a b ha hb]
theorem set_gridL (f : Nat → Nat → Nat) (l r v : Nat) : (gridL f).set l (((gridL f).getD l []).set r ((v : Nat) : Int)) = gridL (updF f l r v) := by
  apply List.ext_getElem?
  intro a
  by_cases ha : a < 16
  · have e2 : (gridL (updF f l r v))[a]? = some ((List.range 16).map fun b => ((updF f l r v a b : Nat) : Int)) := by
      unfold gridL
      rw [List.getElem?_map, List.getElem?_range ha]; rfl
    have e1 : (gridL f)[a]? = some ((List.range 16).map fun b => ((f a b : Nat) : Int)) := by
      unfold gridL
      rw [List.getElem?_map, List.getElem?_range ha]; rfl
    rw [List.getElem?_set, e2]
    by_cases e : l = a
    · subst e
      rw [if_pos rfl, if_pos (by rw [length_gridL]; exact ha), row_gridL f l ha]
      congr 1
      apply List.ext_getElem?
      intro b
      by_cases hb : b < 16
      · rw [List.getElem?_set, List.getElem?_map, List.getElem?_map, List.getElem?_range hb]
        by_cases eb : r = b
        · subst eb
          rw [if_pos rfl, if_pos (by simp; exact hb)]
          show some (v : Int) = some ((updF f l r v l r : Nat) : Int)
          unfold updF
          rw [if_pos ⟨rfl, rfl⟩]
        · rw [if_neg eb]
          show some ((f l b : Nat) : Int) = some ((updF f l r v l b : Nat) : Int)
          unfold updF
          rw [if_neg (fun x => eb x.2.symm)]
      · rw [List.getElem?_eq_none (by simp; omega), List.getElem?_eq_none (by simp; omega)]
    · rw [if_neg e, e1]
      congr 1
      refine List.map_congr_left fun b _ => ?_
      unfold updF
      rw [if_neg (fun x => e x.1.symm)]
  · rw [List.getElem?_eq_none (by rw [List.length_set, length_gridL]; omega), List.getElem?_eq_none (by rw [length_gridL]; omega)]
/-- the next square, as far as it is filled -/
def pg (n left right : Nat) : Nat → Nat → Nat := fun a b => if a < left ∨ (a = left ∧ b < right) then T n a b else 0
theorem pg_start (n : Nat) : gridL (pg n 1 1) = gridL (fun _ _ => 0) := grid_ext fun a b _ _ => by
  unfold pg
  split
  · rename_i h
    rcases Nat.eq_zero_or_pos a with e | e
    · subst e; exact T_zl n b
    · have : b = 0 := by omega
      subst this; exact T_zr n a
  · rfl
theorem pg_step (n left right : Nat) : gridL (updF (pg n left right) left right (T n left right)) = gridL (pg n left (right + 1)) := grid_ext fun a b _ _ => by
  unfold updF pg
  by_cases h : a = left ∧ b = right
  · rw [if_pos h, if_pos (by omega), h.1, h.2]
  · rw [if_neg h]
    by_cases h2 : a < left ∨ (a = left ∧ b < right)
    · rw [if_pos h2, if_pos (by omega)]
    · rw [if_neg h2, if_neg (by omega)]
theorem pg_row (n left : Nat) : gridL (pg n left 16) = gridL (pg n (left + 1) 1) := grid_ext fun a b _ hb => by
  unfold pg
  by_cases h2 : a < left ∨ (a = left ∧ b < 16)
  · rw [if_pos h2, if_pos (by omega)]
  · rw [if_neg h2]
    split
    · have : b = 0 := by omega
      subst this; exact (T_zr n a).symm
    · rfl
theorem pg_all (n : Nat) : gridL (pg n 16 1) = gridL (T n) := grid_ext fun a b ha _ => by
  unfold pg
  rw [if_pos (by omega)]
theorem grid_one : gridL (updF (fun _ _ => 0) 1 1 1) = gridL (T 1) := grid_ext fun a b _ _ => by
  unfold updF
  rw [T]
theorem grid_zero : List.replicate 16 (List.replicate 16 (0 : Int)) = gridL (fun _ _ => 0) := by decide
end Sn

/-- the square's rows and cells -/
structure Grid (w : World) (B g cap : Nat) (G C : Nat → Nat) (f : Nat → Nat → Nat) : Prop where
  own : OwnSS w B (.slice (some ⟨g, 0, none⟩) 16 cap) (Sn.gridL f)
  row : ∀ l, l < 16 → w.cell? ⟨g, l, none⟩ = some (.slice (some ⟨G l, 0, none⟩) 16 (C l))
  at' : ∀ l r, l < 16 → r < 16 → w.cell? ⟨G l, r, none⟩ = some (.int .i64 ((f l r : Nat) : Int))
  free : ∀ l r, l < 16 → w.frozen? ⟨G l, r, none⟩ = false
  low : ∀ l, l < 16 → B ≤ G l
theorem Grid.of {w : World} {B : Nat} {v : Value} {f : Nat → Nat → Nat} (h : OwnSS w B v (Sn.gridL f)) : ∃ g cap G C, v = .slice (some ⟨g, 0, none⟩) 16 cap ∧ Grid w B g cap G C f := by
  obtain ⟨vs, S⟩ := h
  have hl := S.len
  rw [Sn.length_gridL] at hl
  obtain ⟨g, cap, rfl, _, _⟩ := S.point (by rw [Sn.length_gridL]; omega)
  rw [Sn.length_gridL] at S ⊢
  have hp : ∀ l, ∃ q : Nat × Nat, l < 16 → vs.getD l undef = .slice (some ⟨q.1, 0, none⟩) 16 q.2 ∧ B ≤ q.1 := fun l => by
    by_cases hl16 : l < 16
    · have hr := (S.row l (by omega)).1
      have hlen : ((Sn.gridL f).getD l []).length = 16 := by rw [Sn.row_gridL f l hl16]; simp
      obtain ⟨gl, cl, e, h1, _⟩ := hr.point (by omega)
      exact ⟨(gl, cl), fun _ => ⟨by rw [e, hlen], h1⟩⟩
    · exact ⟨(0, 0), fun h => absurd h hl16⟩
  refine ⟨g, cap, fun l => (hp l).choose.1, fun l => (hp l).choose.2, rfl, ⟨⟨vs, S⟩, fun l hl16 => ?_, fun l r hl16 hr16 => ?_, fun l r hl16 => ?_, fun l hl16 => ((hp l).choose_spec hl16).2⟩⟩
  · exact (S.cell l (by rw [Sn.length_gridL]; exact hl16)).trans (congrArg some ((hp l).choose_spec hl16).1)
  · have hr := (S.row l (by omega)).1
    rw [((hp l).choose_spec hl16).1] at hr
    have hlen : 16 = ((Sn.gridL f).getD l []).length := by rw [Sn.row_gridL f l hl16]; simp
    rw [hr.cell hlen r (by omega), Sn.cell_gridL f l r hl16 hr16]
  · have hr := (S.row l (by omega)).1
    rw [((hp l).choose_spec hl16).1] at hr
    have hlen : 16 = ((Sn.gridL f).getD l []).length := by rw [Sn.row_gridL f l hl16]; simp
    exact hr.free hlen r
theorem Grid.set {w : World} {B g cap : Nat} {G C : Nat → Nat} {f : Nat → Nat → Nat} (h : Grid w B g cap G C f) (l r v : Nat) (hl : l < 16) : OwnSS (w.setCell ⟨G l, r, none⟩ (.int .i64 ((v : Nat) : Int))) B (.slice (some ⟨g, 0, none⟩) 16 cap) (Sn.gridL (Sn.updF f l r v)) := by
  obtain ⟨vs, S⟩ := h.own
  have hvl := S.len
  rw [Sn.length_gridL] at hvl
  have hc := S.cell l (by rw [Sn.length_gridL]; exact hl)
  rw [h.row l hl] at hc
  have hv : vs.getD l undef = .slice (some ⟨G l, 0, none⟩) 16 (C l) := (Option.some.inj hc).symm
  have hrow := (S.row l (by omega)).1
  rw [hv] at hrow
  have hlen : 16 = ((Sn.gridL f).getD l []).length := by rw [Sn.row_gridL f l hl]; simp
  rw [← Sn.set_gridL f l r v]
  have hs := S.setRow (w' := w.setCell ⟨G l, r, none⟩ (.int .i64 ((v : Nat) : Int))) l (by omega) _ (by rw [hv]; exact hrow.set hlen r ((v : Nat) : Int)) (by rw [hv]; exact set_grown w (G l) r _)
  exact ⟨vs, by simpa [World.setCell] using hs⟩

end Go.Proofs.Ytkolkigpppfhcaa
