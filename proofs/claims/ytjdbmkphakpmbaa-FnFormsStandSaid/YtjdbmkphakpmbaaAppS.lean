/- An append of a row inside a region that draws its order. -/
import Derived.Test.YtjdbmkphakpmbaaOwnSS
import Derived.Deep.RegionHeldLaw
namespace Go.Proofs.Ytjdbmkphakpmbaa
open Go.ChangeShapes Go.WideShapes Go.ChangeAt Go.RowKit

theorem wp_appRow {o : Oper} {a : Act} {K : Act → World → Prop} {Q : Exit → Act → World → Prop} (s x : Operand)
    (ho : o.op = .call { callee := .builtin .append, args := #[s, x], argTypes := #[25, 25] })
    (w0 wa : World) (B N : Nat) (v r : Value) (zss : List (List Int)) (zs : List Int) (hs : a.eval s = v) (hx : a.eval x = .slice (some ⟨N, 0, none⟩) 1 1) (hN : w0.heap.size = N)
    (own : OwnSS wa B v zss) (hba : Below wa.heap.size wa w0) (row : Own w0 wa.heap.size r zs) (hB : B ≤ wa.heap.size) (hl : zss.length ≤ 1000000000)
    (h : ∀ v' w', OwnSS w' B v' (zss ++ [zs]) → Below B w0 w' → K (a.put o.dst v') w') : o.wp Try.prog a (w0.alloc (.cells #[r] 30)) K Q := by
  obtain ⟨i0, hi, hz0, hz1, hz2⟩ := info_parts Try.info_ints
  subst hN
  obtain ⟨vs, S⟩ := own
  have hsz := hba.size
  have S0 : SS w0 B wa.heap.size v vs zss := S.same fun k _ hk => hba.block k hk
  have hvl := S.len
  refine wp_append_own _ s x 25 ho B 30 i0 (.slice none 0 0) 1 24 Try.underlying25 hi hz0 hz1 hz2 rfl (by decide) v vs.length _ hs (S0.own.alloc _) ⟨w0.heap.size, 0, none⟩ 1 1 [r] hx rfl ?_ ?_ ?_ ?_ ?_ ?_
  · intro j u hj
    match j, hj with
    | 0, hj => simp at hj; subst hj; simp [Addr.add]
  · obtain ⟨ar, cr, rfl⟩ := row.any
    intro u hu; simp at hu; subst hu; rfl
  · unfold maxLen; omega
  · omega
  · simp; omega
  · intro v' w' h1 h2 _
    have hg0 : w0.grownBy w' v.ownBlock := ⟨h2.os, h2.tape, h2.output, Nat.le_trans (by simp) h2.size, fun k hk hne => (h2.block k (by simp; omega) hne).trans (heap_alloc_old _ _ hk)⟩
    have hrow : ∀ (x : Value) (z : List Int) (B' : Nat), Own w0 B' x z → Own w' B' x z := fun x z B' hx => hx.same fun k ek => by
      refine hg0.block k (World.ownsRow.lt hx k ek).2 (fun e => ?_)
      -- a row's block is none of rows
      have hx' := hx
      unfold Own at hx'
      rcases hx'.2 with ⟨f1, _⟩ | ⟨g1, c1, u1, f1, _, f3, _⟩
      · rw [f1] at ek; simp [Value.ownBlock] at ek
      · rw [f1] at ek; simp [Value.ownBlock] at ek; subst ek
        rcases S0.own.2 with ⟨q1, _⟩ | ⟨g2, c2, u2, q1, _, q3, _⟩
        · rw [q1] at e; simp [Value.ownBlock] at e
        · rw [q1] at e; simp [Value.ownBlock] at e; subst e
          rw [f3] at q3; injection q3 with q3; injection q3 with _ q3; exact absurd q3 (by decide)
    refine h v' w' ⟨vs ++ [r], by rw [List.length_append, List.length_singleton]; exact h1, by simp [hvl], fun i hi2 => ?_, fun k ek => (World.ownsRow.lt h1 k ek).2, fun i j hi2 hj2 hne k ek => ?_⟩ ?_
    · rw [List.length_append, List.length_singleton] at hi2
      by_cases hlt : i < vs.length
      · rw [show (vs ++ [r]).getD i undef = vs.getD i undef from by simp [List.getD_eq_getElem?_getD, List.getElem?_append_left hlt], show (zss ++ [zs]).getD i [] = zss.getD i [] from by simp [List.getD_eq_getElem?_getD, List.getElem?_append_left (show i < zss.length by omega)]]
        have := hrow _ _ _ (S0.row i hlt).1
        exact ⟨this, fun k ek => (World.ownsRow.lt this k ek).2⟩
      · obtain rfl : i = vs.length := by omega
        rw [show (vs ++ [r]).getD vs.length undef = r from by simp [List.getD_eq_getElem?_getD], show (zss ++ [zs]).getD vs.length [] = zs from by simp [List.getD_eq_getElem?_getD, hvl]]
        have := hrow _ _ _ (row.mono hB)
        exact ⟨this, fun k ek => (World.ownsRow.lt this k ek).2⟩
    · rw [List.length_append, List.length_singleton] at hi2 hj2
      by_cases h1 : i < vs.length <;> by_cases h2 : j < vs.length
      · rw [show (vs ++ [r]).getD i undef = vs.getD i undef from by simp [List.getD_eq_getElem?_getD, List.getElem?_append_left h1]] at ek
        rw [show (vs ++ [r]).getD j undef = vs.getD j undef from by simp [List.getD_eq_getElem?_getD, List.getElem?_append_left h2]]
        exact S0.apart i j h1 h2 hne k ek
      · obtain rfl : j = vs.length := by omega
        rw [show (vs ++ [r]).getD i undef = vs.getD i undef from by simp [List.getD_eq_getElem?_getD, List.getElem?_append_left h1]] at ek
        rw [show (vs ++ [r]).getD vs.length undef = r from by simp [List.getD_eq_getElem?_getD]]
        intro e
        have := (World.ownsRow.lt row k e).1
        have := (S0.row i h1).2 k ek
        omega
      · obtain rfl : i = vs.length := by omega
        rw [show (vs ++ [r]).getD vs.length undef = r from by simp [List.getD_eq_getElem?_getD]] at ek
        rw [show (vs ++ [r]).getD j undef = vs.getD j undef from by simp [List.getD_eq_getElem?_getD, List.getElem?_append_left h2]]
        intro e
        have := (World.ownsRow.lt row k ek).1
        have := (S0.row j h2).2 k e
        omega
      · omega
    · refine ⟨hg0.os, hg0.tape, hg0.output, hg0.size, fun k hk => hg0.block k (by omega) (fun e => ?_)⟩
      have := (World.ownsRow.lt S0.own k e.symm).1
      omega

/-- at a step of a region that draws its order -/
theorem step_appRow {ops : Array Oper} {o : Oper} {a : Act} {K : Act → World → Prop} {Q : Exit → Act → World → Prop} {E : Prop} (hgd : o.guard = none) (s x : Operand)
    (ho : o.op = .call { callee := .builtin .append, args := #[s, x], argTypes := #[25, 25] })
    (w0 wa : World) (B N : Nat) (v r : Value) (zss : List (List Int)) (zs : List Int) (hs : a.eval s = v) (hx : a.eval x = .slice (some ⟨N, 0, none⟩) 1 1) (hN : w0.heap.size = N)
    (own : OwnSS wa B v zss) (hba : Below wa.heap.size wa w0) (row : Own w0 wa.heap.size r zs) (hB : B ≤ wa.heap.size) (hl : zss.length ≤ 1000000000)
    (h : ∀ v' w', OwnSS w' B v' (zss ++ [zs]) → Below B w0 w' → K (a.put o.dst v') w') :
    if Region.wanted o (yielded ops a.tmps) = true then Oper.wp Try.prog o a (w0.alloc (.cells #[r] 30)) K Q else E := by
  have hw : Region.wanted o (yielded ops a.tmps) = true := by simp [Region.wanted, hgd]
  rw [if_pos hw]
  exact wp_appRow s x ho w0 wa B N v r zss zs hs hx hN own hba row hB hl h

end Go.Proofs.Ytjdbmkphakpmbaa
