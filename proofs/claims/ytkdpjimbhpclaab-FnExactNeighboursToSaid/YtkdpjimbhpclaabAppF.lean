/- A row of the call's own, wherever it lies, is put behind a slice of rows. -/
import Derived.Test.YtkdpjimbhpclaabAppG
namespace Go.Proofs.Ytkdpjimbhpclaab
open Go.ChangeShapes Go.WideShapes Go.ChangeAt Go.RowKit

theorem wpList_appRowF {ops : Array Oper} {rest : List Oper} {o : Oper} {a : Act} {Q : Exit → Act → World → Prop} (hgd : o.guard = none) (s x : Operand)
    (ho : o.op = .call { callee := .builtin .append, args := #[s, x], argTypes := #[34, 34] })
    (w0 : World) (B hi0 N : Nat) (v r : Value) (vs : List Value) (zss : List (List Int)) (zs : List Int) (hs : a.eval s = v) (hx : a.eval x = .slice (some ⟨N, 0, none⟩) 1 1) (hN : w0.heap.size = N)
    (S0 : SS w0 B hi0 v vs zss) (row : Own w0 B r zs) (hap : ∀ i, i < vs.length → ∀ k, (vs.getD i undef).ownBlock = some k → r.ownBlock ≠ some k) (hB : B ≤ w0.heap.size) (hl : zss.length ≤ 1000000000)
    (h : ∀ v' w', SS w' B w'.heap.size v' (vs ++ [r]) (zss ++ [zs]) → Below B w0 w' → w0.grownBy w' v.ownBlock → (v'.ownBlock = v.ownBlock ∨ v'.ownBlock = some (w0.heap.size + 1)) → wpList Try.prog ops Q rest (a.put o.dst v') w') : wpList Try.prog ops Q (o :: rest) a (w0.alloc (.cells #[r] 25)) := by
  obtain ⟨i0, hi, hz0, hz1, hz2⟩ := info_parts Try.info_ints
  subst hN
  have hvl := S0.len
  refine wpList_append_own_at _ hgd s x 34 ho B 25 i0 (.slice none 0 0) 1 24 Try.underlying34 hi hz0 hz1 hz2 rfl (by decide) v vs.length _ hs (S0.own.alloc _) ⟨w0.heap.size, 0, none⟩ 1 1 [r] hx rfl ?_ ?_ ?_ ?_ ?_ ?_
  · intro j u hj
    match j, hj with
    | 0, hj => simp at hj; subst hj; simp [Addr.add]
  · obtain ⟨ar, cr, rfl⟩ := row.any
    intro u hu; simp at hu; subst hu; rfl
  · unfold maxLen; omega
  · omega
  · simp; omega
  · intro v' w' h1 h2 _ hloc
    have hg0 : w0.grownBy w' v.ownBlock := ⟨h2.os, h2.tape, h2.output, Nat.le_trans (by simp) h2.size, fun k hk hne => (h2.block k (by simp; omega) hne).trans (heap_alloc_old _ _ hk)⟩
    have hrow : ∀ (x : Value) (z : List Int) (B' : Nat), Own w0 B' x z → Own w' B' x z := fun x z B' hx => hx.same fun k ek => by
      refine hg0.block k (World.ownsRow.lt hx k ek).2 (fun e => ?_)
      -- a row's block is none of rows
      have hx' := hx
      unfold Own at hx'
      rcases hx'.2 with ⟨f1, _⟩ | ⟨g1, c1, u1, f1, _, f3, _⟩
      · rw [f1] at ek; simp [Value.ownBlock] at ek
      · rw [f1] at ek; simp [Value.ownBlock] at ek; subst ek
        rcases S0.own.2 with ⟨q1, _⟩ | ⟨g2, c2, u2, q1, _, q3, _⟩
        · rw [q1] at e; simp [Value.ownBlock] at e
        · rw [q1] at e; simp [Value.ownBlock] at e; subst e
          rw [f3] at q3; injection q3 with q3; injection q3 with _ q3; exact absurd q3 (by decide)
    refine h v' w' ⟨by rw [List.length_append, List.length_singleton]; exact h1, by simp [hvl], fun i hi2 => ?_, fun k ek => (World.ownsRow.lt h1 k ek).2, fun i j hi2 hj2 hne k ek => ?_⟩ ?_ hg0 (hloc.imp_right fun e => by rw [e]; exact congrArg some (Array.size_push _))
    · rw [List.length_append, List.length_singleton] at hi2
      by_cases hlt : i < vs.length
      · rw [show (vs ++ [r]).getD i undef = vs.getD i undef from by simp [List.getD_eq_getElem?_getD, List.getElem?_append_left hlt], show (zss ++ [zs]).getD i [] = zss.getD i [] from by simp [List.getD_eq_getElem?_getD, List.getElem?_append_left (show i < zss.length by omega)]]
        have := hrow _ _ _ (S0.row i hlt).1
        exact ⟨this, fun k ek => (World.ownsRow.lt this k ek).2⟩
      · obtain rfl : i = vs.length := by omega
        rw [show (vs ++ [r]).getD vs.length undef = r from by simp [List.getD_eq_getElem?_getD], show (zss ++ [zs]).getD vs.length [] = zs from by simp [List.getD_eq_getElem?_getD, hvl]]
        have := hrow _ _ _ row
        exact ⟨this, fun k ek => (World.ownsRow.lt this k ek).2⟩
    · rw [List.length_append, List.length_singleton] at hi2 hj2
      by_cases h1 : i < vs.length <;> by_cases h2 : j < vs.length
      · rw [show (vs ++ [r]).getD i undef = vs.getD i undef from by simp [List.getD_eq_getElem?_getD, List.getElem?_append_left h1]] at ek
        rw [show (vs ++ [r]).getD j undef = vs.getD j undef from by simp [List.getD_eq_getElem?_getD, List.getElem?_append_left h2]]
        exact S0.apart i j h1 h2 hne k ek
      · obtain rfl : j = vs.length := by omega
        rw [show (vs ++ [r]).getD i undef = vs.getD i undef from by simp [List.getD_eq_getElem?_getD, List.getElem?_append_left h1]] at ek
        rw [show (vs ++ [r]).getD vs.length undef = r from by simp [List.getD_eq_getElem?_getD]]
        exact hap i h1 k ek
      · obtain rfl : i = vs.length := by omega
        rw [show (vs ++ [r]).getD vs.length undef = r from by simp [List.getD_eq_getElem?_getD]] at ek
        rw [show (vs ++ [r]).getD j undef = vs.getD j undef from by simp [List.getD_eq_getElem?_getD, List.getElem?_append_left h2]]
        exact fun e => hap j h2 k e ek
      · omega
    · refine ⟨hg0.os, hg0.tape, hg0.output, hg0.size, fun k hk => hg0.block k (by omega) (fun e => ?_)⟩
      have := (World.ownsRow.lt S0.own k e.symm).1
      omega

end Go.Proofs.Ytkdpjimbhpclaab
