/- An append to a slice that the call made, told block by block: several such slices beside each other, and other memory of the call's own. -/
import Derived.Test.YtkdpjimbhpclaabOwnSS
import Derived.Maps.AppendAt
namespace Go.Proofs.Ytkdpjimbhpclaab
open Go.ChangeShapes Go.WideShapes Go.ChangeAt Go.RowKit

theorem wpList_appG {ops : Array Oper} {rest : List Oper} {o : Oper} {a : Act} {Q : Exit → Act → World → Prop} (hgd : o.guard = none) (s x : Operand)
    (ho : o.op = .call { callee := .builtin .append, args := #[s, x], argTypes := #[25, 25] })
    (w0 : World) (B : Nat) (v : Value) (zs : List Int) (z : Int) (hs : a.eval s = v) (hx : a.eval x = .slice (some ⟨w0.heap.size, 0, none⟩) 1 1)
    (own : Own w0 B v zs) (hB : B ≤ w0.heap.size) (hl : zs.length ≤ 1000000000)
    (h : ∀ v' w', Own w' B v' (zs ++ [z]) → Below B w0 w' → w0.grownBy w' v.ownBlock → (v'.ownBlock = v.ownBlock ∨ v'.ownBlock = some (w0.heap.size + 1)) → wpList Try.prog ops Q rest (a.put o.dst v') w') : wpList Try.prog ops Q (o :: rest) a (w0.alloc (.cells #[.int .i64 z] 3)) := by
  obtain ⟨i0, hi, hz0, hz1, hz2⟩ := info_parts Try.info_int
  have hown : w0.ownsRow B 3 1 v zs.length (zs.map (Value.int .i64)) := own
  refine wpList_append_own_at _ hgd s x 25 ho B 3 i0 (.int .i64 0) 1 8 Try.underlying25 hi hz0 hz1 hz2 rfl (by decide) v zs.length _ hs (hown.alloc _) ⟨w0.heap.size, 0, none⟩ 1 1 [.int .i64 z] hx rfl ?_ ?_ ?_ ?_ ?_ ?_
  · intro j u hj
    match j, hj with
    | 0, hj => simp at hj; subst hj; simp [Addr.add]
  · intro u hu; simp at hu; subst hu; rfl
  · unfold maxLen; omega
  · omega
  · simp; omega
  · intro v' w' h1 h2 _ h4
    have hg0 : w0.grownBy w' v.ownBlock := ⟨h2.os, h2.tape, h2.output, Nat.le_trans (by simp) h2.size, fun k hk hne => (h2.block k (by simp; omega) hne).trans (heap_alloc_old _ _ hk)⟩
    refine h v' w' ?_ (own_grown (Below.refl _ _) hB hown h2) hg0 (h4.imp_right fun e => by rw [e]; exact congrArg some (Array.size_push _))
    unfold Own
    rw [List.length_append, List.map_append]
    exact h1

/-- a block of another type is none of a slice's own -/
theorem own_not {w : World} {B : Nat} {e t : TypeId} {size n g : Nat} {v : Value} {xs : List Value} {cs : Array Value} (h : w.ownsRow B e size v n xs) (hg : ∃ fr, w.heap[g]? = some (.cells cs t fr)) (hne : e ≠ t) : v.ownBlock ≠ some g := by
  intro he
  obtain ⟨fr, hg⟩ := hg
  rcases h.2 with ⟨f1, _⟩ | ⟨g1, c1, u1, f1, _, f3, _⟩
  · rw [f1] at he; simp [Value.ownBlock] at he
  · rw [f1] at he
    simp [Value.ownBlock] at he
    subst he
    rw [f3] at hg
    injection hg with hg
    injection hg with _ hg
    exact hne hg
/-- a row of the call's own is put behind a slice of rows -/
theorem wpList_appRowG {ops : Array Oper} {rest : List Oper} {o : Oper} {a : Act} {Q : Exit → Act → World → Prop} (hgd : o.guard = none) (s x : Operand)
    (ho : o.op = .call { callee := .builtin .append, args := #[s, x], argTypes := #[34, 34] })
    (w0 wa : World) (B N : Nat) (v r : Value) (zss : List (List Int)) (zs : List Int) (hs : a.eval s = v) (hx : a.eval x = .slice (some ⟨N, 0, none⟩) 1 1) (hN : w0.heap.size = N)
    (own : OwnSS wa B v zss) (hba : Below wa.heap.size wa w0) (row : Own w0 wa.heap.size r zs) (hB : B ≤ wa.heap.size) (hl : zss.length ≤ 1000000000)
    (h : ∀ v' w', OwnSS w' B v' (zss ++ [zs]) → Below B w0 w' → w0.grownBy w' v.ownBlock → wpList Try.prog ops Q rest (a.put o.dst v') w') : wpList Try.prog ops Q (o :: rest) a (w0.alloc (.cells #[r] 25)) := by
  obtain ⟨i0, hi, hz0, hz1, hz2⟩ := info_parts Try.info_ints
  subst hN
  obtain ⟨vs, S⟩ := own
  have hsz := hba.size
  have S0 : SS w0 B wa.heap.size v vs zss := S.same fun k _ hk => hba.block k hk
  have hvl := S.len
  refine wpList_append_own _ hgd s x 34 ho B 25 i0 (.slice none 0 0) 1 24 Try.underlying34 hi hz0 hz1 hz2 rfl (by decide) v vs.length _ hs (S0.own.alloc _) ⟨w0.heap.size, 0, none⟩ 1 1 [r] hx rfl ?_ ?_ ?_ ?_ ?_ ?_
  · intro j u hj
    match j, hj with
    | 0, hj => simp at hj; subst hj; simp [Addr.add]
  · obtain ⟨ar, cr, rfl⟩ := row.any
    intro u hu; simp at hu; subst hu; rfl
  · unfold maxLen; omega
  · omega
  · simp; omega
  · intro v' w' h1 h2 _
    have hg0 : w0.grownBy w' v.ownBlock := ⟨h2.os, h2.tape, h2.output, Nat.le_trans (by simp) h2.size, fun k hk hne => (h2.block k (by simp; omega) hne).trans (heap_alloc_old _ _ hk)⟩
    have hrow : ∀ (x : Value) (z : List Int) (B' : Nat), Own w0 B' x z → Own w' B' x z := fun x z B' hx => hx.same fun k ek => by
      refine hg0.block k (World.ownsRow.lt hx k ek).2 (fun e => ?_)
      -- a row's block is none of rows
      have hx' := hx
      unfold Own at hx'
      rcases hx'.2 with ⟨f1, _⟩ | ⟨g1, c1, u1, f1, _, f3, _⟩
      · rw [f1] at ek; simp [Value.ownBlock] at ek
      · rw [f1] at ek; simp [Value.ownBlock] at ek; subst ek
        rcases S0.own.2 with ⟨q1, _⟩ | ⟨g2, c2, u2, q1, _, q3, _⟩
        · rw [q1] at e; simp [Value.ownBlock] at e
        · rw [q1] at e; simp [Value.ownBlock] at e; subst e
          rw [f3] at q3; injection q3 with q3; injection q3 with _ q3; exact absurd q3 (by decide)
    refine h v' w' ⟨vs ++ [r], by rw [List.length_append, List.length_singleton]; exact h1, by simp [hvl], fun i hi2 => ?_, fun k ek => (World.ownsRow.lt h1 k ek).2, fun i j hi2 hj2 hne k ek => ?_⟩ ?_ hg0
    · rw [List.length_append, List.length_singleton] at hi2
      by_cases hlt : i < vs.length
      · rw [show (vs ++ [r]).getD i undef = vs.getD i undef from by simp [List.getD_eq_getElem?_getD, List.getElem?_append_left hlt], show (zss ++ [zs]).getD i [] = zss.getD i [] from by simp [List.getD_eq_getElem?_getD, List.getElem?_append_left (show i < zss.length by omega)]]
        have := hrow _ _ _ (S0.row i hlt).1
        exact ⟨this, fun k ek => (World.ownsRow.lt this k ek).2⟩
      · obtain rfl : i = vs.length := by omega
        rw [show (vs ++ [r]).getD vs.length undef = r from by simp [List.getD_eq_getElem?_getD], show (zss ++ [zs]).getD vs.length [] = zs from by simp [List.getD_eq_getElem?_getD, hvl]]
        have := hrow _ _ _ (row.mono hB)
        exact ⟨this, fun k ek => (World.ownsRow.lt this k ek).2⟩
    · rw [List.length_append, List.length_singleton] at hi2 hj2
      by_cases h1 : i < vs.length <;> by_cases h2 : j < vs.length
      · rw [show (vs ++ [r]).getD i undef = vs.getD i undef from by simp [List.getD_eq_getElem?_getD, List.getElem?_append_left h1]] at ek
        rw [show (vs ++ [r]).getD j undef = vs.getD j undef from by simp [List.getD_eq_getElem?_getD, List.getElem?_append_left h2]]
        exact S0.apart i j h1 h2 hne k ek
      · obtain rfl : j = vs.length := by omega
        rw [show (vs ++ [r]).getD i undef = vs.getD i undef from by simp [List.getD_eq_getElem?_getD, List.getElem?_append_left h1]] at ek
        rw [show (vs ++ [r]).getD vs.length undef = r from by simp [List.getD_eq_getElem?_getD]]
        intro e
        have := (World.ownsRow.lt row k e).1
        have := (S0.row i h1).2 k ek
        omega
      · obtain rfl : i = vs.length := by omega
        rw [show (vs ++ [r]).getD vs.length undef = r from by simp [List.getD_eq_getElem?_getD]] at ek
        rw [show (vs ++ [r]).getD j undef = vs.getD j undef from by simp [List.getD_eq_getElem?_getD, List.getElem?_append_left h2]]
        intro e
        have := (World.ownsRow.lt row k ek).1
        have := (S0.row j h2).2 k e
        omega
      · omega
    · refine ⟨hg0.os, hg0.tape, hg0.output, hg0.size, fun k hk => hg0.block k (by omega) (fun e => ?_)⟩
      have := (World.ownsRow.lt S0.own k e.symm).1
      omega


end Go.Proofs.Ytkdpjimbhpclaab
