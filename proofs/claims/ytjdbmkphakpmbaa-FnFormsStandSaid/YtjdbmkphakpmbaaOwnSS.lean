/- A slice of slices of ints that a call owns: eq, mark, held over it. -/
import Derived.Test.YtjdbmkphakpmbaaKinds
import Derived.Deep.Draws
import Derived.Deep.QuietTactic
namespace Go.Proofs.Ytjdbmkphakpmbaa
open Go.ChangeShapes Go.WideShapes Go.ChangeAt Go.RowKit

theorem Try.info_ints : (Try.prog.info? 30).map (fun i => (i.zero, i.size, i.bytes)) = some (some (.slice none 0 0), 1, 24) := by kernel_rfl
theorem rowsOwn_same {w w' : World} {B : Nat} {e : TypeId} {size n : Nat} {v : Value} {xs : List Value} (h : w.ownsRow B e size v n xs) (hk : ∀ k, v.ownBlock = some k → w'.heap[k]? = w.heap[k]?) : w'.ownsRow B e size v n xs := by
  obtain ⟨e0, e1⟩ := h
  refine ⟨e0, ?_⟩
  rcases e1 with e1 | ⟨g, cap, cur, e1, e2, e3, e4⟩
  · exact .inl e1
  · subst e1
    exact .inr ⟨g, cap, cur, rfl, e2, by rw [hk g rfl]; exact e3, e4⟩
theorem Own.same {w w' : World} {B : Nat} {v : Value} {zs : List Int} (h : Own w B v zs) (hk : ∀ k, v.ownBlock = some k → w'.heap[k]? = w.heap[k]?) : Own w' B v zs := rowsOwn_same h hk

/-- v is a slice of the rows vs, in memory from lo to hi; no two rows share a block -/
structure SS (w : World) (lo hi : Nat) (v : Value) (vs : List Value) (zss : List (List Int)) : Prop where
  own : w.ownsRow lo 30 1 v vs.length vs
  len : vs.length = zss.length
  row : ∀ i, i < vs.length → OwnI w lo hi (vs.getD i undef) (zss.getD i [])
  lid : ∀ k, v.ownBlock = some k → k < hi
  apart : ∀ i j, i < vs.length → j < vs.length → i ≠ j → ∀ k, (vs.getD i undef).ownBlock = some k → (vs.getD j undef).ownBlock ≠ some k
def OwnJ (w : World) (lo hi : Nat) (v : Value) (zss : List (List Int)) : Prop := ∃ vs, SS w lo hi v vs zss
def OwnSS (w : World) (B : Nat) (v : Value) (zss : List (List Int)) : Prop := OwnJ w B w.heap.size v zss

theorem SS.outer {w : World} {lo hi : Nat} {v : Value} {vs : List Value} {zss : List (List Int)} (h : SS w lo hi v vs zss) {g : Nat} (hg : v.ownBlock = some g) (i : Nat) (hi' : i < vs.length) : (vs.getD i undef).ownBlock ≠ some g := by
  intro he
  have h1 := (h.row i hi').1
  unfold Own at h1
  rcases h1.2 with ⟨e1, _⟩ | ⟨g1, cap, cur, e1, _, e3, _⟩
  · rw [e1] at he; simp [Value.ownBlock] at he
  · rw [e1] at he
    simp [Value.ownBlock] at he
    subst he
    rcases h.own.2 with ⟨f1, _⟩ | ⟨g2, cap2, cur2, f1, _, f3, _⟩
    · rw [f1] at hg; simp [Value.ownBlock] at hg
    · rw [f1] at hg
      simp [Value.ownBlock] at hg
      subst hg
      rw [e3] at f3
      injection f3 with f3
      injection f3 with _ f3
      exact absurd f3 (by decide)
theorem SS.same {w w' : World} {lo hi : Nat} {v : Value} {vs : List Value} {zss : List (List Int)} (h : SS w lo hi v vs zss) (hk : ∀ k, lo ≤ k → k < hi → w'.heap[k]? = w.heap[k]?) : SS w' lo hi v vs zss :=
  ⟨rowsOwn_same h.own fun k e => hk k (World.ownsRow.lt h.own k e).1 (h.lid k e), h.len,
   fun i hi' => ⟨(h.row i hi').1.same fun k e => hk k (World.ownsRow.lt (h.row i hi').1 k e).1 ((h.row i hi').2 k e), (h.row i hi').2⟩, h.lid, h.apart⟩
theorem OwnJ.below {w w' : World} {C lo hi : Nat} {v : Value} {zss : List (List Int)} (h : OwnJ w lo hi v zss) (hb : Below C w w') (hC : hi ≤ C) : OwnJ w' lo hi v zss :=
  let ⟨vs, s⟩ := h; ⟨vs, s.same fun k _ hk => hb.block k (by omega)⟩
theorem OwnJ.betw {w w' : World} {l h lo hi : Nat} {v : Value} {zss : List (List Int)} (ho : OwnJ w lo hi v zss) (hb : Betw l h w w') (hd : h ≤ lo ∨ hi ≤ l) (hs : hi ≤ w.heap.size) : OwnJ w' lo hi v zss :=
  let ⟨vs, s⟩ := ho; ⟨vs, s.same fun k h1 h2 => hb.block k (by omega) (by omega)⟩
theorem OwnJ.of {w : World} {lo : Nat} {v : Value} {zss : List (List Int)} (h : OwnSS w lo v zss) : OwnJ w lo w.heap.size v zss := h
theorem ownsRow_mono {w : World} {B B' : Nat} {e : TypeId} {size n : Nat} {v : Value} {xs : List Value} (h : w.ownsRow B e size v n xs) (hb : B' ≤ B) : w.ownsRow B' e size v n xs := by
  refine ⟨h.1, ?_⟩
  rcases h.2 with e1 | ⟨g, cap, cur, e1, e2, e3⟩
  · exact .inl e1
  · exact .inr ⟨g, cap, cur, e1, by omega, e3⟩
theorem OwnJ.mono {w : World} {lo hi lo' hi' : Nat} {v : Value} {zss : List (List Int)} (h : OwnJ w lo hi v zss) (h1 : lo' ≤ lo) (h2 : hi ≤ hi') : OwnJ w lo' hi' v zss :=
  let ⟨vs, s⟩ := h; ⟨vs, ownsRow_mono s.own h1, s.len, fun i hi => ⟨(s.row i hi).1.mono h1, fun k e => Nat.lt_of_lt_of_le ((s.row i hi).2 k e) h2⟩, fun k e => Nat.lt_of_lt_of_le (s.lid k e) h2, s.apart⟩
theorem OwnSS.mono {w : World} {B B' : Nat} {v : Value} {zss : List (List Int)} (h : OwnSS w B v zss) (h1 : B' ≤ B) : OwnSS w B' v zss := OwnJ.mono h h1 (Nat.le_refl _)
theorem OwnSS.below {w w' : World} {B C : Nat} {v : Value} {zss : List (List Int)} (h : OwnSS w B v zss) (hb : Below C w w') (hC : w.heap.size ≤ C) : OwnSS w' B v zss := (OwnJ.below h hb hC).mono (Nat.le_refl _) hb.size
theorem OwnSS.drewN {w : World} {B : Nat} {v : Value} {zss : List (List Int)} (h : OwnSS w B v zss) (n : Nat) : OwnSS (w.drewN n) B v zss := let ⟨vs, s⟩ := h; ⟨vs, s.same fun _ _ _ => rfl⟩
theorem ownSS_nil (w : World) (B : Nat) : OwnSS w B (.slice none 0 0) [] :=
  ⟨[], World.ownsRow_nil _ _ _ _, rfl, fun i h => absurd h (by simp), fun k h => by simp [Value.ownBlock] at h, fun i j h => absurd h (by simp)⟩
theorem SS.any {w : World} {lo hi : Nat} {v : Value} {vs : List Value} {zss : List (List Int)} (h : SS w lo hi v vs zss) : ∃ ao cap, v = .slice ao zss.length cap := by
  rcases h.own.2 with ⟨e, h0⟩ | ⟨g, cap, cur, e, _⟩
  · exact ⟨none, 0, by rw [e, ← h.len, h0]⟩
  · exact ⟨_, cap, by rw [e, h.len]⟩
theorem SS.point {w : World} {lo hi : Nat} {v : Value} {vs : List Value} {zss : List (List Int)} (h : SS w lo hi v vs zss) (hn : 0 < zss.length) : ∃ g cap, v = .slice (some ⟨g, 0, none⟩) zss.length cap ∧ lo ≤ g ∧ g < w.heap.size := by
  rcases h.own.2 with ⟨e, h0⟩ | ⟨g, cap, cur, e, hb, hg, _⟩
  · have := h.len; omega
  · exact ⟨g, cap, by rw [e, h.len], hb, (Array.getElem?_eq_some_iff.1 hg).1⟩
theorem SS.cell {w : World} {lo hi g n cap : Nat} {vs : List Value} {zss : List (List Int)} (h : SS w lo hi (.slice (some ⟨g, 0, none⟩) n cap) vs zss) (j : Nat) (hj : j < zss.length) : w.cell? ⟨g, j, none⟩ = some (vs.getD j undef) := by
  have hj' : j < vs.length := by rw [h.len]; exact hj
  have := h.own.cells (g := g) rfl j (vs.getD j undef) (by rw [List.getD_eq_getElem?_getD, List.getElem?_eq_getElem hj']; rfl)
  rw [show Addr.add ⟨g, 0, none⟩ j = ⟨g, j, none⟩ from by unfold Addr.add; split <;> simp_all] at this
  exact this



/-- how many ints stand in the first j rows -/
def tot (zss : List (List Int)) : Nat → Nat
  | 0 => 0
  | j + 1 => tot zss j + (zss.getD j []).length
def total (zss : List (List Int)) : Nat := tot zss zss.length
theorem tot_le (zss : List (List Int)) (n : Nat) : ∀ d, tot zss n ≤ tot zss (n + d)
  | 0 => Nat.le_refl _
  | d + 1 => Nat.le_trans (tot_le zss n d) (by rw [← Nat.add_assoc, tot]; omega)
theorem tot_total (zss : List (List Int)) (j : Nat) (h : j ≤ zss.length) : tot zss j ≤ total zss := by
  have := tot_le zss j (zss.length - j)
  rw [show j + (zss.length - j) = zss.length from by omega] at this
  exact this
/-- the rows, the first j of them marked -/
def markedTo (zss : List (List Int)) (k0 : Int) (j : Nat) : List (List Int) := (List.range zss.length).map fun i => if i < j then marks (k0 + (tot zss i : Nat)) (zss.getD i []).length else zss.getD i []
def markedSS (zss : List (List Int)) (k0 : Int) : List (List Int) := markedTo zss k0 zss.length
theorem length_markedTo (zss : List (List Int)) (k0 : Int) (j : Nat) : (markedTo zss k0 j).length = zss.length := by simp [markedTo]
theorem getD_markedTo (zss : List (List Int)) (k0 : Int) (j i : Nat) (h : i < zss.length) : (markedTo zss k0 j).getD i [] = if i < j then marks (k0 + (tot zss i : Nat)) (zss.getD i []).length else zss.getD i [] := by
  simp [markedTo, List.getD_eq_getElem?_getD, h]
theorem markedTo_zero (zss : List (List Int)) (k0 : Int) : markedTo zss k0 0 = zss := by
  apply List.ext_getElem
  · simp [markedTo]
  · intro i h1 h2
    simp [markedTo, List.getD_eq_getElem?_getD, h2]
theorem markedTo_succ (zss : List (List Int)) (k0 : Int) (j : Nat) : (markedTo zss k0 j).set j (marks (k0 + (tot zss j : Nat)) (zss.getD j []).length) = markedTo zss k0 (j + 1) := by
  apply List.ext_getElem
  · simp [markedTo]
  · intro i h1 h2
    rw [List.getElem_set]
    simp only [markedTo, List.getElem_map, List.getElem_range]
    by_cases e : j = i
    · subst e; rw [if_pos rfl, if_pos (by omega)]
    · rw [if_neg e]
      by_cases h : i < j
      · rw [if_pos h, if_pos (by omega)]
      · rw [if_neg h, if_neg (by omega)]
theorem getD_setRow (l : List (List Int)) (i j : Nat) (x : List Int) : (l.set i x).getD j [] = if i = j ∧ j < l.length then x else l.getD j [] := getD_set l i j x []

/-- a row is written anew -/
theorem SS.setRow {w w' : World} {lo hi : Nat} {v : Value} {vs : List Value} {zss : List (List Int)} (h : SS w lo hi v vs zss) (i : Nat) (hi' : i < vs.length) (zs' : List Int) (ho : Own w' lo (vs.getD i undef) zs') (hg : w.grownBy w' (vs.getD i undef).ownBlock) : SS w' lo hi v vs (zss.set i zs') := by
  refine ⟨rowsOwn_same h.own fun k e => hg.block k (World.ownsRow.lt h.own k e).2 (fun e2 => h.outer e i hi' e2.symm), by rw [List.length_set]; exact h.len, fun j hj => ?_, h.lid, h.apart⟩
  rw [getD_setRow]
  by_cases e : i = j
  · subst e
    rw [if_pos ⟨rfl, by rw [← h.len]; exact hi'⟩]
    exact ⟨ho, (h.row i hi').2⟩
  · rw [if_neg (fun x => e x.1)]
    refine ⟨(h.row j hj).1.same fun k ek => hg.block k (World.ownsRow.lt (h.row j hj).1 k ek).2 (fun e2 => ?_), (h.row j hj).2⟩
    exact h.apart j i hj hi' (fun x => e x.symm) k ek e2.symm

theorem row_le_total (zss : List (List Int)) (zs : List Int) (h : zs ∈ zss) : zs.length ≤ total zss := by
  obtain ⟨i, hi, rfl⟩ := List.getElem_of_mem h
  have := tot_total zss (i + 1) hi
  rw [tot] at this
  simp only [List.getD_eq_getElem?_getD, List.getElem?_eq_getElem hi, Option.getD_some] at this
  omega
theorem eqFits_IntSS {zss : List (List Int)} (h : zss.length ≤ 1000000000 ∧ total zss ≤ 1000000000) : zss.length ≤ 1000000000 ∧ ∀ zs ∈ zss, zs.length ≤ 1000000000 :=
  ⟨h.1, fun zs hz => Nat.le_trans (row_le_total zss zs hz) h.2⟩



/-- a row of the call's own is put behind a slice of rows -/
theorem wpList_appRow {ops : Array Oper} {rest : List Oper} {o : Oper} {a : Act} {Q : Exit → Act → World → Prop} (hgd : o.guard = none) (s x : Operand)
    (ho : o.op = .call { callee := .builtin .append, args := #[s, x], argTypes := #[25, 25] })
    (w0 wa : World) (B N : Nat) (v r : Value) (zss : List (List Int)) (zs : List Int) (hs : a.eval s = v) (hx : a.eval x = .slice (some ⟨N, 0, none⟩) 1 1) (hN : w0.heap.size = N)
    (own : OwnSS wa B v zss) (hba : Below wa.heap.size wa w0) (row : Own w0 wa.heap.size r zs) (hB : B ≤ wa.heap.size) (hl : zss.length ≤ 1000000000)
    (h : ∀ v' w', OwnSS w' B v' (zss ++ [zs]) → Below B w0 w' → wpList Try.prog ops Q rest (a.put o.dst v') w') : wpList Try.prog ops Q (o :: rest) a (w0.alloc (.cells #[r] 30)) := by
  obtain ⟨i0, hi, hz0, hz1, hz2⟩ := info_parts Try.info_ints
  subst hN
  obtain ⟨vs, S⟩ := own
  have hsz := hba.size
  have S0 : SS w0 B wa.heap.size v vs zss := S.same fun k _ hk => hba.block k hk
  have hvl := S.len
  refine wpList_append_own _ hgd s x 25 ho B 30 i0 (.slice none 0 0) 1 24 Try.underlying25 hi hz0 hz1 hz2 rfl (by decide) v vs.length _ hs (S0.own.alloc _) ⟨w0.heap.size, 0, none⟩ 1 1 [r] hx rfl ?_ ?_ ?_ ?_ ?_ ?_
  · intro j u hj
    match j, hj with
    | 0, hj => simp at hj; subst hj; simp [Addr.add]
  · obtain ⟨ar, cr, rfl⟩ := row.any
    intro u hu; simp at hu; subst hu; rfl
  · unfold maxLen; omega
  · omega
  · simp; omega
  · intro v' w' h1 h2 _
    have hg0 : w0.grownBy w' v.ownBlock := ⟨h2.os, h2.tape, h2.output, Nat.le_trans (by simp) h2.size, fun k hk hne => (h2.block k (by simp; omega) hne).trans (heap_alloc_old _ _ hk)⟩
    have hrow : ∀ (x : Value) (z : List Int) (B' : Nat), Own w0 B' x z → Own w' B' x z := fun x z B' hx => hx.same fun k ek => by
      refine hg0.block k (World.ownsRow.lt hx k ek).2 (fun e => ?_)
      -- a row's block is none of rows
      have hx' := hx
      unfold Own at hx'
      rcases hx'.2 with ⟨f1, _⟩ | ⟨g1, c1, u1, f1, _, f3, _⟩
      · rw [f1] at ek; simp [Value.ownBlock] at ek
      · rw [f1] at ek; simp [Value.ownBlock] at ek; subst ek
        rcases S0.own.2 with ⟨q1, _⟩ | ⟨g2, c2, u2, q1, _, q3, _⟩
        · rw [q1] at e; simp [Value.ownBlock] at e
        · rw [q1] at e; simp [Value.ownBlock] at e; subst e
          rw [f3] at q3; injection q3 with q3; injection q3 with _ q3; exact absurd q3 (by decide)
    refine h v' w' ⟨vs ++ [r], by rw [List.length_append, List.length_singleton]; exact h1, by simp [hvl], fun i hi2 => ?_, fun k ek => (World.ownsRow.lt h1 k ek).2, fun i j hi2 hj2 hne k ek => ?_⟩ ?_
    · rw [List.length_append, List.length_singleton] at hi2
      by_cases hlt : i < vs.length
      · rw [show (vs ++ [r]).getD i undef = vs.getD i undef from by simp [List.getD_eq_getElem?_getD, List.getElem?_append_left hlt], show (zss ++ [zs]).getD i [] = zss.getD i [] from by simp [List.getD_eq_getElem?_getD, List.getElem?_append_left (show i < zss.length by omega)]]
        have := hrow _ _ _ (S0.row i hlt).1
        exact ⟨this, fun k ek => (World.ownsRow.lt this k ek).2⟩
      · obtain rfl : i = vs.length := by omega
        rw [show (vs ++ [r]).getD vs.length undef = r from by simp [List.getD_eq_getElem?_getD], show (zss ++ [zs]).getD vs.length [] = zs from by simp [List.getD_eq_getElem?_getD, hvl]]
        have := hrow _ _ _ (row.mono hB)
        exact ⟨this, fun k ek => (World.ownsRow.lt this k ek).2⟩
    · rw [List.length_append, List.length_singleton] at hi2 hj2
      by_cases h1 : i < vs.length <;> by_cases h2 : j < vs.length
      · rw [show (vs ++ [r]).getD i undef = vs.getD i undef from by simp [List.getD_eq_getElem?_getD, List.getElem?_append_left h1]] at ek
        rw [show (vs ++ [r]).getD j undef = vs.getD j undef from by simp [List.getD_eq_getElem?_getD, List.getElem?_append_left h2]]
        exact S0.apart i j h1 h2 hne k ek
      · obtain rfl : j = vs.length := by omega
        rw [show (vs ++ [r]).getD i undef = vs.getD i undef from by simp [List.getD_eq_getElem?_getD, List.getElem?_append_left h1]] at ek
        rw [show (vs ++ [r]).getD vs.length undef = r from by simp [List.getD_eq_getElem?_getD]]
        intro e
        have := (World.ownsRow.lt row k e).1
        have := (S0.row i h1).2 k ek
        omega
      · obtain rfl : i = vs.length := by omega
        rw [show (vs ++ [r]).getD vs.length undef = r from by simp [List.getD_eq_getElem?_getD]] at ek
        rw [show (vs ++ [r]).getD j undef = vs.getD j undef from by simp [List.getD_eq_getElem?_getD, List.getElem?_append_left h2]]
        intro e
        have := (World.ownsRow.lt row k ek).1
        have := (S0.row j h2).2 k e
        omega
      · omega
    · refine ⟨hg0.os, hg0.tape, hg0.output, hg0.size, fun k hk => hg0.block k (by omega) (fun e => ?_)⟩
      have := (World.ownsRow.lt S0.own k e.symm).1
      omega

theorem tot_rows (zss : List (List Int)) (b : Nat) (h : ∀ x ∈ zss, x.length ≤ b) : ∀ j, tot zss j ≤ j * b
  | 0 => by simp [tot]
  | j + 1 => by
    have h1 := tot_rows zss b h j
    have h2 : (zss.getD j []).length ≤ b := by
      by_cases hj : j < zss.length
      · simp only [List.getD_eq_getElem?_getD, List.getElem?_eq_getElem hj, Option.getD_some]; exact h _ (List.getElem_mem hj)
      · simp only [List.getD_eq_getElem?_getD, List.getElem?_eq_none (by omega : zss.length ≤ j), Option.getD_none]; simp
    rw [tot, Nat.succ_mul]; omega
theorem fits_twos {zss : List (List Int)} (h1 : zss.length ≤ 1000000) (h2 : ∀ x ∈ zss, x.length = 2) : zss.length ≤ 1000000000 ∧ total zss ≤ 1000000000 := by
  have := tot_rows zss 2 (fun x hx => by rw [h2 x hx]; exact Nat.le_refl _) zss.length
  exact ⟨by omega, by unfold total; omega⟩
theorem own_two (w : World) (x y : Int) : Own (w.alloc (.cells #[.int .i64 x, .int .i64 y] 3)) w.heap.size (.slice (some ⟨w.heap.size, 0, none⟩) 2 2) [x, y] :=
  ⟨rfl, .inr ⟨w.heap.size, 2, _, rfl, Nat.le_refl _, heap_alloc_new w _, Nat.le_refl _, by unfold maxLen; omega, rfl, rfl⟩⟩

end Go.Proofs.Ytjdbmkphakpmbaa
