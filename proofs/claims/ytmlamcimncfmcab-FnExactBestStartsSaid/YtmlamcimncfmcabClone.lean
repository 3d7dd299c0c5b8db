/- append of a whole slice, slices.Clone at ints. -/
import Derived.Test.YtmlamcimncfmcabAgg
import Derived.Laws.Cover3
namespace Go.Proofs.Ytmlamcimncfmcab
open Go.ChangeShapes Go.WideShapes Go.ChangeAt Go.RowKit

/-- append of a whole slice to one that the call owns -/
theorem wpList_appAll {ops : Array Oper} {rest : List Oper} {o : Oper} {a : Act} {Q : Exit → Act → World → Prop} {w : World} (hgd : o.guard = none) (s x : Operand)
    (ho : o.op = .call { callee := .builtin .append, args := #[s, x], argTypes := #[22, 22] })
    (B : Nat) (v : Value) (zs ys : List Int) (ad : Addr) (len cap : Nat) (hs : a.eval s = v) (hx : a.eval x = .slice (some ad) len cap)
    (own : Own w B v zs) (hc : Came w (some ad) len ys) (hB : B ≤ w.heap.size) (hl : zs.length + len ≤ 1000000000)
    (h : ∀ v' w', Hid (Own w' B v' (zs ++ ys)) → Hid (Below B w w') → Stop (wpList Try.prog ops Q rest (a.put o.dst v') w')) : wpList Try.prog ops Q (o :: rest) a w := by
  obtain ⟨i0, hi, hz0, hz1, hz2⟩ := info_parts Try.info_int
  have hown : w.ownsRow B 3 1 v zs.length (zs.map (Value.int .i64)) := own
  have hyl := hc.1
  refine wpList_append_own _ hgd s x 22 ho B 3 i0 (.int .i64 0) 1 8 Try.underlying22 hi hz0 hz1 hz2 rfl (by decide) v zs.length _ hs hown ad len cap (ys.map (Value.int .i64)) hx (by simpa using hyl) ?_ ?_ ?_ ?_ ?_ ?_
  · intro j u hj
    have hp : 0 < len := by
      have := (List.getElem?_eq_some_iff.1 hj).1
      simp at this; omega
    obtain ⟨ad', e, hsrc⟩ := hc.src hp
    cases e
    exact hsrc j u hj
  · intro u hu; exact ints_one _ _ hu
  · unfold maxLen; omega
  · omega
  · omega
  · intro v' w' h1 h2 _
    have hv : Own w' B v' (zs ++ ys) := by
      unfold Own
      rw [List.length_append, List.map_append, hyl]
      exact h1
    exact (h v' w' (Lib.hid hv) (Lib.hid ((Below.refl _ _).grown h2 hB (fun k hk => (World.ownsRow.lt hown k hk).1)))).on


end Go.Proofs.Ytmlamcimncfmcab
