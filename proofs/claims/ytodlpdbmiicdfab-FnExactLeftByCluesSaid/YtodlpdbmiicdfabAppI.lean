/- An append of one int inside a region that draws its order. -/
import Derived.Test.YtodlpdbmiicdfabOwn
import Derived.Deep.RegionHeldLaw
namespace Go.Proofs.Ytodlpdbmiicdfab
open Go.ChangeShapes Go.WideShapes Go.ChangeAt Go.RowKit

theorem wp_appInt {o : Oper} {a : Act} {K : Act → World → Prop} {Q : Exit → Act → World → Prop} {w : World} (s x : Operand)
    (ho : o.op = .call { callee := .builtin .append, args := #[s, x], argTypes := #[26, 26] })
    (B : Nat) (v : Value) (zs : List Int) (z : Int) (ad : Addr) (hs : a.eval s = v) (hx : a.eval x = .slice (some ad) 1 1)
    (own : Own w B v zs) (hsrc : w.cell? ad = some (.int .i64 z)) (hB : B ≤ w.heap.size) (hl : zs.length ≤ 1000000000)
    (h : ∀ v' w', Own w' B v' (zs ++ [z]) → Below B w w' → w.grownBy w' v.ownBlock → K (a.put o.dst v') w') : o.wp Try.prog a w K Q := by
  obtain ⟨i0, hi, hz0, hz1, hz2⟩ := info_parts Try.info_int
  have hown : w.ownsRow B 3 1 v zs.length (zs.map (Value.int .i64)) := own
  refine wp_append_own _ s x 26 ho B 3 i0 (.int .i64 0) 1 8 Try.underlying26 hi hz0 hz1 hz2 rfl (by decide) v zs.length _ hs hown ad 1 1 [.int .i64 z] hx rfl ?_ ?_ ?_ ?_ ?_ ?_
  · intro j u hj
    match j, hj with
    | 0, hj => simp at hj; subst hj; simpa [Addr.add] using hsrc
  · intro u hu; simp at hu; subst hu; rfl
  · unfold maxLen; omega
  · omega
  · omega
  · intro v' w' h1 h2 _
    refine h v' w' ?_ ((Below.refl _ _).grown h2 hB (fun k hk => (World.ownsRow.lt hown k hk).1)) h2
    unfold Own
    rw [List.length_append, List.map_append]
    exact h1
/-- at a step of a region that draws its order -/
theorem step_appInt {ops : Array Oper} {o : Oper} {a : Act} {K : Act → World → Prop} {Q : Exit → Act → World → Prop} {E : Prop} {w : World} (hgd : o.guard = none) (s x : Operand)
    (ho : o.op = .call { callee := .builtin .append, args := #[s, x], argTypes := #[26, 26] })
    (B : Nat) (v : Value) (zs : List Int) (z : Int) (ad : Addr) (hs : a.eval s = v) (hx : a.eval x = .slice (some ad) 1 1)
    (own : Own w B v zs) (hsrc : w.cell? ad = some (.int .i64 z)) (hB : B ≤ w.heap.size) (hl : zs.length ≤ 1000000000)
    (h : ∀ v' w', Own w' B v' (zs ++ [z]) → Below B w w' → w.grownBy w' v.ownBlock → K (a.put o.dst v') w') :
    if Region.wanted o (yielded ops a.tmps) = true then Oper.wp Try.prog o a w K Q else E := by
  have hw : Region.wanted o (yielded ops a.tmps) = true := by simp [Region.wanted, hgd]
  rw [if_pos hw]
  exact wp_appInt s x ho B v zs z ad hs hx own hsrc hB hl h

end Go.Proofs.Ytodlpdbmiicdfab
