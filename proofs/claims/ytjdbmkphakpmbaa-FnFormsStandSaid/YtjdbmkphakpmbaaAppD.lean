/- An append of one int behind a region that drew its order. -/
import Derived.Test.YtjdbmkphakpmbaaOwn
import Derived.Deep.Draws
namespace Go.Proofs.Ytjdbmkphakpmbaa
open Go.ChangeShapes Go.WideShapes Go.ChangeAt Go.RowKit

theorem Own.drewN {w : World} {B : Nat} {v : Value} {zs : List Int} (h : Own w B v zs) (n : Nat) : Own (w.drewN n) B v zs := h
theorem drewN_below (w : World) (n : Nat) : Below w.heap.size w (w.drewN n) := ⟨rfl, rfl, rfl, Nat.le_refl _, fun _ _ => rfl⟩
theorem wpList_appD {ops : Array Oper} {rest : List Oper} {o : Oper} {a : Act} {Q : Exit → Act → World → Prop} (hgd : o.guard = none) (s x : Operand)
    (ho : o.op = .call { callee := .builtin .append, args := #[s, x], argTypes := #[30, 30] })
    (w0 : World) (n : Nat) (B : Nat) (v : Value) (zs : List Int) (z : Int) (hs : a.eval s = v) (hx : a.eval x = .slice (some ⟨w0.heap.size, 0, none⟩) 1 1)
    (own : Own w0 B v zs) (hB : B ≤ w0.heap.size) (hl : zs.length ≤ 1000000000)
    (h : ∀ v' w', Own w' B v' (zs ++ [z]) → Below B w0 w' → wpList Try.prog ops Q rest (a.put o.dst v') w') : wpList Try.prog ops Q (o :: rest) a ((w0.drewN n).alloc (.cells #[.int .i64 z] 3)) :=
  wpList_app hgd s x ho (w0.drewN n) B v zs z hs hx (own.drewN n) hB hl fun v' w' h1 h2 => h v' w' h1 (((drewN_below w0 n).mono hB).trans h2)

end Go.Proofs.Ytjdbmkphakpmbaa
