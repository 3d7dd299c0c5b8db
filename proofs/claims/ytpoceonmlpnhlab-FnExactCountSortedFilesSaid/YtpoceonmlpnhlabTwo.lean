/- Two slices of ints of the call's own, side by side. -/
import Derived.Test.YtpoceonmlpnhlabAppG
namespace Go.Proofs.Ytpoceonmlpnhlab
open Go.ChangeShapes Go.WideShapes Go.ChangeAt Go.RowKit

/-- two slices of the call's own, in blocks of their own -/
structure Two (w : World) (B : Nat) (p q : Value) (zs ls : List Int) : Prop where
  fst : Own w B p zs
  snd : Own w B q ls
  apart : ∀ k, p.ownBlock = some k → q.ownBlock ≠ some k
theorem Two.swap {w : World} {B : Nat} {p q : Value} {zs ls : List Int} (h : Two w B p q zs ls) : Two w B q p ls zs := ⟨h.snd, h.fst, fun k h1 h2 => h.apart k h2 h1⟩
theorem two_nil (w : World) (B : Nat) : Two w B (.slice none 0 0) (.slice none 0 0) [] [] := ⟨own_nil _ _, own_nil _ _, fun k h => by simp [Value.ownBlock] at h⟩
theorem Two.alloc {w : World} {B : Nat} {p q : Value} {zs ls : List Int} (h : Two w B p q zs ls) (o : Obj) : Two (w.alloc o) B p q zs ls := ⟨own_alloc h.fst _, own_alloc h.snd _, h.apart⟩
theorem Two.put {w w' : World} {B : Nat} {p q p' : Value} {zs ls zs' : List Int} (h : Two w B p q zs ls) (hO : Own w' B p' zs') (hG : w.grownBy w' p.ownBlock) (hD : p'.ownBlock = p.ownBlock ∨ p'.ownBlock = some (w.heap.size + 1)) : Two w' B p' q zs' ls := by
  have hq : ∀ k, q.ownBlock = some k → k < w.heap.size := fun k hk => (World.ownsRow.lt h.snd k hk).2
  refine ⟨hO, h.snd.same fun k hk => hG.block k (hq k hk) (fun e => h.apart k e.symm hk), fun k h1 h2 => ?_⟩
  have := hq k h2
  rcases hD with e | e
  · rw [e] at h1; exact h.apart k h1 h2
  · rw [e] at h1; injection h1 with h1; omega

end Go.Proofs.Ytpoceonmlpnhlab
