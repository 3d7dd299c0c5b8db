/- A signal's own cells at a law's beginning. -/
import Derived.Test.YtmlamcimncfmcabDoorSia
namespace Go.Proofs.YtmlamcimncfmcabDoor
open Go.ChangeShapes Go.WideShapes Go.ChangeAt Go.RowKit
abbrev BoxSignal (w : World) (g : Nat) (f : Int) (l : Bool) (s : Int) : Prop := BoxS w g f l s
theorem boxSignal_new (w : World) (f : Int) (l : Bool) (s : Int) : BoxSignal (w.alloc (.cells #[.int .i64 f, .bool l, .int .i64 s] 23)) w.heap.size f l s :=
  ⟨by rw [World.cell?_alloc_new]; rfl, by rw [World.cell?_alloc_new]; rfl, by rw [World.cell?_alloc_new]; rfl⟩
theorem boxSignal_at (w : World) (g : Nat) (f : Int) (l : Bool) (s : Int) (h : g = w.heap.size) : BoxSignal (w.alloc (.cells #[.int .i64 f, .bool l, .int .i64 s] 23)) g f l s := by
  subst h; exact boxSignal_new w f l s
end Go.Proofs.YtmlamcimncfmcabDoor
