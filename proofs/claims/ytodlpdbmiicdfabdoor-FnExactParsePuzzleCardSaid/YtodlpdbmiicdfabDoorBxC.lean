/- A clue's own cells at a law's beginning. -/
import Derived.Test.YtodlpdbmiicdfabDoorRClue
namespace Go.Proofs.YtodlpdbmiicdfabDoor
open Go.ChangeShapes Go.WideShapes Go.ChangeAt Go.RowKit
/-- a clue's own cells -/
structure BoxClue (w : World) (g : Nat) (x0 x1 x2 x3 : Int) : Prop where
  c0 : w.cell? ⟨g, 0, none⟩ = some (.int .i64 x0)
  c1 : w.cell? ⟨g, 1, none⟩ = some (.int .i64 x1)
  c2 : w.cell? ⟨g, 2, none⟩ = some (.int .i64 x2)
  c3 : w.cell? ⟨g, 3, none⟩ = some (.int .i64 x3)
theorem BoxClue.lt {w : World} {g : Nat} {x0 x1 x2 x3 : Int} (h : BoxClue w g x0 x1 x2 x3) : g < w.heap.size := World.block_lt_of_cell? w _ h.c0
theorem BoxClue.of_block {w w' : World} {g : Nat} {x0 x1 x2 x3 : Int} (h : BoxClue w g x0 x1 x2 x3) (hb : w'.heap[g]? = w.heap[g]?) : BoxClue w' g x0 x1 x2 x3 :=
  ⟨(World.cell?_of_block hb).trans h.c0, (World.cell?_of_block hb).trans h.c1, (World.cell?_of_block hb).trans h.c2, (World.cell?_of_block hb).trans h.c3⟩
theorem BoxClue.below {w w' : World} {g : Nat} {x0 x1 x2 x3 : Int} (h : BoxClue w g x0 x1 x2 x3) (hb : Below w.heap.size w w') : BoxClue w' g x0 x1 x2 x3 := h.of_block (hb.block g h.lt)
theorem boxClue_new (w : World) (x0 x1 x2 x3 : Int) {t : TypeId} : BoxClue (w.alloc (.cells #[.int .i64 x0, .int .i64 x1, .int .i64 x2, .int .i64 x3] t)) w.heap.size x0 x1 x2 x3 :=
  ⟨by rw [World.cell?_alloc_new]; rfl, by rw [World.cell?_alloc_new]; rfl, by rw [World.cell?_alloc_new]; rfl, by rw [World.cell?_alloc_new]; rfl⟩
theorem boxClue_at (w : World) (g : Nat) (x0 x1 x2 x3 : Int) (h : g = w.heap.size) {t : TypeId} : BoxClue (w.alloc (.cells #[.int .i64 x0, .int .i64 x1, .int .i64 x2, .int .i64 x3] t)) g x0 x1 x2 x3 := by
  subst h; exact boxClue_new w x0 x1 x2 x3
end Go.Proofs.YtodlpdbmiicdfabDoor
