/- A clue's own cells, with the lemmas that a law's walk wants. -/
import Derived.Test.YtodlpdbmiicdfaaBxC
import Derived.Test.YtodlpdbmiicdfaaKinds
import Derived.Test.YtodlpdbmiicdfaaRPuzzle
import Derived.Test.YtodlpdbmiicdfaaZk
namespace Go.Proofs.Ytodlpdbmiicdfaa
open Go.ChangeShapes Go.WideShapes Go.ChangeAt Go.RowKit
/-- the same with other names of its lemmas -/
def BoxK (w : World) (g : Nat) (x0 x1 x2 x3 : Int) : Prop := BoxClue w g x0 x1 x2 x3
theorem BoxK.lt {w : World} {g : Nat} {x0 x1 x2 x3 : Int} (h : BoxK w g x0 x1 x2 x3) : g < w.heap.size := BoxClue.lt h
theorem BoxK.below {w w' : World} {C g : Nat} {x0 x1 x2 x3 : Int} (h : BoxK w g x0 x1 x2 x3) (hb : Below C w w') (hC : g < C) : BoxK w' g x0 x1 x2 x3 := BoxClue.of_block h (hb.block g hC)
theorem BoxK.betw {w w' : World} {lo hi g : Nat} {x0 x1 x2 x3 : Int} (h : BoxK w g x0 x1 x2 x3) (hb : Betw lo hi w w') (hd : g < lo ∨ hi ≤ g) : BoxK w' g x0 x1 x2 x3 := BoxClue.of_block h (hb.block g h.lt hd)
theorem BoxK.same {w w' : World} {g : Nat} {x0 x1 x2 x3 : Int} (h : BoxK w g x0 x1 x2 x3) (e : w'.heap[g]? = w.heap[g]?) : BoxK w' g x0 x1 x2 x3 := BoxClue.of_block h e
theorem BoxK.alloc {w : World} {g : Nat} {x0 x1 x2 x3 : Int} (h : BoxK w g x0 x1 x2 x3) (o : Obj) : BoxK (w.alloc o) g x0 x1 x2 x3 := h.same (heap_alloc_old _ _ h.lt)
theorem boxK_new (w : World) (x0 x1 x2 x3 : Int) {t : TypeId} : BoxK (w.alloc (.cells #[.int .i64 x0, .int .i64 x1, .int .i64 x2, .int .i64 x3] t)) w.heap.size x0 x1 x2 x3 := boxClue_new w x0 x1 x2 x3
theorem ownI_far {w : World} {lo hi g : Nat} {v : Value} {ps : List RClue} (h : OwnIClue w lo hi v ps) (hg : g < lo) (j : Nat) (x : Value) : OwnIClue (w.setCell ⟨g, j, none⟩ x) lo hi v ps := ⟨rz_own h.1 hg j x, h.2⟩
theorem size_set (w : World) (a : Addr) (v : Value) : (w.setCell a v).heap.size = w.heap.size := by simp [World.setCell]
end Go.Proofs.Ytodlpdbmiicdfaa
