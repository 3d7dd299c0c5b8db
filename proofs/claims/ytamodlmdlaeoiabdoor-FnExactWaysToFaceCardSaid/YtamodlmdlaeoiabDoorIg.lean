/- Chapter 4, the program: MostFaced. -/
import Derived.Test.YtamodlmdlaeoiabDoorDrE
import Derived.Test.YtamodlmdlaeoiabDoorIe
namespace Go.Proofs.YtamodlmdlaeoiabDoor
open Go.ChangeShapes Go.WideShapes Go.ChangeAt Go.RowKit
open Dr

theorem cntE_cntS {fs : List Nat} (h : ∀ t ∈ fs, t < 4) {t w : Nat} (ht : t < 4) (hw : w < 4) : ∀ k, cntE fs ((w + 4 - t) % 4) k = cntS fs t w k
  | 0 => rfl
  | k + 1 => by
    have h1 := getD_lt h (by omega) k
    have h2 := cntE_cntS h ht hw k
    rw [cntE, cntS, h2]
    have e : (fs.getD k 0 = (w + 4 - t) % 4) = ((fs.getD k 0 + t) % 4 = w) := by
      apply propext
      constructor <;> intro hh <;> omega
    simp only [e]


end Go.Proofs.YtamodlmdlaeoiabDoor
