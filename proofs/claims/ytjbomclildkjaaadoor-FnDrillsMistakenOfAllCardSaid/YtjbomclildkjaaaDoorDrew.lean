/- A draw turns no block. -/
import Derived.Test.YtjbomclildkjaaaDoorOwn
import Derived.Deep.Draws
namespace Go.Proofs.YtjbomclildkjaaaDoor
open Go.ChangeShapes Go.WideShapes Go.ChangeAt Go.RowKit

theorem drewN_down (w : World) (m : Nat) : Below w.heap.size w (w.drewN m) := ⟨rfl, rfl, rfl, Nat.le_refl _, fun _ _ => rfl⟩
end Go.Proofs.YtjbomclildkjaaaDoor
