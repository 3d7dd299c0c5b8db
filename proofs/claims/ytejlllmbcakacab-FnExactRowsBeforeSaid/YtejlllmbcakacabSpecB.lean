/- The model's MirrorRow, TurnedRow and NumberOfRow. -/
import Derived.Test.YtejlllmbcakacabSpec
namespace Go.Proofs.Ytejlllmbcakacab
open Go.ChangeShapes Go.WideShapes Go.ChangeAt Go.RowKit

theorem ret_ib {a b : Int} {x : Bool} (h : a = b) : Ending.returned (.tuple #[.int .i64 a, .bool x]) = .returned (.tuple #[.int .i64 b, .bool x]) := by rw [h]
theorem num_eq {a b : Int} (h : a = b) : Value.int .i64 a = .int .i64 b := by rw [h]



/-- the row as it is seen from behind, from its soldier k on -/
def mirTo (l : List Bool) (k : Nat) : List Bool := ((l.drop k).reverse).map (!·)
theorem mirTo_succ (l : List Bool) (k : Nat) (hk : k < l.length) : mirTo l k = mirTo l (k + 1) ++ [!l.getD k false] := by
  unfold mirTo
  rw [List.drop_eq_getElem_cons hk, List.reverse_cons, List.map_append]; simp [List.getD_eq_getElem?_getD, hk]
theorem mirTo_all (l : List Bool) : mirTo l l.length = [] := by simp [mirTo]
theorem length_mirTo (l : List Bool) (k : Nat) : (mirTo l k).length = l.length - k := by simp [mirTo]



end Go.Proofs.Ytejlllmbcakacab
