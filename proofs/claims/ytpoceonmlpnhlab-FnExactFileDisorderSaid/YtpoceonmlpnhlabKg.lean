/- Chapter 6, the program: the least and the greatest height of a row, what is told of each row. -/
import Derived.Test.YtpoceonmlpnhlabKf
namespace Go.Proofs.Ytpoceonmlpnhlab
open Go.ChangeShapes Go.WideShapes Go.ChangeAt Go.RowKit
open Fi




theorem isTaller_any (z m : Int) (w : World) : Calls Try.prog 69 #[.int .i64 z, .int .i64 m] w fun e w' => e = .returned (.bool (decide (m < z))) ∧ w = w' := by
  go_enter Try.func69, Try.ntmps69
  go_wp2
  go_ret
  exact ⟨rfl, rfl⟩







end Go.Proofs.Ytpoceonmlpnhlab
