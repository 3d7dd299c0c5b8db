/-
  DERIVED. GIVEN WITH THE SEED: THE PROGRAM's TIES (one call each: nine closed facts by the kernel) AND EACH ROW's TIE, after the 31st guide's Derived/Test/Toyas{Tie, Card}.lean. No idea stands in it: it is a product of the set-up. Laid BY PROGRAM, IN A SANDBOX (cutbox-door.mjs). By AI agents, Wed Nov 11 2026. No macro, syntax, notation, axiom, sorry.
-/
import Derived.Test.YtamodlmdlaeoiabDoorRows
import Derived.LaidByTextLater
import Derived.SevenTiedAt
import Derived.LaidSub
import Derived.LaidOnce
namespace Go.Proofs.YtamodlmdlaeoiabDoor
open Go
set_option maxRecDepth 100000
theorem seatTie1 : Tryd.prog.laidByTextLater [("loop.example/g01332/impl.signOfTurn", Rows.laid_loop_example_g01332_impl_signOfTurn), ("loop.example/g01332/impl.turnsChosen", Rows.laid_loop_example_g01332_impl_turnsChosen)] [.data, .data] true :=
  Program.laidByTextLater_by_one 19 8 5 (by kernel_rfl) (by kernel_rfl) (by kernel_rfl) (by kernel_rfl) (by kernel_rfl) (by kernel_rfl) (fun _ _ => by kernel_rfl)
theorem noOwnUnsafe : Tryd.pinned.checked.prog.headLifts.contains "ownunsafe" = false := by kernel_rfl
theorem tie : Tryd.prog.laidByTextLater [("loop.example/g01332/impl.signOfTurn", Rows.laid_loop_example_g01332_impl_signOfTurn)] [.data] true :=
  Program.laidByTextLater.sub seatTie1 ["loop.example/g01332/impl.signOfTurn"] (by kernel_rfl) (by kernel_rfl)
theorem fnExactFacingWithMistakes_row_tie : Rows.fnExactFacingWithMistakesRow.laidByTextAt .later Tryd.pinned [.data] true :=
  OpenClaim.laidByTextAt_later rfl rfl tie noOwnUnsafe
theorem fnExactWrongSoldiers_row_tie : Rows.fnExactWrongSoldiersRow.laidByTextAt .later Tryd.pinned [.data] true :=
  OpenClaim.laidByTextAt_later rfl rfl tie noOwnUnsafe
theorem fnExactCorrectionsOf_row_tie : Rows.fnExactCorrectionsOfRow.laidByTextAt .later Tryd.pinned [.data] true :=
  OpenClaim.laidByTextAt_later rfl rfl tie noOwnUnsafe
theorem fnExactWaysToFace_row_tie : Rows.fnExactWaysToFaceRow.laidByTextAt .later Tryd.pinned [.data] true :=
  OpenClaim.laidByTextAt_later rfl rfl tie noOwnUnsafe
theorem fnExactCommandsBetween_row_tie : Rows.fnExactCommandsBetweenRow.laidByTextAt .later Tryd.pinned [.data] true :=
  OpenClaim.laidByTextAt_later rfl rfl tie noOwnUnsafe
theorem tie2 : Tryd.prog.laidByTextLater [("loop.example/g01332/impl.signOfTurn", Rows.laid_loop_example_g01332_impl_signOfTurn), ("loop.example/g01332/impl.turnsChosen", Rows.laid_loop_example_g01332_impl_turnsChosen)] [.data, .data] true :=
  Program.laidByTextLater.sub seatTie1 ["loop.example/g01332/impl.signOfTurn", "loop.example/g01332/impl.turnsChosen"] (by kernel_rfl) (by kernel_rfl)
theorem fnExactBestCommand_row_tie : Rows.fnExactBestCommandRow.laidByTextAt .later Tryd.pinned [.data, .data] true :=
  OpenClaim.laidByTextAt_later rfl rfl tie2 noOwnUnsafe
theorem fnExactFacingWithMistakesUpto_row_tie : Rows.fnExactFacingWithMistakesUptoRow.laidByTextAt .later Tryd.pinned [.data] true :=
  OpenClaim.laidByTextAt_later rfl rfl tie noOwnUnsafe
theorem fnExactWrongSoldiersUpto_row_tie : Rows.fnExactWrongSoldiersUptoRow.laidByTextAt .later Tryd.pinned [.data] true :=
  OpenClaim.laidByTextAt_later rfl rfl tie noOwnUnsafe
theorem fnExactCorrectionsOfUpto_row_tie : Rows.fnExactCorrectionsOfUptoRow.laidByTextAt .later Tryd.pinned [.data] true :=
  OpenClaim.laidByTextAt_later rfl rfl tie noOwnUnsafe
theorem fnExactWaysToFaceUpto_row_tie : Rows.fnExactWaysToFaceUptoRow.laidByTextAt .later Tryd.pinned [.data] true :=
  OpenClaim.laidByTextAt_later rfl rfl tie noOwnUnsafe
theorem fnExactBestCommandUpto_row_tie : Rows.fnExactBestCommandUptoRow.laidByTextAt .later Tryd.pinned [.data, .data] true :=
  OpenClaim.laidByTextAt_later rfl rfl tie2 noOwnUnsafe
theorem fnExactCommandsBetweenUpto_row_tie : Rows.fnExactCommandsBetweenUptoRow.laidByTextAt .later Tryd.pinned [.data] true :=
  OpenClaim.laidByTextAt_later rfl rfl tie noOwnUnsafe
end Go.Proofs.YtamodlmdlaeoiabDoor
