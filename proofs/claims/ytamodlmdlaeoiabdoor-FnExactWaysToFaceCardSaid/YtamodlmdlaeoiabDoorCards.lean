/-
  DERIVED. GIVEN WITH THE SEED: THE CARDS: each row of YtamodlmdlaeoiabDoorRows.lean that lists a variable, with what it lists TIED to the program's text (the seventh form; the later family's looks); each row that meets fmt, with fmt's text TOLD by the authors' own Lean function (tested against real Go, not proved from fmt's source: count such statements apart). THE CARD IS WHAT COUNTS. Prove the row's statement (the work); the ties are given (YtamodlmdlaeoiabDoorTie.lean); close each card by the builder's one call (the guide's Derived/Test/ToyasCard.lean, 'card_holds'). Laid BY PROGRAM, IN A SANDBOX (cutbox-door.mjs). By AI agents, Wed Nov 11 2026. No macro, syntax, notation, axiom, sorry.
-/
import Derived.Test.YtamodlmdlaeoiabDoorRows
import GoSem.ClaimSeven
namespace Go.Proofs.YtamodlmdlaeoiabDoor
namespace Rows

/-- THE TIED CARD OF 'laws.FnExactFacingWithMistakes'. -/
def fnExactFacingWithMistakesCard : Claim7 := { stood := { row := fnExactFacingWithMistakesRow, standIns := [], harness := (true, "e2f4c04d2c755194c84e8296070d61660fa8de4a161c490955120d698b5b0794"), looks := false }, kinds := [], alts := [], laidByText := true, laidKinds := [.data], laidTests := true, laidLooks := .later }
def FnExactFacingWithMistakesCardSaid : Prop := Claim7.holds Tryd.pinned (.plain (OpenSpec.ofChange fnExactFacingWithMistakesSpec)) fnExactFacingWithMistakesCard

/-- THE TIED CARD OF 'laws.FnExactWrongSoldiers'. -/
def fnExactWrongSoldiersCard : Claim7 := { stood := { row := fnExactWrongSoldiersRow, standIns := [], harness := (true, "e2f4c04d2c755194c84e8296070d61660fa8de4a161c490955120d698b5b0794"), looks := false }, kinds := [], alts := [], laidByText := true, laidKinds := [.data], laidTests := true, laidLooks := .later }
def FnExactWrongSoldiersCardSaid : Prop := Claim7.holds Tryd.pinned (.plain (OpenSpec.ofChange fnExactWrongSoldiersSpec)) fnExactWrongSoldiersCard

/-- THE TIED CARD OF 'laws.FnExactCorrectionsOf'. -/
def fnExactCorrectionsOfCard : Claim7 := { stood := { row := fnExactCorrectionsOfRow, standIns := [], harness := (true, "e2f4c04d2c755194c84e8296070d61660fa8de4a161c490955120d698b5b0794"), looks := false }, kinds := [], alts := [], laidByText := true, laidKinds := [.data], laidTests := true, laidLooks := .later }
def FnExactCorrectionsOfCardSaid : Prop := Claim7.holds Tryd.pinned (.plain (OpenSpec.ofChange fnExactCorrectionsOfSpec)) fnExactCorrectionsOfCard

/-- THE TIED CARD OF 'laws.FnExactWaysToFace'. -/
def fnExactWaysToFaceCard : Claim7 := { stood := { row := fnExactWaysToFaceRow, standIns := [], harness := (true, "e2f4c04d2c755194c84e8296070d61660fa8de4a161c490955120d698b5b0794"), looks := false }, kinds := [], alts := [], laidByText := true, laidKinds := [.data], laidTests := true, laidLooks := .later }
def FnExactWaysToFaceCardSaid : Prop := Claim7.holds Tryd.pinned (.plain (OpenSpec.ofChange fnExactWaysToFaceSpec)) fnExactWaysToFaceCard

/-- THE TIED CARD OF 'laws.FnExactBestCommand'. -/
def fnExactBestCommandCard : Claim7 := { stood := { row := fnExactBestCommandRow, standIns := [], harness := (true, "e2f4c04d2c755194c84e8296070d61660fa8de4a161c490955120d698b5b0794"), looks := false }, kinds := [], alts := [], laidByText := true, laidKinds := [.data, .data], laidTests := true, laidLooks := .later }
def FnExactBestCommandCardSaid : Prop := Claim7.holds Tryd.pinned (.plain (OpenSpec.ofChange fnExactBestCommandSpec)) fnExactBestCommandCard

/-- THE TIED CARD OF 'laws.FnExactCommandsBetween'. -/
def fnExactCommandsBetweenCard : Claim7 := { stood := { row := fnExactCommandsBetweenRow, standIns := [], harness := (true, "e2f4c04d2c755194c84e8296070d61660fa8de4a161c490955120d698b5b0794"), looks := false }, kinds := [], alts := [], laidByText := true, laidKinds := [.data], laidTests := true, laidLooks := .later }
def FnExactCommandsBetweenCardSaid : Prop := Claim7.holds Tryd.pinned (.plain (OpenSpec.ofChange fnExactCommandsBetweenSpec)) fnExactCommandsBetweenCard

/-- THE SECOND FORM's CARD OF 'laws.FnExactFacingWithMistakes'. -/
def fnExactFacingWithMistakesUptoCard : Claim7 := { stood := { row := fnExactFacingWithMistakesUptoRow, standIns := [], harness := (true, "e2f4c04d2c755194c84e8296070d61660fa8de4a161c490955120d698b5b0794"), looks := false }, kinds := [], alts := [], laidByText := true, laidKinds := [.data], laidTests := true, laidLooks := .later }
def FnExactFacingWithMistakesUptoCardSaid : Prop := Claim7.holds Tryd.pinned (.plain (OpenSpec.upto fnExactFacingWithMistakesSpec)) fnExactFacingWithMistakesUptoCard

/-- THE SECOND FORM's CARD OF 'laws.FnExactWrongSoldiers'. -/
def fnExactWrongSoldiersUptoCard : Claim7 := { stood := { row := fnExactWrongSoldiersUptoRow, standIns := [], harness := (true, "e2f4c04d2c755194c84e8296070d61660fa8de4a161c490955120d698b5b0794"), looks := false }, kinds := [], alts := [], laidByText := true, laidKinds := [.data], laidTests := true, laidLooks := .later }
def FnExactWrongSoldiersUptoCardSaid : Prop := Claim7.holds Tryd.pinned (.plain (OpenSpec.upto fnExactWrongSoldiersSpec)) fnExactWrongSoldiersUptoCard

/-- THE SECOND FORM's CARD OF 'laws.FnExactCorrectionsOf'. -/
def fnExactCorrectionsOfUptoCard : Claim7 := { stood := { row := fnExactCorrectionsOfUptoRow, standIns := [], harness := (true, "e2f4c04d2c755194c84e8296070d61660fa8de4a161c490955120d698b5b0794"), looks := false }, kinds := [], alts := [], laidByText := true, laidKinds := [.data], laidTests := true, laidLooks := .later }
def FnExactCorrectionsOfUptoCardSaid : Prop := Claim7.holds Tryd.pinned (.plain (OpenSpec.upto fnExactCorrectionsOfSpec)) fnExactCorrectionsOfUptoCard

/-- THE SECOND FORM's CARD OF 'laws.FnExactWaysToFace'. -/
def fnExactWaysToFaceUptoCard : Claim7 := { stood := { row := fnExactWaysToFaceUptoRow, standIns := [], harness := (true, "e2f4c04d2c755194c84e8296070d61660fa8de4a161c490955120d698b5b0794"), looks := false }, kinds := [], alts := [], laidByText := true, laidKinds := [.data], laidTests := true, laidLooks := .later }
def FnExactWaysToFaceUptoCardSaid : Prop := Claim7.holds Tryd.pinned (.plain (OpenSpec.upto fnExactWaysToFaceSpec)) fnExactWaysToFaceUptoCard

/-- THE SECOND FORM's CARD OF 'laws.FnExactBestCommand'. -/
def fnExactBestCommandUptoCard : Claim7 := { stood := { row := fnExactBestCommandUptoRow, standIns := [], harness := (true, "e2f4c04d2c755194c84e8296070d61660fa8de4a161c490955120d698b5b0794"), looks := false }, kinds := [], alts := [], laidByText := true, laidKinds := [.data, .data], laidTests := true, laidLooks := .later }
def FnExactBestCommandUptoCardSaid : Prop := Claim7.holds Tryd.pinned (.plain (OpenSpec.upto fnExactBestCommandSpec)) fnExactBestCommandUptoCard

/-- THE SECOND FORM's CARD OF 'laws.FnExactCommandsBetween'. -/
def fnExactCommandsBetweenUptoCard : Claim7 := { stood := { row := fnExactCommandsBetweenUptoRow, standIns := [], harness := (true, "e2f4c04d2c755194c84e8296070d61660fa8de4a161c490955120d698b5b0794"), looks := false }, kinds := [], alts := [], laidByText := true, laidKinds := [.data], laidTests := true, laidLooks := .later }
def FnExactCommandsBetweenUptoCardSaid : Prop := Claim7.holds Tryd.pinned (.plain (OpenSpec.upto fnExactCommandsBetweenSpec)) fnExactCommandsBetweenUptoCard
end Rows
end Go.Proofs.YtamodlmdlaeoiabDoor
