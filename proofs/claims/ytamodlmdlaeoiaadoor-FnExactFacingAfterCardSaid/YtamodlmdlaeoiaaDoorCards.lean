/-
  DERIVED. GIVEN WITH THE SEED: THE CARDS: each row of YtamodlmdlaeoiaaDoorRows.lean that lists a variable, with what it lists TIED to the program's text (the seventh form; the later family's looks); each row that meets fmt, with fmt's text TOLD by the authors' own Lean function (tested against real Go, not proved from fmt's source: count such statements apart). THE CARD IS WHAT COUNTS. Prove the row's statement (the work); the ties are given (YtamodlmdlaeoiaaDoorTie.lean); close each card by the builder's one call (the guide's Derived/Test/ToyasCard.lean, 'card_holds'). Laid BY PROGRAM, IN A SANDBOX (cutbox-door.mjs). By AI agents, Wed Nov 11 2026. No macro, syntax, notation, axiom, sorry.
-/
import Derived.Test.YtamodlmdlaeoiaaDoorRows
import GoSem.ClaimSeven
namespace Go.Proofs.YtamodlmdlaeoiaaDoor
namespace Rows

/-- THE TIED CARD OF 'laws.FnExactAreCommands'. -/
def fnExactAreCommandsCard : Claim7 := { stood := { row := fnExactAreCommandsRow, standIns := [], harness := (true, "be8393b5d74028e9b8af2df387f2499d1a5a0193ce5d04190f547c8b745b7000"), looks := false }, kinds := [], alts := [], laidByText := true, laidKinds := [.data], laidTests := true, laidLooks := .later }
def FnExactAreCommandsCardSaid : Prop := Claim7.holds Tryd.pinned (.plain (OpenSpec.ofChange fnExactAreCommandsSpec)) fnExactAreCommandsCard

/-- THE TIED CARD OF 'laws.FnExactNetTurn'. -/
def fnExactNetTurnCard : Claim7 := { stood := { row := fnExactNetTurnRow, standIns := [], harness := (true, "be8393b5d74028e9b8af2df387f2499d1a5a0193ce5d04190f547c8b745b7000"), looks := false }, kinds := [], alts := [], laidByText := true, laidKinds := [.data], laidTests := true, laidLooks := .later }
def FnExactNetTurnCardSaid : Prop := Claim7.holds Tryd.pinned (.plain (OpenSpec.ofChange fnExactNetTurnSpec)) fnExactNetTurnCard

/-- THE TIED CARD OF 'laws.FnExactFacingAfter'. -/
def fnExactFacingAfterCard : Claim7 := { stood := { row := fnExactFacingAfterRow, standIns := [], harness := (true, "be8393b5d74028e9b8af2df387f2499d1a5a0193ce5d04190f547c8b745b7000"), looks := false }, kinds := [], alts := [], laidByText := true, laidKinds := [.data], laidTests := true, laidLooks := .later }
def FnExactFacingAfterCardSaid : Prop := Claim7.holds Tryd.pinned (.plain (OpenSpec.ofChange fnExactFacingAfterSpec)) fnExactFacingAfterCard

/-- THE TIED CARD OF 'laws.FnExactShortCommands'. -/
def fnExactShortCommandsCard : Claim7 := { stood := { row := fnExactShortCommandsRow, standIns := [], harness := (true, "be8393b5d74028e9b8af2df387f2499d1a5a0193ce5d04190f547c8b745b7000"), looks := false }, kinds := [], alts := [], laidByText := true, laidKinds := [.data], laidTests := true, laidLooks := .later }
def FnExactShortCommandsCardSaid : Prop := Claim7.holds Tryd.pinned (.plain (OpenSpec.ofChange fnExactShortCommandsSpec)) fnExactShortCommandsCard

/-- THE TIED CARD OF 'laws.FnExactBackCommands'. -/
def fnExactBackCommandsCard : Claim7 := { stood := { row := fnExactBackCommandsRow, standIns := [], harness := (true, "be8393b5d74028e9b8af2df387f2499d1a5a0193ce5d04190f547c8b745b7000"), looks := false }, kinds := [], alts := [], laidByText := true, laidKinds := [.data], laidTests := true, laidLooks := .later }
def FnExactBackCommandsCardSaid : Prop := Claim7.holds Tryd.pinned (.plain (OpenSpec.ofChange fnExactBackCommandsSpec)) fnExactBackCommandsCard

/-- THE TIED CARD OF 'laws.FnExactMirrorCommands'. -/
def fnExactMirrorCommandsCard : Claim7 := { stood := { row := fnExactMirrorCommandsRow, standIns := [], harness := (true, "be8393b5d74028e9b8af2df387f2499d1a5a0193ce5d04190f547c8b745b7000"), looks := false }, kinds := [], alts := [], laidByText := true, laidKinds := [.data], laidTests := true, laidLooks := .later }
def FnExactMirrorCommandsCardSaid : Prop := Claim7.holds Tryd.pinned (.plain (OpenSpec.ofChange fnExactMirrorCommandsSpec)) fnExactMirrorCommandsCard

/-- THE TIED CARD OF 'laws.FnExactRepeatsToFront'. -/
def fnExactRepeatsToFrontCard : Claim7 := { stood := { row := fnExactRepeatsToFrontRow, standIns := [], harness := (true, "be8393b5d74028e9b8af2df387f2499d1a5a0193ce5d04190f547c8b745b7000"), looks := false }, kinds := [], alts := [], laidByText := true, laidKinds := [.data], laidTests := true, laidLooks := .later }
def FnExactRepeatsToFrontCardSaid : Prop := Claim7.holds Tryd.pinned (.plain (OpenSpec.ofChange fnExactRepeatsToFrontSpec)) fnExactRepeatsToFrontCard

/-- THE TIED CARD OF 'laws.FnExactAreMistakes'. -/
def fnExactAreMistakesCard : Claim7 := { stood := { row := fnExactAreMistakesRow, standIns := [], harness := (true, "be8393b5d74028e9b8af2df387f2499d1a5a0193ce5d04190f547c8b745b7000"), looks := false }, kinds := [], alts := [], laidByText := true, laidKinds := [.data], laidTests := true, laidLooks := .later }
def FnExactAreMistakesCardSaid : Prop := Claim7.holds Tryd.pinned (.plain (OpenSpec.ofChange fnExactAreMistakesSpec)) fnExactAreMistakesCard

/-- THE SECOND FORM's CARD OF 'laws.FnExactAreCommands'. -/
def fnExactAreCommandsUptoCard : Claim7 := { stood := { row := fnExactAreCommandsUptoRow, standIns := [], harness := (true, "be8393b5d74028e9b8af2df387f2499d1a5a0193ce5d04190f547c8b745b7000"), looks := false }, kinds := [], alts := [], laidByText := true, laidKinds := [.data], laidTests := true, laidLooks := .later }
def FnExactAreCommandsUptoCardSaid : Prop := Claim7.holds Tryd.pinned (.plain (OpenSpec.upto fnExactAreCommandsSpec)) fnExactAreCommandsUptoCard

/-- THE SECOND FORM's CARD OF 'laws.FnExactNetTurn'. -/
def fnExactNetTurnUptoCard : Claim7 := { stood := { row := fnExactNetTurnUptoRow, standIns := [], harness := (true, "be8393b5d74028e9b8af2df387f2499d1a5a0193ce5d04190f547c8b745b7000"), looks := false }, kinds := [], alts := [], laidByText := true, laidKinds := [.data], laidTests := true, laidLooks := .later }
def FnExactNetTurnUptoCardSaid : Prop := Claim7.holds Tryd.pinned (.plain (OpenSpec.upto fnExactNetTurnSpec)) fnExactNetTurnUptoCard

/-- THE SECOND FORM's CARD OF 'laws.FnExactFacingAfter'. -/
def fnExactFacingAfterUptoCard : Claim7 := { stood := { row := fnExactFacingAfterUptoRow, standIns := [], harness := (true, "be8393b5d74028e9b8af2df387f2499d1a5a0193ce5d04190f547c8b745b7000"), looks := false }, kinds := [], alts := [], laidByText := true, laidKinds := [.data], laidTests := true, laidLooks := .later }
def FnExactFacingAfterUptoCardSaid : Prop := Claim7.holds Tryd.pinned (.plain (OpenSpec.upto fnExactFacingAfterSpec)) fnExactFacingAfterUptoCard

/-- THE SECOND FORM's CARD OF 'laws.FnExactShortCommands'. -/
def fnExactShortCommandsUptoCard : Claim7 := { stood := { row := fnExactShortCommandsUptoRow, standIns := [], harness := (true, "be8393b5d74028e9b8af2df387f2499d1a5a0193ce5d04190f547c8b745b7000"), looks := false }, kinds := [], alts := [], laidByText := true, laidKinds := [.data], laidTests := true, laidLooks := .later }
def FnExactShortCommandsUptoCardSaid : Prop := Claim7.holds Tryd.pinned (.plain (OpenSpec.upto fnExactShortCommandsSpec)) fnExactShortCommandsUptoCard

/-- THE SECOND FORM's CARD OF 'laws.FnExactBackCommands'. -/
def fnExactBackCommandsUptoCard : Claim7 := { stood := { row := fnExactBackCommandsUptoRow, standIns := [], harness := (true, "be8393b5d74028e9b8af2df387f2499d1a5a0193ce5d04190f547c8b745b7000"), looks := false }, kinds := [], alts := [], laidByText := true, laidKinds := [.data], laidTests := true, laidLooks := .later }
def FnExactBackCommandsUptoCardSaid : Prop := Claim7.holds Tryd.pinned (.plain (OpenSpec.upto fnExactBackCommandsSpec)) fnExactBackCommandsUptoCard

/-- THE SECOND FORM's CARD OF 'laws.FnExactMirrorCommands'. -/
def fnExactMirrorCommandsUptoCard : Claim7 := { stood := { row := fnExactMirrorCommandsUptoRow, standIns := [], harness := (true, "be8393b5d74028e9b8af2df387f2499d1a5a0193ce5d04190f547c8b745b7000"), looks := false }, kinds := [], alts := [], laidByText := true, laidKinds := [.data], laidTests := true, laidLooks := .later }
def FnExactMirrorCommandsUptoCardSaid : Prop := Claim7.holds Tryd.pinned (.plain (OpenSpec.upto fnExactMirrorCommandsSpec)) fnExactMirrorCommandsUptoCard

/-- THE SECOND FORM's CARD OF 'laws.FnExactRepeatsToFront'. -/
def fnExactRepeatsToFrontUptoCard : Claim7 := { stood := { row := fnExactRepeatsToFrontUptoRow, standIns := [], harness := (true, "be8393b5d74028e9b8af2df387f2499d1a5a0193ce5d04190f547c8b745b7000"), looks := false }, kinds := [], alts := [], laidByText := true, laidKinds := [.data], laidTests := true, laidLooks := .later }
def FnExactRepeatsToFrontUptoCardSaid : Prop := Claim7.holds Tryd.pinned (.plain (OpenSpec.upto fnExactRepeatsToFrontSpec)) fnExactRepeatsToFrontUptoCard

/-- THE SECOND FORM's CARD OF 'laws.FnExactAreMistakes'. -/
def fnExactAreMistakesUptoCard : Claim7 := { stood := { row := fnExactAreMistakesUptoRow, standIns := [], harness := (true, "be8393b5d74028e9b8af2df387f2499d1a5a0193ce5d04190f547c8b745b7000"), looks := false }, kinds := [], alts := [], laidByText := true, laidKinds := [.data], laidTests := true, laidLooks := .later }
def FnExactAreMistakesUptoCardSaid : Prop := Claim7.holds Tryd.pinned (.plain (OpenSpec.upto fnExactAreMistakesSpec)) fnExactAreMistakesUptoCard
end Rows
end Go.Proofs.YtamodlmdlaeoiaaDoor
