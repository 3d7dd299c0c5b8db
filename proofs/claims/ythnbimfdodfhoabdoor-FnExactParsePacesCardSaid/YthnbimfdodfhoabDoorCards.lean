/-
  DERIVED. GIVEN WITH THE SEED: THE CARDS: each row of YthnbimfdodfhoabDoorRows.lean that lists a variable, with what it lists TIED to the program's text (the seventh form; the later family's looks); each row that meets fmt, with fmt's text TOLD by the authors' own Lean function (tested against real Go, not proved from fmt's source: count such statements apart). THE CARD IS WHAT COUNTS. Prove the row's statement (the work); the ties are given (YthnbimfdodfhoabDoorTie.lean); close each card by the builder's one call (the guide's Derived/Test/ToyasCard.lean, 'card_holds'). Laid BY PROGRAM, IN A SANDBOX (cutbox-door.mjs). By AI agents, Wed Nov 11 2026. No macro, syntax, notation, axiom, sorry.
-/
import Derived.Test.YthnbimfdodfhoabDoorRows
import GoSem.ClaimSeven
namespace Go.Proofs.YthnbimfdodfhoabDoor
namespace Rows

/-- THE TIED CARD OF 'laws.FnExactPaceOfBeats'. -/
def fnExactPaceOfBeatsCard : Claim7 := { stood := { row := fnExactPaceOfBeatsRow, standIns := [], harness := (true, "0137f9248e2fe5d9c6caf4c1d8e5ea87c52d621f4eb3b455e3293539c53c6fc8"), looks := true }, kinds := [], alts := [], laidByText := true, laidKinds := [.data, .pinned], laidTests := true, laidLooks := .later }
def FnExactPaceOfBeatsCardSaid : Prop := Claim7.holds Tryd.pinned (.plain (OpenSpec.ofChange fnExactPaceOfBeatsSpec)) fnExactPaceOfBeatsCard

/-- THE TIED CARD OF 'laws.FnExactPacesText'. -/
def fnExactPacesTextCard : Claim7 := { stood := { row := fnExactPacesTextRow, standIns := [], harness := (true, "0137f9248e2fe5d9c6caf4c1d8e5ea87c52d621f4eb3b455e3293539c53c6fc8"), looks := true }, kinds := [], alts := [], laidByText := true, laidKinds := [.data, .data, .data], laidTests := true, laidLooks := .later }
def FnExactPacesTextCardSaid : Prop := Claim7.holds Tryd.pinned (.plain (OpenSpec.ofChange fnExactPacesTextSpec)) fnExactPacesTextCard

/-- THE TIED CARD OF 'laws.FnExactParsePaces'. -/
def fnExactParsePacesCard : Claim7 := { stood := { row := fnExactParsePacesRow, standIns := [], harness := (true, "0137f9248e2fe5d9c6caf4c1d8e5ea87c52d621f4eb3b455e3293539c53c6fc8"), looks := true }, kinds := [], alts := [], laidByText := true, laidKinds := [.data, .data, .data, .data, .sentinel, .sentinel, .pinned], laidTests := true, laidLooks := .later }
def FnExactParsePacesCardSaid : Prop := Claim7.holds Tryd.pinned (.plain (OpenSpec.ofChange fnExactParsePacesSpec)) fnExactParsePacesCard

/-- THE SECOND FORM's CARD OF 'laws.FnExactPaceOfBeats'. -/
def fnExactPaceOfBeatsUptoCard : Claim7 := { stood := { row := fnExactPaceOfBeatsUptoRow, standIns := [], harness := (true, "0137f9248e2fe5d9c6caf4c1d8e5ea87c52d621f4eb3b455e3293539c53c6fc8"), looks := true }, kinds := [], alts := [], laidByText := true, laidKinds := [.data, .pinned], laidTests := true, laidLooks := .later }
def FnExactPaceOfBeatsUptoCardSaid : Prop := Claim7.holds Tryd.pinned (.plain (OpenSpec.upto fnExactPaceOfBeatsSpec)) fnExactPaceOfBeatsUptoCard

/-- THE SECOND FORM's CARD OF 'laws.FnExactPacesText'. -/
def fnExactPacesTextUptoCard : Claim7 := { stood := { row := fnExactPacesTextUptoRow, standIns := [], harness := (true, "0137f9248e2fe5d9c6caf4c1d8e5ea87c52d621f4eb3b455e3293539c53c6fc8"), looks := true }, kinds := [], alts := [], laidByText := true, laidKinds := [.data, .data, .data], laidTests := true, laidLooks := .later }
def FnExactPacesTextUptoCardSaid : Prop := Claim7.holds Tryd.pinned (.plain (OpenSpec.upto fnExactPacesTextSpec)) fnExactPacesTextUptoCard

/-- THE SECOND FORM's CARD OF 'laws.FnExactParsePaces'. -/
def fnExactParsePacesUptoCard : Claim7 := { stood := { row := fnExactParsePacesUptoRow, standIns := [], harness := (true, "0137f9248e2fe5d9c6caf4c1d8e5ea87c52d621f4eb3b455e3293539c53c6fc8"), looks := true }, kinds := [], alts := [], laidByText := true, laidKinds := [.data, .data, .data, .data, .sentinel, .sentinel, .pinned], laidTests := true, laidLooks := .later }
def FnExactParsePacesUptoCardSaid : Prop := Claim7.holds Tryd.pinned (.plain (OpenSpec.upto fnExactParsePacesSpec)) fnExactParsePacesUptoCard
end Rows
end Go.Proofs.YthnbimfdodfhoabDoor
