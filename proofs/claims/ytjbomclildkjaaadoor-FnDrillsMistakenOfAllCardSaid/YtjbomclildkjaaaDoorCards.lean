/-
  DERIVED. GIVEN WITH THE SEED: THE CARDS: each row of YtjbomclildkjaaaDoorRows.lean that lists a variable, with what it lists TIED to the program's text (the seventh form; the later family's looks); each row that meets fmt, with fmt's text TOLD by the authors' own Lean function (tested against real Go, not proved from fmt's source: count such statements apart). THE CARD IS WHAT COUNTS. Prove the row's statement (the work); the ties are given (YtjbomclildkjaaaDoorTie.lean); close each card by the builder's one call (the guide's Derived/Test/ToyasCard.lean, 'card_holds'). Laid BY PROGRAM, IN A SANDBOX (cutbox-door.mjs). By AI agents, Wed Nov 11 2026. No macro, syntax, notation, axiom, sorry.
-/
import Derived.Test.YtjbomclildkjaaaDoorRows
import GoSem.ClaimSeven
namespace Go.Proofs.YtjbomclildkjaaaDoor
namespace Rows

/-- THE TIED CARD OF 'laws.FnDrillsTurn'. -/
def fnDrillsTurnCard : Claim7 := { stood := { row := fnDrillsTurnRow, standIns := [], harness := (true, "2010a2deaeb3457a80262e6eeb6314181daff0e25773f8a375c720ba900f7d84"), looks := false }, kinds := [], alts := [], laidByText := true, laidKinds := [.data, .data], laidTests := true, laidLooks := .later }
def FnDrillsTurnCardSaid : Prop := Claim7.holds Tryd.pinned (.plain (OpenSpec.ofChange fnDrillsTurnSpec)) fnDrillsTurnCard

/-- THE TIED CARD OF 'laws.FnDrillsTurnOfAll'. -/
def fnDrillsTurnOfAllCard : Claim7 := { stood := { row := fnDrillsTurnOfAllRow, standIns := [], harness := (true, "2010a2deaeb3457a80262e6eeb6314181daff0e25773f8a375c720ba900f7d84"), looks := false }, kinds := [], alts := [], laidByText := true, laidKinds := [.data, .data], laidTests := true, laidLooks := .later }
def FnDrillsTurnOfAllCardSaid : Prop := Claim7.holds Tryd.pinned (.plain (OpenSpec.ofChange fnDrillsTurnOfAllSpec)) fnDrillsTurnOfAllCard

/-- THE TIED CARD OF 'laws.FnDrillsMistaken'. -/
def fnDrillsMistakenCard : Claim7 := { stood := { row := fnDrillsMistakenRow, standIns := [], harness := (true, "2010a2deaeb3457a80262e6eeb6314181daff0e25773f8a375c720ba900f7d84"), looks := false }, kinds := [], alts := [], laidByText := true, laidKinds := [.data], laidTests := true, laidLooks := .later }
def FnDrillsMistakenCardSaid : Prop := Claim7.holds Tryd.pinned (.plain (OpenSpec.ofChange fnDrillsMistakenSpec)) fnDrillsMistakenCard

/-- THE TIED CARD OF 'laws.FnDrillsMistakenOfAll'. -/
def fnDrillsMistakenOfAllCard : Claim7 := { stood := { row := fnDrillsMistakenOfAllRow, standIns := [], harness := (true, "2010a2deaeb3457a80262e6eeb6314181daff0e25773f8a375c720ba900f7d84"), looks := false }, kinds := [], alts := [], laidByText := true, laidKinds := [.data], laidTests := true, laidLooks := .later }
def FnDrillsMistakenOfAllCardSaid : Prop := Claim7.holds Tryd.pinned (.plain (OpenSpec.ofChange fnDrillsMistakenOfAllSpec)) fnDrillsMistakenOfAllCard

/-- THE SECOND FORM's CARD OF 'laws.FnDrillsTurn'. -/
def fnDrillsTurnUptoCard : Claim7 := { stood := { row := fnDrillsTurnUptoRow, standIns := [], harness := (true, "2010a2deaeb3457a80262e6eeb6314181daff0e25773f8a375c720ba900f7d84"), looks := false }, kinds := [], alts := [], laidByText := true, laidKinds := [.data, .data], laidTests := true, laidLooks := .later }
def FnDrillsTurnUptoCardSaid : Prop := Claim7.holds Tryd.pinned (.plain (OpenSpec.upto fnDrillsTurnSpec)) fnDrillsTurnUptoCard

/-- THE SECOND FORM's CARD OF 'laws.FnDrillsTurnOfAll'. -/
def fnDrillsTurnOfAllUptoCard : Claim7 := { stood := { row := fnDrillsTurnOfAllUptoRow, standIns := [], harness := (true, "2010a2deaeb3457a80262e6eeb6314181daff0e25773f8a375c720ba900f7d84"), looks := false }, kinds := [], alts := [], laidByText := true, laidKinds := [.data, .data], laidTests := true, laidLooks := .later }
def FnDrillsTurnOfAllUptoCardSaid : Prop := Claim7.holds Tryd.pinned (.plain (OpenSpec.upto fnDrillsTurnOfAllSpec)) fnDrillsTurnOfAllUptoCard

/-- THE SECOND FORM's CARD OF 'laws.FnDrillsMistaken'. -/
def fnDrillsMistakenUptoCard : Claim7 := { stood := { row := fnDrillsMistakenUptoRow, standIns := [], harness := (true, "2010a2deaeb3457a80262e6eeb6314181daff0e25773f8a375c720ba900f7d84"), looks := false }, kinds := [], alts := [], laidByText := true, laidKinds := [.data], laidTests := true, laidLooks := .later }
def FnDrillsMistakenUptoCardSaid : Prop := Claim7.holds Tryd.pinned (.plain (OpenSpec.upto fnDrillsMistakenSpec)) fnDrillsMistakenUptoCard

/-- THE SECOND FORM's CARD OF 'laws.FnDrillsMistakenOfAll'. -/
def fnDrillsMistakenOfAllUptoCard : Claim7 := { stood := { row := fnDrillsMistakenOfAllUptoRow, standIns := [], harness := (true, "2010a2deaeb3457a80262e6eeb6314181daff0e25773f8a375c720ba900f7d84"), looks := false }, kinds := [], alts := [], laidByText := true, laidKinds := [.data], laidTests := true, laidLooks := .later }
def FnDrillsMistakenOfAllUptoCardSaid : Prop := Claim7.holds Tryd.pinned (.plain (OpenSpec.upto fnDrillsMistakenOfAllSpec)) fnDrillsMistakenOfAllUptoCard
end Rows
end Go.Proofs.YtjbomclildkjaaaDoor
