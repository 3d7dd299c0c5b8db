/-
  DERIVED. GIVEN WITH THE SEED: THE CARDS: each row of YtmlamcimncfmcabDoorRows.lean that lists a variable, with what it lists TIED to the program's text (the seventh form; the later family's looks); each row that meets fmt, with fmt's text TOLD by the authors' own Lean function (tested against real Go, not proved from fmt's source: count such statements apart). THE CARD IS WHAT COUNTS. Prove the row's statement (the work); the ties are given (YtmlamcimncfmcabDoorTie.lean); close each card by the builder's one call (the guide's Derived/Test/ToyasCard.lean, 'card_holds'). Laid BY PROGRAM, IN A SANDBOX (cutbox-door.mjs). By AI agents, Wed Nov 11 2026. No macro, syntax, notation, axiom, sorry.
-/
import Derived.Test.YtmlamcimncfmcabDoorRows
import GoSem.ClaimSeven
namespace Go.Proofs.YtmlamcimncfmcabDoor
namespace Rows

/-- THE TIED CARD OF 'laws.FnExactSignalText'. -/
def fnExactSignalTextCard : Claim7 := { stood := { row := fnExactSignalTextRow, standIns := [], harness := (true, "4571261c4a466482d64f6bcdfd2a176d9529d7455ef66ccde50b89d210e3ebf5"), looks := true }, kinds := [], alts := [], laidByText := true, laidKinds := [.data, .data, .data], laidTests := true, laidLooks := .later }
def FnExactSignalTextCardSaid : Prop := Claim7.holds Tryd.pinned (.plain (OpenSpec.ofChange fnExactSignalTextSpec)) fnExactSignalTextCard

/-- THE TIED CARD OF 'laws.FnExactParseSignal'. -/
def fnExactParseSignalCard : Claim7 := { stood := { row := fnExactParseSignalRow, standIns := [], harness := (true, "4571261c4a466482d64f6bcdfd2a176d9529d7455ef66ccde50b89d210e3ebf5"), looks := true }, kinds := [], alts := [], laidByText := true, laidKinds := [.data, .data, .data, .sentinel, .sentinel], laidTests := true, laidLooks := .later }
def FnExactParseSignalCardSaid : Prop := Claim7.holds Tryd.pinned (.plain (OpenSpec.ofChange fnExactParseSignalSpec)) fnExactParseSignalCard

/-- THE SECOND FORM's CARD OF 'laws.FnExactSignalText'. -/
def fnExactSignalTextUptoCard : Claim7 := { stood := { row := fnExactSignalTextUptoRow, standIns := [], harness := (true, "4571261c4a466482d64f6bcdfd2a176d9529d7455ef66ccde50b89d210e3ebf5"), looks := true }, kinds := [], alts := [], laidByText := true, laidKinds := [.data, .data, .data], laidTests := true, laidLooks := .later }
def FnExactSignalTextUptoCardSaid : Prop := Claim7.holds Tryd.pinned (.plain (OpenSpec.upto fnExactSignalTextSpec)) fnExactSignalTextUptoCard

/-- THE SECOND FORM's CARD OF 'laws.FnExactParseSignal'. -/
def fnExactParseSignalUptoCard : Claim7 := { stood := { row := fnExactParseSignalUptoRow, standIns := [], harness := (true, "4571261c4a466482d64f6bcdfd2a176d9529d7455ef66ccde50b89d210e3ebf5"), looks := true }, kinds := [], alts := [], laidByText := true, laidKinds := [.data, .data, .data, .sentinel, .sentinel], laidTests := true, laidLooks := .later }
def FnExactParseSignalUptoCardSaid : Prop := Claim7.holds Tryd.pinned (.plain (OpenSpec.upto fnExactParseSignalSpec)) fnExactParseSignalUptoCard
end Rows
end Go.Proofs.YtmlamcimncfmcabDoor
