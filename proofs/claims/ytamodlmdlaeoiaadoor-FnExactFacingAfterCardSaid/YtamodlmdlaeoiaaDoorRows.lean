/-
  NARROWER THAN 'FOR EVERY INPUT', by the rows' own cells (each row's printed sentence says how): FnExactAreCommands: laid · FnExactNetTurn: laid · FnExactFacingAfter: laid · FnExactShortCommands: laid · FnExactBackCommands: laid · FnExactMirrorCommands: laid · FnExactRepeatsToFront: laid · FnExactAreMistakes: laid.
  DERIVED. THE GIVEN ROWS OF THIS SEAT. 8 by the template 'for every input the law returns true; each argument reads behind the call as it read before'; 0 by the template 'total and deterministic' (their statements: YtamodlmdlaeoiaaDoorTotals.lean).
  GIVEN WITH THE SEED: the statements are not yours to turn. If you find one false, say at which input.
  Laid BY PROGRAM, IN A SANDBOX (cutbox-rows.mjs): the forced cells as the released guide's own fill.sh prints them over the translation 8a02086e8a44c38c… (all of the seat's roots in one cut). By AI agents, Wed Nov 11 2026. No macro, syntax, notation, axiom, sorry.
-/
import Derived.Test.YtamodlmdlaeoiaaDoorChecked
import GoSem.Claim
import GoSem.ClaimJoined
import GoSem.ClaimMapViews
import Derived.JoinedTies
import Derived.KernelRfl
namespace Go.Proofs.YtamodlmdlaeoiaaDoor
/- THE CELL 'sum', in the pinned program and in every row, IS THE sha256 OF THE DUMP (.gsa) THAT YtamodlmdlaeoiaaDoorProg.lean LOADS. Nothing in Lean hashes anything: it is a label: what it is worth is what the hold of that sum in a sandbox is worth. -/
noncomputable def Tryd.pinned : Pinned := { name := "ytamodlmdlaeoiaadoor", sum := "8a02086e8a44c38c2ec186f999c8519227e2d8fbbb126f0d52eed766c06eb5e0", checked := Tryd.checked }
namespace Rows
def none {H : Type} : Left H := { results := [], args := [] }

/- WHAT THE LISTED PACKAGE-LEVEL VARIABLES READ AS WHEN THE CALL BEGINS. Each datum BY PROGRAM (the guide's laid-datum.mjs) off the statement by which the dump's own 'gosem.cut.vars' lays the variable. In a bare row this is a premise. The card (YtamodlmdlaeoiaaDoorCards.lean) ties it to the program's text. -/
def laid_loop_example_g01332_impl_signOfTurn {H : Type} : DataW H := .agg [.lit (.int .i32 83), .lit (.int .i32 82), .lit (.int .i32 65), .lit (.int .i32 76)]

/-- 'laws.FnExactAreCommands': WHATEVER THE INPUT: true; the input reads as it did. -/
def fnExactAreCommandsSpec : ChangeSpec := { name := "fnExactAreCommands", vars := ["loop.example/g01332/impl.signOfTurn"], fn := fun _ => fun
  | [d, g1] => { results := [.lit (.bool true)], args := [d], vars := [g1] }
  | _ => none }
def fnExactAreCommandsRow : OpenClaim := { program := "ytamodlmdlaeoiaadoor", sum := "8a02086e8a44c38c2ec186f999c8519227e2d8fbbb126f0d52eed766c06eb5e0", func := "loop.example/g01332/laws.FnExactAreCommands", spec := "fnExactAreCommands", named := ["loop.example/g01332/impl.signOfTurn"], apart := false, laid := [("loop.example/g01332/impl.signOfTurn", laid_loop_example_g01332_impl_signOfTurn)] }
def FnExactAreCommandsSaid : Prop := fnExactAreCommandsRow.holds Tryd.pinned (OpenSpec.ofChange fnExactAreCommandsSpec)

/-- ITS FALSE NEIGHBOUR: 'it returns false'. Refute it at one input. -/
def fnExactAreCommandsWrong : ChangeSpec := { name := "fnExactAreCommands", vars := ["loop.example/g01332/impl.signOfTurn"], fn := fun _ => fun
  | [d, g1] => { results := [.lit (.bool false)], args := [d], vars := [g1] }
  | _ => none }
def FnExactAreCommandsWrongFalsely : Prop := fnExactAreCommandsRow.holds Tryd.pinned (OpenSpec.ofChange fnExactAreCommandsWrong)

/-- 'laws.FnExactNetTurn': WHATEVER THE INPUT: true; the input reads as it did. -/
def fnExactNetTurnSpec : ChangeSpec := { name := "fnExactNetTurn", vars := ["loop.example/g01332/impl.signOfTurn"], fn := fun _ => fun
  | [d, g1] => { results := [.lit (.bool true)], args := [d], vars := [g1] }
  | _ => none }
def fnExactNetTurnRow : OpenClaim := { program := "ytamodlmdlaeoiaadoor", sum := "8a02086e8a44c38c2ec186f999c8519227e2d8fbbb126f0d52eed766c06eb5e0", func := "loop.example/g01332/laws.FnExactNetTurn", spec := "fnExactNetTurn", named := ["loop.example/g01332/impl.signOfTurn"], apart := false, laid := [("loop.example/g01332/impl.signOfTurn", laid_loop_example_g01332_impl_signOfTurn)] }
def FnExactNetTurnSaid : Prop := fnExactNetTurnRow.holds Tryd.pinned (OpenSpec.ofChange fnExactNetTurnSpec)

/-- ITS FALSE NEIGHBOUR: 'it returns false'. Refute it at one input. -/
def fnExactNetTurnWrong : ChangeSpec := { name := "fnExactNetTurn", vars := ["loop.example/g01332/impl.signOfTurn"], fn := fun _ => fun
  | [d, g1] => { results := [.lit (.bool false)], args := [d], vars := [g1] }
  | _ => none }
def FnExactNetTurnWrongFalsely : Prop := fnExactNetTurnRow.holds Tryd.pinned (OpenSpec.ofChange fnExactNetTurnWrong)

/-- 'laws.FnExactFacingAfter': WHATEVER THE INPUT: true; the input reads as it did. -/
def fnExactFacingAfterSpec : ChangeSpec := { name := "fnExactFacingAfter", vars := ["loop.example/g01332/impl.signOfTurn"], fn := fun _ => fun
  | [d1, d2, g1] => { results := [.lit (.bool true)], args := [d1, d2], vars := [g1] }
  | _ => none }
def fnExactFacingAfterRow : OpenClaim := { program := "ytamodlmdlaeoiaadoor", sum := "8a02086e8a44c38c2ec186f999c8519227e2d8fbbb126f0d52eed766c06eb5e0", func := "loop.example/g01332/laws.FnExactFacingAfter", spec := "fnExactFacingAfter", unfollowed := true, recurses := true, named := ["loop.example/g01332/impl.signOfTurn"], apart := false, laid := [("loop.example/g01332/impl.signOfTurn", laid_loop_example_g01332_impl_signOfTurn)] }
def FnExactFacingAfterSaid : Prop := fnExactFacingAfterRow.holds Tryd.pinned (OpenSpec.ofChange fnExactFacingAfterSpec)

/-- ITS FALSE NEIGHBOUR: 'it returns false'. Refute it at one input. -/
def fnExactFacingAfterWrong : ChangeSpec := { name := "fnExactFacingAfter", vars := ["loop.example/g01332/impl.signOfTurn"], fn := fun _ => fun
  | [d1, d2, g1] => { results := [.lit (.bool false)], args := [d1, d2], vars := [g1] }
  | _ => none }
def FnExactFacingAfterWrongFalsely : Prop := fnExactFacingAfterRow.holds Tryd.pinned (OpenSpec.ofChange fnExactFacingAfterWrong)

/-- 'laws.FnExactShortCommands': WHATEVER THE INPUT: true; the input reads as it did. -/
def fnExactShortCommandsSpec : ChangeSpec := { name := "fnExactShortCommands", vars := ["loop.example/g01332/impl.signOfTurn"], fn := fun _ => fun
  | [d, g1] => { results := [.lit (.bool true)], args := [d], vars := [g1] }
  | _ => none }
def fnExactShortCommandsRow : OpenClaim := { program := "ytamodlmdlaeoiaadoor", sum := "8a02086e8a44c38c2ec186f999c8519227e2d8fbbb126f0d52eed766c06eb5e0", func := "loop.example/g01332/laws.FnExactShortCommands", spec := "fnExactShortCommands", named := ["loop.example/g01332/impl.signOfTurn"], apart := false, laid := [("loop.example/g01332/impl.signOfTurn", laid_loop_example_g01332_impl_signOfTurn)] }
def FnExactShortCommandsSaid : Prop := fnExactShortCommandsRow.holds Tryd.pinned (OpenSpec.ofChange fnExactShortCommandsSpec)

/-- ITS FALSE NEIGHBOUR: 'it returns false'. Refute it at one input. -/
def fnExactShortCommandsWrong : ChangeSpec := { name := "fnExactShortCommands", vars := ["loop.example/g01332/impl.signOfTurn"], fn := fun _ => fun
  | [d, g1] => { results := [.lit (.bool false)], args := [d], vars := [g1] }
  | _ => none }
def FnExactShortCommandsWrongFalsely : Prop := fnExactShortCommandsRow.holds Tryd.pinned (OpenSpec.ofChange fnExactShortCommandsWrong)

/-- 'laws.FnExactBackCommands': WHATEVER THE INPUT: true; the input reads as it did. -/
def fnExactBackCommandsSpec : ChangeSpec := { name := "fnExactBackCommands", vars := ["loop.example/g01332/impl.signOfTurn"], fn := fun _ => fun
  | [d, g1] => { results := [.lit (.bool true)], args := [d], vars := [g1] }
  | _ => none }
def fnExactBackCommandsRow : OpenClaim := { program := "ytamodlmdlaeoiaadoor", sum := "8a02086e8a44c38c2ec186f999c8519227e2d8fbbb126f0d52eed766c06eb5e0", func := "loop.example/g01332/laws.FnExactBackCommands", spec := "fnExactBackCommands", named := ["loop.example/g01332/impl.signOfTurn"], apart := false, laid := [("loop.example/g01332/impl.signOfTurn", laid_loop_example_g01332_impl_signOfTurn)] }
def FnExactBackCommandsSaid : Prop := fnExactBackCommandsRow.holds Tryd.pinned (OpenSpec.ofChange fnExactBackCommandsSpec)

/-- ITS FALSE NEIGHBOUR: 'it returns false'. Refute it at one input. -/
def fnExactBackCommandsWrong : ChangeSpec := { name := "fnExactBackCommands", vars := ["loop.example/g01332/impl.signOfTurn"], fn := fun _ => fun
  | [d, g1] => { results := [.lit (.bool false)], args := [d], vars := [g1] }
  | _ => none }
def FnExactBackCommandsWrongFalsely : Prop := fnExactBackCommandsRow.holds Tryd.pinned (OpenSpec.ofChange fnExactBackCommandsWrong)

/-- 'laws.FnExactMirrorCommands': WHATEVER THE INPUT: true; the input reads as it did. -/
def fnExactMirrorCommandsSpec : ChangeSpec := { name := "fnExactMirrorCommands", vars := ["loop.example/g01332/impl.signOfTurn"], fn := fun _ => fun
  | [d, g1] => { results := [.lit (.bool true)], args := [d], vars := [g1] }
  | _ => none }
def fnExactMirrorCommandsRow : OpenClaim := { program := "ytamodlmdlaeoiaadoor", sum := "8a02086e8a44c38c2ec186f999c8519227e2d8fbbb126f0d52eed766c06eb5e0", func := "loop.example/g01332/laws.FnExactMirrorCommands", spec := "fnExactMirrorCommands", named := ["loop.example/g01332/impl.signOfTurn"], apart := false, laid := [("loop.example/g01332/impl.signOfTurn", laid_loop_example_g01332_impl_signOfTurn)] }
def FnExactMirrorCommandsSaid : Prop := fnExactMirrorCommandsRow.holds Tryd.pinned (OpenSpec.ofChange fnExactMirrorCommandsSpec)

/-- ITS FALSE NEIGHBOUR: 'it returns false'. Refute it at one input. -/
def fnExactMirrorCommandsWrong : ChangeSpec := { name := "fnExactMirrorCommands", vars := ["loop.example/g01332/impl.signOfTurn"], fn := fun _ => fun
  | [d, g1] => { results := [.lit (.bool false)], args := [d], vars := [g1] }
  | _ => none }
def FnExactMirrorCommandsWrongFalsely : Prop := fnExactMirrorCommandsRow.holds Tryd.pinned (OpenSpec.ofChange fnExactMirrorCommandsWrong)

/-- 'laws.FnExactRepeatsToFront': WHATEVER THE INPUT: true; the input reads as it did. -/
def fnExactRepeatsToFrontSpec : ChangeSpec := { name := "fnExactRepeatsToFront", vars := ["loop.example/g01332/impl.signOfTurn"], fn := fun _ => fun
  | [d, g1] => { results := [.lit (.bool true)], args := [d], vars := [g1] }
  | _ => none }
def fnExactRepeatsToFrontRow : OpenClaim := { program := "ytamodlmdlaeoiaadoor", sum := "8a02086e8a44c38c2ec186f999c8519227e2d8fbbb126f0d52eed766c06eb5e0", func := "loop.example/g01332/laws.FnExactRepeatsToFront", spec := "fnExactRepeatsToFront", named := ["loop.example/g01332/impl.signOfTurn"], apart := false, laid := [("loop.example/g01332/impl.signOfTurn", laid_loop_example_g01332_impl_signOfTurn)] }
def FnExactRepeatsToFrontSaid : Prop := fnExactRepeatsToFrontRow.holds Tryd.pinned (OpenSpec.ofChange fnExactRepeatsToFrontSpec)

/-- ITS FALSE NEIGHBOUR: 'it returns false'. Refute it at one input. -/
def fnExactRepeatsToFrontWrong : ChangeSpec := { name := "fnExactRepeatsToFront", vars := ["loop.example/g01332/impl.signOfTurn"], fn := fun _ => fun
  | [d, g1] => { results := [.lit (.bool false)], args := [d], vars := [g1] }
  | _ => none }
def FnExactRepeatsToFrontWrongFalsely : Prop := fnExactRepeatsToFrontRow.holds Tryd.pinned (OpenSpec.ofChange fnExactRepeatsToFrontWrong)

/-- 'laws.FnExactAreMistakes': WHATEVER THE INPUT: true; the input reads as it did. -/
def fnExactAreMistakesSpec : ChangeSpec := { name := "fnExactAreMistakes", vars := ["loop.example/g01332/impl.signOfTurn"], fn := fun _ => fun
  | [d1, d2, d3, g1] => { results := [.lit (.bool true)], args := [d1, d2, d3], vars := [g1] }
  | _ => none }
def fnExactAreMistakesRow : OpenClaim := { program := "ytamodlmdlaeoiaadoor", sum := "8a02086e8a44c38c2ec186f999c8519227e2d8fbbb126f0d52eed766c06eb5e0", func := "loop.example/g01332/laws.FnExactAreMistakes", spec := "fnExactAreMistakes", unfollowed := true, recurses := true, named := ["loop.example/g01332/impl.signOfTurn"], apart := false, laid := [("loop.example/g01332/impl.signOfTurn", laid_loop_example_g01332_impl_signOfTurn)] }
def FnExactAreMistakesSaid : Prop := fnExactAreMistakesRow.holds Tryd.pinned (OpenSpec.ofChange fnExactAreMistakesSpec)

/-- ITS FALSE NEIGHBOUR: 'it returns false'. Refute it at one input. -/
def fnExactAreMistakesWrong : ChangeSpec := { name := "fnExactAreMistakes", vars := ["loop.example/g01332/impl.signOfTurn"], fn := fun _ => fun
  | [d1, d2, d3, g1] => { results := [.lit (.bool false)], args := [d1, d2, d3], vars := [g1] }
  | _ => none }
def FnExactAreMistakesWrongFalsely : Prop := fnExactAreMistakesRow.holds Tryd.pinned (OpenSpec.ofChange fnExactAreMistakesWrong)

/- THE SECOND FORM. 'bulk': how many values and letters a reading holds, each counted each time it is reached (what is shared counts as often as it is met; a slice's spare places count too). A statement '..UptoSaid' is the law's where the arguments, and the package variables that the reading takes, are together of bulk at most 1048576: NARROWER than '..Said'. Prove '..Said' where nothing that the law and all that it calls make is longer than what came in: it says more and counts as full. Else prove '..UptoSaid'. A law counts once. -/
mutual
def uptoBulk {H : Type} : DataW H → Nat
  | .lit (.string bytes) => bytes.length + 1
  | .lit _ => 1
  | .nil => 1
  | .ptr d => uptoBulk d + 1
  | .slice elems spare => uptoBulkAll elems + uptoBulkAll spare + 1
  | .agg parts => uptoBulkAll parts + 1
  | .iface _ d => uptoBulk d + 1
  | .map entries => uptoBulkEntries entries + 1
  | .held _ => 1
def uptoBulkAll {H : Type} : List (DataW H) → Nat
  | [] => 0
  | d :: r => uptoBulk d + uptoBulkAll r
def uptoBulkEntries {H : Type} : List (Lit × DataW H) → Nat
  | [] => 0
  | x :: r => uptoBulkEntry x + uptoBulkEntries r
def uptoBulkEntry {H : Type} : Lit × DataW H → Nat
  | (.string bytes, d) => bytes.length + uptoBulk d + 1
  | (_, d) => uptoBulk d + 1
 end
def uptoSmall : (H : Type) → List (DataW H) → Bool := fun _ ds => decide (uptoBulkAll ds ≤ 1048576)
def OpenSpec.upto (s : _root_.Go.ChangeSpec) : _root_.Go.OpenSpec := { _root_.Go.OpenSpec.ofChange s with cond := some uptoSmall }

/-- 'laws.FnExactAreCommands', WHERE WHAT IT READS IS OF BULK AT MOST 1048576: true; the input reads as it did. -/
def fnExactAreCommandsUptoRow : OpenClaim := { program := "ytamodlmdlaeoiaadoor", sum := "8a02086e8a44c38c2ec186f999c8519227e2d8fbbb126f0d52eed766c06eb5e0", func := "loop.example/g01332/laws.FnExactAreCommands", spec := "fnExactAreCommands", named := ["loop.example/g01332/impl.signOfTurn"], apart := false, laid := [("loop.example/g01332/impl.signOfTurn", laid_loop_example_g01332_impl_signOfTurn)], narrowed := true }
def FnExactAreCommandsUptoSaid : Prop := fnExactAreCommandsUptoRow.holds Tryd.pinned (OpenSpec.upto fnExactAreCommandsSpec)

/-- 'laws.FnExactNetTurn', WHERE WHAT IT READS IS OF BULK AT MOST 1048576: true; the input reads as it did. -/
def fnExactNetTurnUptoRow : OpenClaim := { program := "ytamodlmdlaeoiaadoor", sum := "8a02086e8a44c38c2ec186f999c8519227e2d8fbbb126f0d52eed766c06eb5e0", func := "loop.example/g01332/laws.FnExactNetTurn", spec := "fnExactNetTurn", named := ["loop.example/g01332/impl.signOfTurn"], apart := false, laid := [("loop.example/g01332/impl.signOfTurn", laid_loop_example_g01332_impl_signOfTurn)], narrowed := true }
def FnExactNetTurnUptoSaid : Prop := fnExactNetTurnUptoRow.holds Tryd.pinned (OpenSpec.upto fnExactNetTurnSpec)

/-- 'laws.FnExactFacingAfter', WHERE WHAT IT READS IS OF BULK AT MOST 1048576: true; the input reads as it did. -/
def fnExactFacingAfterUptoRow : OpenClaim := { program := "ytamodlmdlaeoiaadoor", sum := "8a02086e8a44c38c2ec186f999c8519227e2d8fbbb126f0d52eed766c06eb5e0", func := "loop.example/g01332/laws.FnExactFacingAfter", spec := "fnExactFacingAfter", unfollowed := true, recurses := true, named := ["loop.example/g01332/impl.signOfTurn"], apart := false, laid := [("loop.example/g01332/impl.signOfTurn", laid_loop_example_g01332_impl_signOfTurn)], narrowed := true }
def FnExactFacingAfterUptoSaid : Prop := fnExactFacingAfterUptoRow.holds Tryd.pinned (OpenSpec.upto fnExactFacingAfterSpec)

/-- 'laws.FnExactShortCommands', WHERE WHAT IT READS IS OF BULK AT MOST 1048576: true; the input reads as it did. -/
def fnExactShortCommandsUptoRow : OpenClaim := { program := "ytamodlmdlaeoiaadoor", sum := "8a02086e8a44c38c2ec186f999c8519227e2d8fbbb126f0d52eed766c06eb5e0", func := "loop.example/g01332/laws.FnExactShortCommands", spec := "fnExactShortCommands", named := ["loop.example/g01332/impl.signOfTurn"], apart := false, laid := [("loop.example/g01332/impl.signOfTurn", laid_loop_example_g01332_impl_signOfTurn)], narrowed := true }
def FnExactShortCommandsUptoSaid : Prop := fnExactShortCommandsUptoRow.holds Tryd.pinned (OpenSpec.upto fnExactShortCommandsSpec)

/-- 'laws.FnExactBackCommands', WHERE WHAT IT READS IS OF BULK AT MOST 1048576: true; the input reads as it did. -/
def fnExactBackCommandsUptoRow : OpenClaim := { program := "ytamodlmdlaeoiaadoor", sum := "8a02086e8a44c38c2ec186f999c8519227e2d8fbbb126f0d52eed766c06eb5e0", func := "loop.example/g01332/laws.FnExactBackCommands", spec := "fnExactBackCommands", named := ["loop.example/g01332/impl.signOfTurn"], apart := false, laid := [("loop.example/g01332/impl.signOfTurn", laid_loop_example_g01332_impl_signOfTurn)], narrowed := true }
def FnExactBackCommandsUptoSaid : Prop := fnExactBackCommandsUptoRow.holds Tryd.pinned (OpenSpec.upto fnExactBackCommandsSpec)

/-- 'laws.FnExactMirrorCommands', WHERE WHAT IT READS IS OF BULK AT MOST 1048576: true; the input reads as it did. -/
def fnExactMirrorCommandsUptoRow : OpenClaim := { program := "ytamodlmdlaeoiaadoor", sum := "8a02086e8a44c38c2ec186f999c8519227e2d8fbbb126f0d52eed766c06eb5e0", func := "loop.example/g01332/laws.FnExactMirrorCommands", spec := "fnExactMirrorCommands", named := ["loop.example/g01332/impl.signOfTurn"], apart := false, laid := [("loop.example/g01332/impl.signOfTurn", laid_loop_example_g01332_impl_signOfTurn)], narrowed := true }
def FnExactMirrorCommandsUptoSaid : Prop := fnExactMirrorCommandsUptoRow.holds Tryd.pinned (OpenSpec.upto fnExactMirrorCommandsSpec)

/-- 'laws.FnExactRepeatsToFront', WHERE WHAT IT READS IS OF BULK AT MOST 1048576: true; the input reads as it did. -/
def fnExactRepeatsToFrontUptoRow : OpenClaim := { program := "ytamodlmdlaeoiaadoor", sum := "8a02086e8a44c38c2ec186f999c8519227e2d8fbbb126f0d52eed766c06eb5e0", func := "loop.example/g01332/laws.FnExactRepeatsToFront", spec := "fnExactRepeatsToFront", named := ["loop.example/g01332/impl.signOfTurn"], apart := false, laid := [("loop.example/g01332/impl.signOfTurn", laid_loop_example_g01332_impl_signOfTurn)], narrowed := true }
def FnExactRepeatsToFrontUptoSaid : Prop := fnExactRepeatsToFrontUptoRow.holds Tryd.pinned (OpenSpec.upto fnExactRepeatsToFrontSpec)

/-- 'laws.FnExactAreMistakes', WHERE WHAT IT READS IS OF BULK AT MOST 1048576: true; the input reads as it did. -/
def fnExactAreMistakesUptoRow : OpenClaim := { program := "ytamodlmdlaeoiaadoor", sum := "8a02086e8a44c38c2ec186f999c8519227e2d8fbbb126f0d52eed766c06eb5e0", func := "loop.example/g01332/laws.FnExactAreMistakes", spec := "fnExactAreMistakes", unfollowed := true, recurses := true, named := ["loop.example/g01332/impl.signOfTurn"], apart := false, laid := [("loop.example/g01332/impl.signOfTurn", laid_loop_example_g01332_impl_signOfTurn)], narrowed := true }
def FnExactAreMistakesUptoSaid : Prop := fnExactAreMistakesUptoRow.holds Tryd.pinned (OpenSpec.upto fnExactAreMistakesSpec)

end Rows
end Go.Proofs.YtamodlmdlaeoiaaDoor
