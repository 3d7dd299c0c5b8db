/-
  NARROWER THAN 'FOR EVERY INPUT', by the rows' own cells (each row's printed sentence says how): FnExactFacingWithMistakes: laid · FnExactWrongSoldiers: laid · FnExactCorrectionsOf: laid · FnExactWaysToFace: laid · FnExactBestCommand: laid · FnExactCommandsBetween: laid.
  DERIVED. THE GIVEN ROWS OF THIS SEAT. 6 by the template 'for every input the law returns true; each argument reads behind the call as it read before'; 0 by the template 'total and deterministic' (their statements: YtamodlmdlaeoiabDoorTotals.lean).
  GIVEN WITH THE SEED: the statements are not yours to turn. If you find one false, say at which input.
  Laid BY PROGRAM, IN A SANDBOX (cutbox-rows.mjs): the forced cells as the released guide's own fill.sh prints them over the translation 22bdc7a16b397438… (all of the seat's roots in one cut). By AI agents, Wed Nov 11 2026. No macro, syntax, notation, axiom, sorry.
-/
import Derived.Test.YtamodlmdlaeoiabDoorChecked
import GoSem.Claim
import GoSem.ClaimJoined
import GoSem.ClaimMapViews
import Derived.JoinedTies
import Derived.KernelRfl
namespace Go.Proofs.YtamodlmdlaeoiabDoor
/- THE CELL 'sum', in the pinned program and in every row, IS THE sha256 OF THE DUMP (.gsa) THAT YtamodlmdlaeoiabDoorProg.lean LOADS. Nothing in Lean hashes anything: it is a label: what it is worth is what the hold of that sum in a sandbox is worth. -/
noncomputable def Tryd.pinned : Pinned := { name := "ytamodlmdlaeoiabdoor", sum := "22bdc7a16b397438449bcd7d2c11cc9a83bda6aa49824fb4d37d4d5d18184779", checked := Tryd.checked }
namespace Rows
def none {H : Type} : Left H := { results := [], args := [] }

/- WHAT THE LISTED PACKAGE-LEVEL VARIABLES READ AS WHEN THE CALL BEGINS. Each datum BY PROGRAM (the guide's laid-datum.mjs) off the statement by which the dump's own 'gosem.cut.vars' lays the variable. In a bare row this is a premise. The card (YtamodlmdlaeoiabDoorCards.lean) ties it to the program's text. -/
def laid_loop_example_g01332_impl_signOfTurn {H : Type} : DataW H := .agg [.lit (.int .i32 83), .lit (.int .i32 82), .lit (.int .i32 65), .lit (.int .i32 76)]
def laid_loop_example_g01332_impl_turnsChosen {H : Type} : DataW H := .agg [.lit (.int .i64 0), .lit (.int .i64 3), .lit (.int .i64 1), .lit (.int .i64 2)]

/-- 'laws.FnExactFacingWithMistakes': WHATEVER THE INPUT: true; the input reads as it did. -/
def fnExactFacingWithMistakesSpec : ChangeSpec := { name := "fnExactFacingWithMistakes", vars := ["loop.example/g01332/impl.signOfTurn"], fn := fun _ => fun
  | [d1, d2, d3, g1] => { results := [.lit (.bool true)], args := [d1, d2, d3], vars := [g1] }
  | _ => none }
def fnExactFacingWithMistakesRow : OpenClaim := { program := "ytamodlmdlaeoiabdoor", sum := "22bdc7a16b397438449bcd7d2c11cc9a83bda6aa49824fb4d37d4d5d18184779", func := "loop.example/g01332/laws.FnExactFacingWithMistakes", spec := "fnExactFacingWithMistakes", unfollowed := true, recurses := true, named := ["loop.example/g01332/impl.signOfTurn"], apart := false, laid := [("loop.example/g01332/impl.signOfTurn", laid_loop_example_g01332_impl_signOfTurn)] }
def FnExactFacingWithMistakesSaid : Prop := fnExactFacingWithMistakesRow.holds Tryd.pinned (OpenSpec.ofChange fnExactFacingWithMistakesSpec)

/-- ITS FALSE NEIGHBOUR: 'it returns false'. Refute it at one input. -/
def fnExactFacingWithMistakesWrong : ChangeSpec := { name := "fnExactFacingWithMistakes", vars := ["loop.example/g01332/impl.signOfTurn"], fn := fun _ => fun
  | [d1, d2, d3, g1] => { results := [.lit (.bool false)], args := [d1, d2, d3], vars := [g1] }
  | _ => none }
def FnExactFacingWithMistakesWrongFalsely : Prop := fnExactFacingWithMistakesRow.holds Tryd.pinned (OpenSpec.ofChange fnExactFacingWithMistakesWrong)

/-- 'laws.FnExactWrongSoldiers': WHATEVER THE INPUT: true; the input reads as it did. -/
def fnExactWrongSoldiersSpec : ChangeSpec := { name := "fnExactWrongSoldiers", vars := ["loop.example/g01332/impl.signOfTurn"], fn := fun _ => fun
  | [d1, d2, d3, g1] => { results := [.lit (.bool true)], args := [d1, d2, d3], vars := [g1] }
  | _ => none }
def fnExactWrongSoldiersRow : OpenClaim := { program := "ytamodlmdlaeoiabdoor", sum := "22bdc7a16b397438449bcd7d2c11cc9a83bda6aa49824fb4d37d4d5d18184779", func := "loop.example/g01332/laws.FnExactWrongSoldiers", spec := "fnExactWrongSoldiers", unfollowed := true, recurses := true, named := ["loop.example/g01332/impl.signOfTurn"], apart := false, laid := [("loop.example/g01332/impl.signOfTurn", laid_loop_example_g01332_impl_signOfTurn)] }
def FnExactWrongSoldiersSaid : Prop := fnExactWrongSoldiersRow.holds Tryd.pinned (OpenSpec.ofChange fnExactWrongSoldiersSpec)

/-- ITS FALSE NEIGHBOUR: 'it returns false'. Refute it at one input. -/
def fnExactWrongSoldiersWrong : ChangeSpec := { name := "fnExactWrongSoldiers", vars := ["loop.example/g01332/impl.signOfTurn"], fn := fun _ => fun
  | [d1, d2, d3, g1] => { results := [.lit (.bool false)], args := [d1, d2, d3], vars := [g1] }
  | _ => none }
def FnExactWrongSoldiersWrongFalsely : Prop := fnExactWrongSoldiersRow.holds Tryd.pinned (OpenSpec.ofChange fnExactWrongSoldiersWrong)

/-- 'laws.FnExactCorrectionsOf': WHATEVER THE INPUT: true; the input reads as it did. -/
def fnExactCorrectionsOfSpec : ChangeSpec := { name := "fnExactCorrectionsOf", vars := ["loop.example/g01332/impl.signOfTurn"], fn := fun _ => fun
  | [d1, d2, d3, g1] => { results := [.lit (.bool true)], args := [d1, d2, d3], vars := [g1] }
  | _ => none }
def fnExactCorrectionsOfRow : OpenClaim := { program := "ytamodlmdlaeoiabdoor", sum := "22bdc7a16b397438449bcd7d2c11cc9a83bda6aa49824fb4d37d4d5d18184779", func := "loop.example/g01332/laws.FnExactCorrectionsOf", spec := "fnExactCorrectionsOf", unfollowed := true, recurses := true, named := ["loop.example/g01332/impl.signOfTurn"], apart := false, laid := [("loop.example/g01332/impl.signOfTurn", laid_loop_example_g01332_impl_signOfTurn)] }
def FnExactCorrectionsOfSaid : Prop := fnExactCorrectionsOfRow.holds Tryd.pinned (OpenSpec.ofChange fnExactCorrectionsOfSpec)

/-- ITS FALSE NEIGHBOUR: 'it returns false'. Refute it at one input. -/
def fnExactCorrectionsOfWrong : ChangeSpec := { name := "fnExactCorrectionsOf", vars := ["loop.example/g01332/impl.signOfTurn"], fn := fun _ => fun
  | [d1, d2, d3, g1] => { results := [.lit (.bool false)], args := [d1, d2, d3], vars := [g1] }
  | _ => none }
def FnExactCorrectionsOfWrongFalsely : Prop := fnExactCorrectionsOfRow.holds Tryd.pinned (OpenSpec.ofChange fnExactCorrectionsOfWrong)

/-- 'laws.FnExactWaysToFace': WHATEVER THE INPUT: true; the input reads as it did. -/
def fnExactWaysToFaceSpec : ChangeSpec := { name := "fnExactWaysToFace", vars := ["loop.example/g01332/impl.signOfTurn"], fn := fun _ => fun
  | [d1, d2, d3, g1] => { results := [.lit (.bool true)], args := [d1, d2, d3], vars := [g1] }
  | _ => none }
def fnExactWaysToFaceRow : OpenClaim := { program := "ytamodlmdlaeoiabdoor", sum := "22bdc7a16b397438449bcd7d2c11cc9a83bda6aa49824fb4d37d4d5d18184779", func := "loop.example/g01332/laws.FnExactWaysToFace", spec := "fnExactWaysToFace", named := ["loop.example/g01332/impl.signOfTurn"], apart := false, laid := [("loop.example/g01332/impl.signOfTurn", laid_loop_example_g01332_impl_signOfTurn)] }
def FnExactWaysToFaceSaid : Prop := fnExactWaysToFaceRow.holds Tryd.pinned (OpenSpec.ofChange fnExactWaysToFaceSpec)

/-- ITS FALSE NEIGHBOUR: 'it returns false'. Refute it at one input. -/
def fnExactWaysToFaceWrong : ChangeSpec := { name := "fnExactWaysToFace", vars := ["loop.example/g01332/impl.signOfTurn"], fn := fun _ => fun
  | [d1, d2, d3, g1] => { results := [.lit (.bool false)], args := [d1, d2, d3], vars := [g1] }
  | _ => none }
def FnExactWaysToFaceWrongFalsely : Prop := fnExactWaysToFaceRow.holds Tryd.pinned (OpenSpec.ofChange fnExactWaysToFaceWrong)

/-- 'laws.FnExactBestCommand': WHATEVER THE INPUT: true; the input reads as it did. -/
def fnExactBestCommandSpec : ChangeSpec := { name := "fnExactBestCommand", vars := ["loop.example/g01332/impl.turnsChosen", "loop.example/g01332/impl.signOfTurn"], fn := fun _ => fun
  | [d1, d2, g1, g2] => { results := [.lit (.bool true)], args := [d1, d2], vars := [g1, g2] }
  | _ => none }
def fnExactBestCommandRow : OpenClaim := { program := "ytamodlmdlaeoiabdoor", sum := "22bdc7a16b397438449bcd7d2c11cc9a83bda6aa49824fb4d37d4d5d18184779", func := "loop.example/g01332/laws.FnExactBestCommand", spec := "fnExactBestCommand", named := ["loop.example/g01332/impl.turnsChosen", "loop.example/g01332/impl.signOfTurn"], apart := false, laid := [("loop.example/g01332/impl.signOfTurn", laid_loop_example_g01332_impl_signOfTurn), ("loop.example/g01332/impl.turnsChosen", laid_loop_example_g01332_impl_turnsChosen)] }
def FnExactBestCommandSaid : Prop := fnExactBestCommandRow.holds Tryd.pinned (OpenSpec.ofChange fnExactBestCommandSpec)

/-- ITS FALSE NEIGHBOUR: 'it returns false'. Refute it at one input. -/
def fnExactBestCommandWrong : ChangeSpec := { name := "fnExactBestCommand", vars := ["loop.example/g01332/impl.turnsChosen", "loop.example/g01332/impl.signOfTurn"], fn := fun _ => fun
  | [d1, d2, g1, g2] => { results := [.lit (.bool false)], args := [d1, d2], vars := [g1, g2] }
  | _ => none }
def FnExactBestCommandWrongFalsely : Prop := fnExactBestCommandRow.holds Tryd.pinned (OpenSpec.ofChange fnExactBestCommandWrong)

/-- 'laws.FnExactCommandsBetween': WHATEVER THE INPUT: true; the input reads as it did. -/
def fnExactCommandsBetweenSpec : ChangeSpec := { name := "fnExactCommandsBetween", vars := ["loop.example/g01332/impl.signOfTurn"], fn := fun _ => fun
  | [d1, d2, g1] => { results := [.lit (.bool true)], args := [d1, d2], vars := [g1] }
  | _ => none }
def fnExactCommandsBetweenRow : OpenClaim := { program := "ytamodlmdlaeoiabdoor", sum := "22bdc7a16b397438449bcd7d2c11cc9a83bda6aa49824fb4d37d4d5d18184779", func := "loop.example/g01332/laws.FnExactCommandsBetween", spec := "fnExactCommandsBetween", named := ["loop.example/g01332/impl.signOfTurn"], apart := false, laid := [("loop.example/g01332/impl.signOfTurn", laid_loop_example_g01332_impl_signOfTurn)] }
def FnExactCommandsBetweenSaid : Prop := fnExactCommandsBetweenRow.holds Tryd.pinned (OpenSpec.ofChange fnExactCommandsBetweenSpec)

/-- ITS FALSE NEIGHBOUR: 'it returns false'. Refute it at one input. -/
def fnExactCommandsBetweenWrong : ChangeSpec := { name := "fnExactCommandsBetween", vars := ["loop.example/g01332/impl.signOfTurn"], fn := fun _ => fun
  | [d1, d2, g1] => { results := [.lit (.bool false)], args := [d1, d2], vars := [g1] }
  | _ => none }
def FnExactCommandsBetweenWrongFalsely : Prop := fnExactCommandsBetweenRow.holds Tryd.pinned (OpenSpec.ofChange fnExactCommandsBetweenWrong)

/- THE SECOND FORM. 'bulk': how many values and letters a reading holds, each counted each time it is reached (what is shared counts as often as it is met; a slice's spare places count too). A statement '..UptoSaid' is the law's where the arguments, and the package variables that the reading takes, are together of bulk at most 1048576: NARROWER than '..Said'. Prove '..Said' where nothing that the law and all that it calls make is longer than what came in: it says more and counts as full. Else prove '..UptoSaid'. A law counts once. -/
mutual
def uptoBulk {H : Type} : DataW H → Nat
  | .lit (.string bytes) => bytes.length + 1
  | .lit _ => 1
  | .nil => 1
  | .ptr d => uptoBulk d + 1
  | .slice elems spare => uptoBulkAll elems + uptoBulkAll spare + 1
  | .agg parts => uptoBulkAll parts + 1
  | .iface _ d => uptoBulk d + 1
  | .map entries => uptoBulkEntries entries + 1
  | .held _ => 1
def uptoBulkAll {H : Type} : List (DataW H) → Nat
  | [] => 0
  | d :: r => uptoBulk d + uptoBulkAll r
def uptoBulkEntries {H : Type} : List (Lit × DataW H) → Nat
  | [] => 0
  | x :: r => uptoBulkEntry x + uptoBulkEntries r
def uptoBulkEntry {H : Type} : Lit × DataW H → Nat
  | (.string bytes, d) => bytes.length + uptoBulk d + 1
  | (_, d) => uptoBulk d + 1
 end
def uptoSmall : (H : Type) → List (DataW H) → Bool := fun _ ds => decide (uptoBulkAll ds ≤ 1048576)
def OpenSpec.upto (s : _root_.Go.ChangeSpec) : _root_.Go.OpenSpec := { _root_.Go.OpenSpec.ofChange s with cond := some uptoSmall }

/-- 'laws.FnExactFacingWithMistakes', WHERE WHAT IT READS IS OF BULK AT MOST 1048576: true; the input reads as it did. -/
def fnExactFacingWithMistakesUptoRow : OpenClaim := { program := "ytamodlmdlaeoiabdoor", sum := "22bdc7a16b397438449bcd7d2c11cc9a83bda6aa49824fb4d37d4d5d18184779", func := "loop.example/g01332/laws.FnExactFacingWithMistakes", spec := "fnExactFacingWithMistakes", unfollowed := true, recurses := true, named := ["loop.example/g01332/impl.signOfTurn"], apart := false, laid := [("loop.example/g01332/impl.signOfTurn", laid_loop_example_g01332_impl_signOfTurn)], narrowed := true }
def FnExactFacingWithMistakesUptoSaid : Prop := fnExactFacingWithMistakesUptoRow.holds Tryd.pinned (OpenSpec.upto fnExactFacingWithMistakesSpec)

/-- 'laws.FnExactWrongSoldiers', WHERE WHAT IT READS IS OF BULK AT MOST 1048576: true; the input reads as it did. -/
def fnExactWrongSoldiersUptoRow : OpenClaim := { program := "ytamodlmdlaeoiabdoor", sum := "22bdc7a16b397438449bcd7d2c11cc9a83bda6aa49824fb4d37d4d5d18184779", func := "loop.example/g01332/laws.FnExactWrongSoldiers", spec := "fnExactWrongSoldiers", unfollowed := true, recurses := true, named := ["loop.example/g01332/impl.signOfTurn"], apart := false, laid := [("loop.example/g01332/impl.signOfTurn", laid_loop_example_g01332_impl_signOfTurn)], narrowed := true }
def FnExactWrongSoldiersUptoSaid : Prop := fnExactWrongSoldiersUptoRow.holds Tryd.pinned (OpenSpec.upto fnExactWrongSoldiersSpec)

/-- 'laws.FnExactCorrectionsOf', WHERE WHAT IT READS IS OF BULK AT MOST 1048576: true; the input reads as it did. -/
def fnExactCorrectionsOfUptoRow : OpenClaim := { program := "ytamodlmdlaeoiabdoor", sum := "22bdc7a16b397438449bcd7d2c11cc9a83bda6aa49824fb4d37d4d5d18184779", func := "loop.example/g01332/laws.FnExactCorrectionsOf", spec := "fnExactCorrectionsOf", unfollowed := true, recurses := true, named := ["loop.example/g01332/impl.signOfTurn"], apart := false, laid := [("loop.example/g01332/impl.signOfTurn", laid_loop_example_g01332_impl_signOfTurn)], narrowed := true }
def FnExactCorrectionsOfUptoSaid : Prop := fnExactCorrectionsOfUptoRow.holds Tryd.pinned (OpenSpec.upto fnExactCorrectionsOfSpec)

/-- 'laws.FnExactWaysToFace', WHERE WHAT IT READS IS OF BULK AT MOST 1048576: true; the input reads as it did. -/
def fnExactWaysToFaceUptoRow : OpenClaim := { program := "ytamodlmdlaeoiabdoor", sum := "22bdc7a16b397438449bcd7d2c11cc9a83bda6aa49824fb4d37d4d5d18184779", func := "loop.example/g01332/laws.FnExactWaysToFace", spec := "fnExactWaysToFace", named := ["loop.example/g01332/impl.signOfTurn"], apart := false, laid := [("loop.example/g01332/impl.signOfTurn", laid_loop_example_g01332_impl_signOfTurn)], narrowed := true }
def FnExactWaysToFaceUptoSaid : Prop := fnExactWaysToFaceUptoRow.holds Tryd.pinned (OpenSpec.upto fnExactWaysToFaceSpec)

/-- 'laws.FnExactBestCommand', WHERE WHAT IT READS IS OF BULK AT MOST 1048576: true; the input reads as it did. -/
def fnExactBestCommandUptoRow : OpenClaim := { program := "ytamodlmdlaeoiabdoor", sum := "22bdc7a16b397438449bcd7d2c11cc9a83bda6aa49824fb4d37d4d5d18184779", func := "loop.example/g01332/laws.FnExactBestCommand", spec := "fnExactBestCommand", named := ["loop.example/g01332/impl.turnsChosen", "loop.example/g01332/impl.signOfTurn"], apart := false, laid := [("loop.example/g01332/impl.signOfTurn", laid_loop_example_g01332_impl_signOfTurn), ("loop.example/g01332/impl.turnsChosen", laid_loop_example_g01332_impl_turnsChosen)], narrowed := true }
def FnExactBestCommandUptoSaid : Prop := fnExactBestCommandUptoRow.holds Tryd.pinned (OpenSpec.upto fnExactBestCommandSpec)

/-- 'laws.FnExactCommandsBetween', WHERE WHAT IT READS IS OF BULK AT MOST 1048576: true; the input reads as it did. -/
def fnExactCommandsBetweenUptoRow : OpenClaim := { program := "ytamodlmdlaeoiabdoor", sum := "22bdc7a16b397438449bcd7d2c11cc9a83bda6aa49824fb4d37d4d5d18184779", func := "loop.example/g01332/laws.FnExactCommandsBetween", spec := "fnExactCommandsBetween", named := ["loop.example/g01332/impl.signOfTurn"], apart := false, laid := [("loop.example/g01332/impl.signOfTurn", laid_loop_example_g01332_impl_signOfTurn)], narrowed := true }
def FnExactCommandsBetweenUptoSaid : Prop := fnExactCommandsBetweenUptoRow.holds Tryd.pinned (OpenSpec.upto fnExactCommandsBetweenSpec)

end Rows
end Go.Proofs.YtamodlmdlaeoiabDoor
