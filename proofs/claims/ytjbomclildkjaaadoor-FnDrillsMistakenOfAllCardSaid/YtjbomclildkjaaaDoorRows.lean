/-
  NARROWER THAN 'FOR EVERY INPUT', by the rows' own cells (each row's printed sentence says how): FnDrillsTurn: laid · FnDrillsTurnOfAll: laid · FnDrillsMistaken: laid · FnDrillsMistakenOfAll: laid.
  DERIVED. THE GIVEN ROWS OF THIS SEAT. 4 by the template 'for every input the law returns true; each argument reads behind the call as it read before'; 0 by the template 'total and deterministic' (their statements: YtjbomclildkjaaaDoorTotals.lean).
  GIVEN WITH THE SEED: the statements are not yours to turn. If you find one false, say at which input.
  Laid BY PROGRAM, IN A SANDBOX (cutbox-rows.mjs): the forced cells as the released guide's own fill.sh prints them over the translation 8ff29ce3cbddd6e3… (all of the seat's roots in one cut). By AI agents, Wed Nov 11 2026. No macro, syntax, notation, axiom, sorry.
-/
import Derived.Test.YtjbomclildkjaaaDoorChecked
import GoSem.Claim
import GoSem.ClaimJoined
import GoSem.ClaimMapViews
import Derived.JoinedTies
import Derived.KernelRfl
namespace Go.Proofs.YtjbomclildkjaaaDoor
/- THE CELL 'sum', in the pinned program and in every row, IS THE sha256 OF THE DUMP (.gsa) THAT YtjbomclildkjaaaDoorProg.lean LOADS. Nothing in Lean hashes anything: it is a label: what it is worth is what the hold of that sum in a sandbox is worth. -/
noncomputable def Tryd.pinned : Pinned := { name := "ytjbomclildkjaaadoor", sum := "8ff29ce3cbddd6e3d88d3ec2740d4930feaef096461e9a75fa9699518dbf9d60", checked := Tryd.checked }
namespace Rows
def none {H : Type} : Left H := { results := [], args := [] }

/- WHAT THE LISTED PACKAGE-LEVEL VARIABLES READ AS WHEN THE CALL BEGINS. Each datum BY PROGRAM (the guide's laid-datum.mjs) off the statement by which the dump's own 'gosem.cut.vars' lays the variable. In a bare row this is a premise. The card (YtjbomclildkjaaaDoorCards.lean) ties it to the program's text. -/
def laid_loop_example_g01332_impl_signOfTurn {H : Type} : DataW H := .agg [.lit (.int .i32 83), .lit (.int .i32 82), .lit (.int .i32 65), .lit (.int .i32 76)]
def laid_loop_example_g01332_impl_turnsChosen {H : Type} : DataW H := .agg [.lit (.int .i64 0), .lit (.int .i64 3), .lit (.int .i64 1), .lit (.int .i64 2)]

/-- 'laws.FnDrillsTurn': WHATEVER THE INPUT: true; the input reads as it did. -/
def fnDrillsTurnSpec : ChangeSpec := { name := "fnDrillsTurn", vars := ["loop.example/g01332/impl.signOfTurn", "loop.example/g01332/impl.turnsChosen"], fn := fun _ => fun
  | [d1, d2, g1, g2] => { results := [.lit (.bool true)], args := [d1, d2], vars := [g1, g2] }
  | _ => none }
def fnDrillsTurnRow : OpenClaim := { program := "ytjbomclildkjaaadoor", sum := "8ff29ce3cbddd6e3d88d3ec2740d4930feaef096461e9a75fa9699518dbf9d60", func := "loop.example/g01332/laws.FnDrillsTurn", spec := "fnDrillsTurn", unfollowed := true, recurses := true, named := ["loop.example/g01332/impl.signOfTurn", "loop.example/g01332/impl.turnsChosen"], apart := false, laid := [("loop.example/g01332/impl.signOfTurn", laid_loop_example_g01332_impl_signOfTurn), ("loop.example/g01332/impl.turnsChosen", laid_loop_example_g01332_impl_turnsChosen)] }
def FnDrillsTurnSaid : Prop := fnDrillsTurnRow.holds Tryd.pinned (OpenSpec.ofChange fnDrillsTurnSpec)

/-- ITS FALSE NEIGHBOUR: 'it returns false'. Refute it at one input. -/
def fnDrillsTurnWrong : ChangeSpec := { name := "fnDrillsTurn", vars := ["loop.example/g01332/impl.signOfTurn", "loop.example/g01332/impl.turnsChosen"], fn := fun _ => fun
  | [d1, d2, g1, g2] => { results := [.lit (.bool false)], args := [d1, d2], vars := [g1, g2] }
  | _ => none }
def FnDrillsTurnWrongFalsely : Prop := fnDrillsTurnRow.holds Tryd.pinned (OpenSpec.ofChange fnDrillsTurnWrong)

/-- 'laws.FnDrillsTurnOfAll': WHATEVER THE INPUT: true; the input reads as it did. -/
def fnDrillsTurnOfAllSpec : ChangeSpec := { name := "fnDrillsTurnOfAll", vars := ["loop.example/g01332/impl.signOfTurn", "loop.example/g01332/impl.turnsChosen"], fn := fun _ => fun
  | [d1, d2, d3, d4, d5, d6, d7, d8, d9, g1, g2] => { results := [.lit (.bool true)], args := [d1, d2, d3, d4, d5, d6, d7, d8, d9], vars := [g1, g2] }
  | _ => none }
def fnDrillsTurnOfAllRow : OpenClaim := { program := "ytjbomclildkjaaadoor", sum := "8ff29ce3cbddd6e3d88d3ec2740d4930feaef096461e9a75fa9699518dbf9d60", func := "loop.example/g01332/laws.FnDrillsTurnOfAll", spec := "fnDrillsTurnOfAll", unfollowed := true, recurses := true, named := ["loop.example/g01332/impl.signOfTurn", "loop.example/g01332/impl.turnsChosen"], apart := false, laid := [("loop.example/g01332/impl.signOfTurn", laid_loop_example_g01332_impl_signOfTurn), ("loop.example/g01332/impl.turnsChosen", laid_loop_example_g01332_impl_turnsChosen)] }
def FnDrillsTurnOfAllSaid : Prop := fnDrillsTurnOfAllRow.holds Tryd.pinned (OpenSpec.ofChange fnDrillsTurnOfAllSpec)

/-- ITS FALSE NEIGHBOUR: 'it returns false'. Refute it at one input. -/
def fnDrillsTurnOfAllWrong : ChangeSpec := { name := "fnDrillsTurnOfAll", vars := ["loop.example/g01332/impl.signOfTurn", "loop.example/g01332/impl.turnsChosen"], fn := fun _ => fun
  | [d1, d2, d3, d4, d5, d6, d7, d8, d9, g1, g2] => { results := [.lit (.bool false)], args := [d1, d2, d3, d4, d5, d6, d7, d8, d9], vars := [g1, g2] }
  | _ => none }
def FnDrillsTurnOfAllWrongFalsely : Prop := fnDrillsTurnOfAllRow.holds Tryd.pinned (OpenSpec.ofChange fnDrillsTurnOfAllWrong)

/-- 'laws.FnDrillsMistaken': WHATEVER THE INPUT: true; the input reads as it did. -/
def fnDrillsMistakenSpec : ChangeSpec := { name := "fnDrillsMistaken", vars := ["loop.example/g01332/impl.signOfTurn"], fn := fun _ => fun
  | [d1, d2, g1] => { results := [.lit (.bool true)], args := [d1, d2], vars := [g1] }
  | _ => none }
def fnDrillsMistakenRow : OpenClaim := { program := "ytjbomclildkjaaadoor", sum := "8ff29ce3cbddd6e3d88d3ec2740d4930feaef096461e9a75fa9699518dbf9d60", func := "loop.example/g01332/laws.FnDrillsMistaken", spec := "fnDrillsMistaken", unfollowed := true, recurses := true, named := ["loop.example/g01332/impl.signOfTurn"], apart := false, laid := [("loop.example/g01332/impl.signOfTurn", laid_loop_example_g01332_impl_signOfTurn)] }
def FnDrillsMistakenSaid : Prop := fnDrillsMistakenRow.holds Tryd.pinned (OpenSpec.ofChange fnDrillsMistakenSpec)

/-- ITS FALSE NEIGHBOUR: 'it returns false'. Refute it at one input. -/
def fnDrillsMistakenWrong : ChangeSpec := { name := "fnDrillsMistaken", vars := ["loop.example/g01332/impl.signOfTurn"], fn := fun _ => fun
  | [d1, d2, g1] => { results := [.lit (.bool false)], args := [d1, d2], vars := [g1] }
  | _ => none }
def FnDrillsMistakenWrongFalsely : Prop := fnDrillsMistakenRow.holds Tryd.pinned (OpenSpec.ofChange fnDrillsMistakenWrong)

/-- 'laws.FnDrillsMistakenOfAll': WHATEVER THE INPUT: true; the input reads as it did. -/
def fnDrillsMistakenOfAllSpec : ChangeSpec := { name := "fnDrillsMistakenOfAll", vars := ["loop.example/g01332/impl.signOfTurn"], fn := fun _ => fun
  | [d1, d2, d3, d4, d5, d6, d7, d8, d9, g1] => { results := [.lit (.bool true)], args := [d1, d2, d3, d4, d5, d6, d7, d8, d9], vars := [g1] }
  | _ => none }
def fnDrillsMistakenOfAllRow : OpenClaim := { program := "ytjbomclildkjaaadoor", sum := "8ff29ce3cbddd6e3d88d3ec2740d4930feaef096461e9a75fa9699518dbf9d60", func := "loop.example/g01332/laws.FnDrillsMistakenOfAll", spec := "fnDrillsMistakenOfAll", unfollowed := true, recurses := true, named := ["loop.example/g01332/impl.signOfTurn"], apart := false, laid := [("loop.example/g01332/impl.signOfTurn", laid_loop_example_g01332_impl_signOfTurn)] }
def FnDrillsMistakenOfAllSaid : Prop := fnDrillsMistakenOfAllRow.holds Tryd.pinned (OpenSpec.ofChange fnDrillsMistakenOfAllSpec)

/-- ITS FALSE NEIGHBOUR: 'it returns false'. Refute it at one input. -/
def fnDrillsMistakenOfAllWrong : ChangeSpec := { name := "fnDrillsMistakenOfAll", vars := ["loop.example/g01332/impl.signOfTurn"], fn := fun _ => fun
  | [d1, d2, d3, d4, d5, d6, d7, d8, d9, g1] => { results := [.lit (.bool false)], args := [d1, d2, d3, d4, d5, d6, d7, d8, d9], vars := [g1] }
  | _ => none }
def FnDrillsMistakenOfAllWrongFalsely : Prop := fnDrillsMistakenOfAllRow.holds Tryd.pinned (OpenSpec.ofChange fnDrillsMistakenOfAllWrong)

/- THE SECOND FORM. 'bulk': how many values and letters a reading holds, each counted each time it is reached (what is shared counts as often as it is met; a slice's spare places count too). A statement '..UptoSaid' is the law's where the arguments, and the package variables that the reading takes, are together of bulk at most 1048576: NARROWER than '..Said'. Prove '..Said' where nothing that the law and all that it calls make is longer than what came in: it says more and counts as full. Else prove '..UptoSaid'. A law counts once. -/
mutual
def uptoBulk {H : Type} : DataW H → Nat
  | .lit (.string bytes) => bytes.length + 1
  | .lit _ => 1
  | .nil => 1
  | .ptr d => uptoBulk d + 1
  | .slice elems spare => uptoBulkAll elems + uptoBulkAll spare + 1
  | .agg parts => uptoBulkAll parts + 1
  | .iface _ d => uptoBulk d + 1
  | .map entries => uptoBulkEntries entries + 1
  | .held _ => 1
def uptoBulkAll {H : Type} : List (DataW H) → Nat
  | [] => 0
  | d :: r => uptoBulk d + uptoBulkAll r
def uptoBulkEntries {H : Type} : List (Lit × DataW H) → Nat
  | [] => 0
  | x :: r => uptoBulkEntry x + uptoBulkEntries r
def uptoBulkEntry {H : Type} : Lit × DataW H → Nat
  | (.string bytes, d) => bytes.length + uptoBulk d + 1
  | (_, d) => uptoBulk d + 1
 end
def uptoSmall : (H : Type) → List (DataW H) → Bool := fun _ ds => decide (uptoBulkAll ds ≤ 1048576)
def OpenSpec.upto (s : _root_.Go.ChangeSpec) : _root_.Go.OpenSpec := { _root_.Go.OpenSpec.ofChange s with cond := some uptoSmall }

/-- 'laws.FnDrillsTurn', WHERE WHAT IT READS IS OF BULK AT MOST 1048576: true; the input reads as it did. -/
def fnDrillsTurnUptoRow : OpenClaim := { program := "ytjbomclildkjaaadoor", sum := "8ff29ce3cbddd6e3d88d3ec2740d4930feaef096461e9a75fa9699518dbf9d60", func := "loop.example/g01332/laws.FnDrillsTurn", spec := "fnDrillsTurn", unfollowed := true, recurses := true, named := ["loop.example/g01332/impl.signOfTurn", "loop.example/g01332/impl.turnsChosen"], apart := false, laid := [("loop.example/g01332/impl.signOfTurn", laid_loop_example_g01332_impl_signOfTurn), ("loop.example/g01332/impl.turnsChosen", laid_loop_example_g01332_impl_turnsChosen)], narrowed := true }
def FnDrillsTurnUptoSaid : Prop := fnDrillsTurnUptoRow.holds Tryd.pinned (OpenSpec.upto fnDrillsTurnSpec)

/-- 'laws.FnDrillsTurnOfAll', WHERE WHAT IT READS IS OF BULK AT MOST 1048576: true; the input reads as it did. -/
def fnDrillsTurnOfAllUptoRow : OpenClaim := { program := "ytjbomclildkjaaadoor", sum := "8ff29ce3cbddd6e3d88d3ec2740d4930feaef096461e9a75fa9699518dbf9d60", func := "loop.example/g01332/laws.FnDrillsTurnOfAll", spec := "fnDrillsTurnOfAll", unfollowed := true, recurses := true, named := ["loop.example/g01332/impl.signOfTurn", "loop.example/g01332/impl.turnsChosen"], apart := false, laid := [("loop.example/g01332/impl.signOfTurn", laid_loop_example_g01332_impl_signOfTurn), ("loop.example/g01332/impl.turnsChosen", laid_loop_example_g01332_impl_turnsChosen)], narrowed := true }
def FnDrillsTurnOfAllUptoSaid : Prop := fnDrillsTurnOfAllUptoRow.holds Tryd.pinned (OpenSpec.upto fnDrillsTurnOfAllSpec)

/-- 'laws.FnDrillsMistaken', WHERE WHAT IT READS IS OF BULK AT MOST 1048576: true; the input reads as it did. -/
def fnDrillsMistakenUptoRow : OpenClaim := { program := "ytjbomclildkjaaadoor", sum := "8ff29ce3cbddd6e3d88d3ec2740d4930feaef096461e9a75fa9699518dbf9d60", func := "loop.example/g01332/laws.FnDrillsMistaken", spec := "fnDrillsMistaken", unfollowed := true, recurses := true, named := ["loop.example/g01332/impl.signOfTurn"], apart := false, laid := [("loop.example/g01332/impl.signOfTurn", laid_loop_example_g01332_impl_signOfTurn)], narrowed := true }
def FnDrillsMistakenUptoSaid : Prop := fnDrillsMistakenUptoRow.holds Tryd.pinned (OpenSpec.upto fnDrillsMistakenSpec)

/-- 'laws.FnDrillsMistakenOfAll', WHERE WHAT IT READS IS OF BULK AT MOST 1048576: true; the input reads as it did. -/
def fnDrillsMistakenOfAllUptoRow : OpenClaim := { program := "ytjbomclildkjaaadoor", sum := "8ff29ce3cbddd6e3d88d3ec2740d4930feaef096461e9a75fa9699518dbf9d60", func := "loop.example/g01332/laws.FnDrillsMistakenOfAll", spec := "fnDrillsMistakenOfAll", unfollowed := true, recurses := true, named := ["loop.example/g01332/impl.signOfTurn"], apart := false, laid := [("loop.example/g01332/impl.signOfTurn", laid_loop_example_g01332_impl_signOfTurn)], narrowed := true }
def FnDrillsMistakenOfAllUptoSaid : Prop := fnDrillsMistakenOfAllUptoRow.holds Tryd.pinned (OpenSpec.upto fnDrillsMistakenOfAllSpec)

end Rows
end Go.Proofs.YtjbomclildkjaaaDoor
