/-
  No cell of these rows narrows 'for every input' (looked for: loops, veiled, ifaces, maps, wideKeys, modest, calm, conditions, laid).
  DERIVED. THE GIVEN ROWS OF THIS SEAT. 10 by the template 'for every input the law returns true; each argument reads behind the call as it read before'; 0 by the template 'total and deterministic' (their statements: YtbodomfdgjemhaaTotals.lean).
  GIVEN WITH THE SEED: the statements are not yours to turn. If you find one false, say at which input.
  Laid BY PROGRAM, IN A SANDBOX (cutbox-rows.mjs): the forced cells as the released guide's own fill.sh prints them over the translation 212fbb08d7c4ad47… (all of the seat's roots in one cut). By AI agents, Wed Nov 11 2026. No macro, syntax, notation, axiom, sorry.
-/
import Derived.Test.YtbodomfdgjemhaaChecked
import GoSem.Claim
import GoSem.ClaimJoined
import GoSem.ClaimMapViews
import Derived.JoinedTies
import Derived.KernelRfl
namespace Go.Proofs.Ytbodomfdgjemhaa
/- THE CELL 'sum', in the pinned program and in every row, IS THE sha256 OF THE DUMP (.gsa) THAT YtbodomfdgjemhaaProg.lean LOADS. Nothing in Lean hashes anything: it is a label: what it is worth is what the hold of that sum in a sandbox is worth. -/
noncomputable def Try.pinned : Pinned := { name := "ytbodomfdgjemhaa", sum := "212fbb08d7c4ad476c10fa3d7302f9d9edaf722a81f09065c47c81044c73392e", checked := Try.checked }
namespace Rows
def none {H : Type} : Left H := { results := [], args := [] }

/-- 'laws.FnExactCountHollow': WHATEVER THE INPUT: true; the input reads as it did. -/
def fnExactCountHollowSpec : ChangeSpec := { name := "fnExactCountHollow", fn := fun _ => fun
  | [d1, d2] => { results := [.lit (.bool true)], args := [d1, d2] }
  | _ => none }
def fnExactCountHollowRow : OpenClaim := { program := "ytbodomfdgjemhaa", sum := "212fbb08d7c4ad476c10fa3d7302f9d9edaf722a81f09065c47c81044c73392e", func := "loop.example/g01332/laws.FnExactCountHollow", spec := "fnExactCountHollow", apart := false }
def FnExactCountHollowSaid : Prop := fnExactCountHollowRow.holds Try.pinned (OpenSpec.ofChange fnExactCountHollowSpec)

/-- ITS FALSE NEIGHBOUR: 'it returns false'. Refute it at one input. -/
def fnExactCountHollowWrong : ChangeSpec := { name := "fnExactCountHollow", fn := fun _ => fun
  | [d1, d2] => { results := [.lit (.bool false)], args := [d1, d2] }
  | _ => none }
def FnExactCountHollowWrongFalsely : Prop := fnExactCountHollowRow.holds Try.pinned (OpenSpec.ofChange fnExactCountHollowWrong)

/-- 'laws.FnExactGreatestHollow': WHATEVER THE INPUT: true; the input reads as it did. -/
def fnExactGreatestHollowSpec : ChangeSpec := { name := "fnExactGreatestHollow", fn := fun _ => fun
  | [d1, d2] => { results := [.lit (.bool true)], args := [d1, d2] }
  | _ => none }
def fnExactGreatestHollowRow : OpenClaim := { program := "ytbodomfdgjemhaa", sum := "212fbb08d7c4ad476c10fa3d7302f9d9edaf722a81f09065c47c81044c73392e", func := "loop.example/g01332/laws.FnExactGreatestHollow", spec := "fnExactGreatestHollow", apart := false }
def FnExactGreatestHollowSaid : Prop := fnExactGreatestHollowRow.holds Try.pinned (OpenSpec.ofChange fnExactGreatestHollowSpec)

/-- ITS FALSE NEIGHBOUR: 'it returns false'. Refute it at one input. -/
def fnExactGreatestHollowWrong : ChangeSpec := { name := "fnExactGreatestHollow", fn := fun _ => fun
  | [d1, d2] => { results := [.lit (.bool false)], args := [d1, d2] }
  | _ => none }
def FnExactGreatestHollowWrongFalsely : Prop := fnExactGreatestHollowRow.holds Try.pinned (OpenSpec.ofChange fnExactGreatestHollowWrong)

/-- 'laws.FnExactSquareOf': WHATEVER THE INPUT: true; the input reads as it did. -/
def fnExactSquareOfSpec : ChangeSpec := { name := "fnExactSquareOf", fn := fun _ => fun
  | [d] => { results := [.lit (.bool true)], args := [d] }
  | _ => none }
def fnExactSquareOfRow : OpenClaim := { program := "ytbodomfdgjemhaa", sum := "212fbb08d7c4ad476c10fa3d7302f9d9edaf722a81f09065c47c81044c73392e", func := "loop.example/g01332/laws.FnExactSquareOf", spec := "fnExactSquareOf", unfollowed := true, recurses := true, apart := false }
def FnExactSquareOfSaid : Prop := fnExactSquareOfRow.holds Try.pinned (OpenSpec.ofChange fnExactSquareOfSpec)

/-- ITS FALSE NEIGHBOUR: 'it returns false'. Refute it at one input. -/
def fnExactSquareOfWrong : ChangeSpec := { name := "fnExactSquareOf", fn := fun _ => fun
  | [d] => { results := [.lit (.bool false)], args := [d] }
  | _ => none }
def FnExactSquareOfWrongFalsely : Prop := fnExactSquareOfRow.holds Try.pinned (OpenSpec.ofChange fnExactSquareOfWrong)

/-- 'laws.FnExactTriangleOf': WHATEVER THE INPUT: true; the input reads as it did. -/
def fnExactTriangleOfSpec : ChangeSpec := { name := "fnExactTriangleOf", fn := fun _ => fun
  | [d] => { results := [.lit (.bool true)], args := [d] }
  | _ => none }
def fnExactTriangleOfRow : OpenClaim := { program := "ytbodomfdgjemhaa", sum := "212fbb08d7c4ad476c10fa3d7302f9d9edaf722a81f09065c47c81044c73392e", func := "loop.example/g01332/laws.FnExactTriangleOf", spec := "fnExactTriangleOf", unfollowed := true, recurses := true, apart := false }
def FnExactTriangleOfSaid : Prop := fnExactTriangleOfRow.holds Try.pinned (OpenSpec.ofChange fnExactTriangleOfSpec)

/-- ITS FALSE NEIGHBOUR: 'it returns false'. Refute it at one input. -/
def fnExactTriangleOfWrong : ChangeSpec := { name := "fnExactTriangleOf", fn := fun _ => fun
  | [d] => { results := [.lit (.bool false)], args := [d] }
  | _ => none }
def FnExactTriangleOfWrongFalsely : Prop := fnExactTriangleOfRow.holds Try.pinned (OpenSpec.ofChange fnExactTriangleOfWrong)

/-- 'laws.FnExactPlaceIn': WHATEVER THE INPUT: true; the input reads as it did. -/
def fnExactPlaceInSpec : ChangeSpec := { name := "fnExactPlaceIn", fn := fun _ => fun
  | [d1, d2] => { results := [.lit (.bool true)], args := [d1, d2] }
  | _ => none }
def fnExactPlaceInRow : OpenClaim := { program := "ytbodomfdgjemhaa", sum := "212fbb08d7c4ad476c10fa3d7302f9d9edaf722a81f09065c47c81044c73392e", func := "loop.example/g01332/laws.FnExactPlaceIn", spec := "fnExactPlaceIn", apart := false }
def FnExactPlaceInSaid : Prop := fnExactPlaceInRow.holds Try.pinned (OpenSpec.ofChange fnExactPlaceInSpec)

/-- ITS FALSE NEIGHBOUR: 'it returns false'. Refute it at one input. -/
def fnExactPlaceInWrong : ChangeSpec := { name := "fnExactPlaceIn", fn := fun _ => fun
  | [d1, d2] => { results := [.lit (.bool false)], args := [d1, d2] }
  | _ => none }
def FnExactPlaceInWrongFalsely : Prop := fnExactPlaceInRow.holds Try.pinned (OpenSpec.ofChange fnExactPlaceInWrong)

/-- 'laws.FnExactSnakePlace': WHATEVER THE INPUT: true; the input reads as it did. -/
def fnExactSnakePlaceSpec : ChangeSpec := { name := "fnExactSnakePlace", fn := fun _ => fun
  | [d1, d2] => { results := [.lit (.bool true)], args := [d1, d2] }
  | _ => none }
def fnExactSnakePlaceRow : OpenClaim := { program := "ytbodomfdgjemhaa", sum := "212fbb08d7c4ad476c10fa3d7302f9d9edaf722a81f09065c47c81044c73392e", func := "loop.example/g01332/laws.FnExactSnakePlace", spec := "fnExactSnakePlace", apart := false }
def FnExactSnakePlaceSaid : Prop := fnExactSnakePlaceRow.holds Try.pinned (OpenSpec.ofChange fnExactSnakePlaceSpec)

/-- ITS FALSE NEIGHBOUR: 'it returns false'. Refute it at one input. -/
def fnExactSnakePlaceWrong : ChangeSpec := { name := "fnExactSnakePlace", fn := fun _ => fun
  | [d1, d2] => { results := [.lit (.bool false)], args := [d1, d2] }
  | _ => none }
def FnExactSnakePlaceWrongFalsely : Prop := fnExactSnakePlaceRow.holds Try.pinned (OpenSpec.ofChange fnExactSnakePlaceWrong)

/-- 'laws.FnExactSoldierAt': WHATEVER THE INPUT: true; the input reads as it did. -/
def fnExactSoldierAtSpec : ChangeSpec := { name := "fnExactSoldierAt", fn := fun _ => fun
  | [d1, d2, d3] => { results := [.lit (.bool true)], args := [d1, d2, d3] }
  | _ => none }
def fnExactSoldierAtRow : OpenClaim := { program := "ytbodomfdgjemhaa", sum := "212fbb08d7c4ad476c10fa3d7302f9d9edaf722a81f09065c47c81044c73392e", func := "loop.example/g01332/laws.FnExactSoldierAt", spec := "fnExactSoldierAt", apart := false }
def FnExactSoldierAtSaid : Prop := fnExactSoldierAtRow.holds Try.pinned (OpenSpec.ofChange fnExactSoldierAtSpec)

/-- ITS FALSE NEIGHBOUR: 'it returns false'. Refute it at one input. -/
def fnExactSoldierAtWrong : ChangeSpec := { name := "fnExactSoldierAt", fn := fun _ => fun
  | [d1, d2, d3] => { results := [.lit (.bool false)], args := [d1, d2, d3] }
  | _ => none }
def FnExactSoldierAtWrongFalsely : Prop := fnExactSoldierAtRow.holds Try.pinned (OpenSpec.ofChange fnExactSoldierAtWrong)

/-- 'laws.FnExactSoldierOfSnake': WHATEVER THE INPUT: true; the input reads as it did. -/
def fnExactSoldierOfSnakeSpec : ChangeSpec := { name := "fnExactSoldierOfSnake", fn := fun _ => fun
  | [d1, d2, d3] => { results := [.lit (.bool true)], args := [d1, d2, d3] }
  | _ => none }
def fnExactSoldierOfSnakeRow : OpenClaim := { program := "ytbodomfdgjemhaa", sum := "212fbb08d7c4ad476c10fa3d7302f9d9edaf722a81f09065c47c81044c73392e", func := "loop.example/g01332/laws.FnExactSoldierOfSnake", spec := "fnExactSoldierOfSnake", apart := false }
def FnExactSoldierOfSnakeSaid : Prop := fnExactSoldierOfSnakeRow.holds Try.pinned (OpenSpec.ofChange fnExactSoldierOfSnakeSpec)

/-- ITS FALSE NEIGHBOUR: 'it returns false'. Refute it at one input. -/
def fnExactSoldierOfSnakeWrong : ChangeSpec := { name := "fnExactSoldierOfSnake", fn := fun _ => fun
  | [d1, d2, d3] => { results := [.lit (.bool false)], args := [d1, d2, d3] }
  | _ => none }
def FnExactSoldierOfSnakeWrongFalsely : Prop := fnExactSoldierOfSnakeRow.holds Try.pinned (OpenSpec.ofChange fnExactSoldierOfSnakeWrong)

/-- 'laws.FnExactTurnFormation': WHATEVER THE INPUT: true; the input reads as it did. -/
def fnExactTurnFormationSpec : ChangeSpec := { name := "fnExactTurnFormation", fn := fun _ => fun
  | [d1, d2] => { results := [.lit (.bool true)], args := [d1, d2] }
  | _ => none }
def fnExactTurnFormationRow : OpenClaim := { program := "ytbodomfdgjemhaa", sum := "212fbb08d7c4ad476c10fa3d7302f9d9edaf722a81f09065c47c81044c73392e", func := "loop.example/g01332/laws.FnExactTurnFormation", spec := "fnExactTurnFormation", apart := false }
def FnExactTurnFormationSaid : Prop := fnExactTurnFormationRow.holds Try.pinned (OpenSpec.ofChange fnExactTurnFormationSpec)

/-- ITS FALSE NEIGHBOUR: 'it returns false'. Refute it at one input. -/
def fnExactTurnFormationWrong : ChangeSpec := { name := "fnExactTurnFormation", fn := fun _ => fun
  | [d1, d2] => { results := [.lit (.bool false)], args := [d1, d2] }
  | _ => none }
def FnExactTurnFormationWrongFalsely : Prop := fnExactTurnFormationRow.holds Try.pinned (OpenSpec.ofChange fnExactTurnFormationWrong)

/-- 'laws.FnExactTimesTurned': WHATEVER THE INPUT: true; the input reads as it did. -/
def fnExactTimesTurnedSpec : ChangeSpec := { name := "fnExactTimesTurned", fn := fun _ => fun
  | [d1, d2] => { results := [.lit (.bool true)], args := [d1, d2] }
  | _ => none }
def fnExactTimesTurnedRow : OpenClaim := { program := "ytbodomfdgjemhaa", sum := "212fbb08d7c4ad476c10fa3d7302f9d9edaf722a81f09065c47c81044c73392e", func := "loop.example/g01332/laws.FnExactTimesTurned", spec := "fnExactTimesTurned", apart := false }
def FnExactTimesTurnedSaid : Prop := fnExactTimesTurnedRow.holds Try.pinned (OpenSpec.ofChange fnExactTimesTurnedSpec)

/-- ITS FALSE NEIGHBOUR: 'it returns false'. Refute it at one input. -/
def fnExactTimesTurnedWrong : ChangeSpec := { name := "fnExactTimesTurned", fn := fun _ => fun
  | [d1, d2] => { results := [.lit (.bool false)], args := [d1, d2] }
  | _ => none }
def FnExactTimesTurnedWrongFalsely : Prop := fnExactTimesTurnedRow.holds Try.pinned (OpenSpec.ofChange fnExactTimesTurnedWrong)

/- THE SECOND FORM. 'bulk': how many values and letters a reading holds, each counted each time it is reached (what is shared counts as often as it is met; a slice's spare places count too). A statement '..UptoSaid' is the law's where the arguments, and the package variables that the reading takes, are together of bulk at most 1048576: NARROWER than '..Said'. Prove '..Said' where nothing that the law and all that it calls make is longer than what came in: it says more and counts as full. Else prove '..UptoSaid'. A law counts once. -/
mutual
def uptoBulk {H : Type} : DataW H → Nat
  | .lit (.string bytes) => bytes.length + 1
  | .lit _ => 1
  | .nil => 1
  | .ptr d => uptoBulk d + 1
  | .slice elems spare => uptoBulkAll elems + uptoBulkAll spare + 1
  | .agg parts => uptoBulkAll parts + 1
  | .iface _ d => uptoBulk d + 1
  | .map entries => uptoBulkEntries entries + 1
  | .held _ => 1
def uptoBulkAll {H : Type} : List (DataW H) → Nat
  | [] => 0
  | d :: r => uptoBulk d + uptoBulkAll r
def uptoBulkEntries {H : Type} : List (Lit × DataW H) → Nat
  | [] => 0
  | x :: r => uptoBulkEntry x + uptoBulkEntries r
def uptoBulkEntry {H : Type} : Lit × DataW H → Nat
  | (.string bytes, d) => bytes.length + uptoBulk d + 1
  | (_, d) => uptoBulk d + 1
 end
def uptoSmall : (H : Type) → List (DataW H) → Bool := fun _ ds => decide (uptoBulkAll ds ≤ 1048576)
def OpenSpec.upto (s : _root_.Go.ChangeSpec) : _root_.Go.OpenSpec := { _root_.Go.OpenSpec.ofChange s with cond := some uptoSmall }

/-- 'laws.FnExactCountHollow', WHERE WHAT IT READS IS OF BULK AT MOST 1048576: true; the input reads as it did. -/
def fnExactCountHollowUptoRow : OpenClaim := { program := "ytbodomfdgjemhaa", sum := "212fbb08d7c4ad476c10fa3d7302f9d9edaf722a81f09065c47c81044c73392e", func := "loop.example/g01332/laws.FnExactCountHollow", spec := "fnExactCountHollow", apart := false, narrowed := true }
def FnExactCountHollowUptoSaid : Prop := fnExactCountHollowUptoRow.holds Try.pinned (OpenSpec.upto fnExactCountHollowSpec)

/-- 'laws.FnExactGreatestHollow', WHERE WHAT IT READS IS OF BULK AT MOST 1048576: true; the input reads as it did. -/
def fnExactGreatestHollowUptoRow : OpenClaim := { program := "ytbodomfdgjemhaa", sum := "212fbb08d7c4ad476c10fa3d7302f9d9edaf722a81f09065c47c81044c73392e", func := "loop.example/g01332/laws.FnExactGreatestHollow", spec := "fnExactGreatestHollow", apart := false, narrowed := true }
def FnExactGreatestHollowUptoSaid : Prop := fnExactGreatestHollowUptoRow.holds Try.pinned (OpenSpec.upto fnExactGreatestHollowSpec)

/-- 'laws.FnExactSquareOf', WHERE WHAT IT READS IS OF BULK AT MOST 1048576: true; the input reads as it did. -/
def fnExactSquareOfUptoRow : OpenClaim := { program := "ytbodomfdgjemhaa", sum := "212fbb08d7c4ad476c10fa3d7302f9d9edaf722a81f09065c47c81044c73392e", func := "loop.example/g01332/laws.FnExactSquareOf", spec := "fnExactSquareOf", unfollowed := true, recurses := true, apart := false, narrowed := true }
def FnExactSquareOfUptoSaid : Prop := fnExactSquareOfUptoRow.holds Try.pinned (OpenSpec.upto fnExactSquareOfSpec)

/-- 'laws.FnExactTriangleOf', WHERE WHAT IT READS IS OF BULK AT MOST 1048576: true; the input reads as it did. -/
def fnExactTriangleOfUptoRow : OpenClaim := { program := "ytbodomfdgjemhaa", sum := "212fbb08d7c4ad476c10fa3d7302f9d9edaf722a81f09065c47c81044c73392e", func := "loop.example/g01332/laws.FnExactTriangleOf", spec := "fnExactTriangleOf", unfollowed := true, recurses := true, apart := false, narrowed := true }
def FnExactTriangleOfUptoSaid : Prop := fnExactTriangleOfUptoRow.holds Try.pinned (OpenSpec.upto fnExactTriangleOfSpec)

/-- 'laws.FnExactPlaceIn', WHERE WHAT IT READS IS OF BULK AT MOST 1048576: true; the input reads as it did. -/
def fnExactPlaceInUptoRow : OpenClaim := { program := "ytbodomfdgjemhaa", sum := "212fbb08d7c4ad476c10fa3d7302f9d9edaf722a81f09065c47c81044c73392e", func := "loop.example/g01332/laws.FnExactPlaceIn", spec := "fnExactPlaceIn", apart := false, narrowed := true }
def FnExactPlaceInUptoSaid : Prop := fnExactPlaceInUptoRow.holds Try.pinned (OpenSpec.upto fnExactPlaceInSpec)

/-- 'laws.FnExactSnakePlace', WHERE WHAT IT READS IS OF BULK AT MOST 1048576: true; the input reads as it did. -/
def fnExactSnakePlaceUptoRow : OpenClaim := { program := "ytbodomfdgjemhaa", sum := "212fbb08d7c4ad476c10fa3d7302f9d9edaf722a81f09065c47c81044c73392e", func := "loop.example/g01332/laws.FnExactSnakePlace", spec := "fnExactSnakePlace", apart := false, narrowed := true }
def FnExactSnakePlaceUptoSaid : Prop := fnExactSnakePlaceUptoRow.holds Try.pinned (OpenSpec.upto fnExactSnakePlaceSpec)

/-- 'laws.FnExactSoldierAt', WHERE WHAT IT READS IS OF BULK AT MOST 1048576: true; the input reads as it did. -/
def fnExactSoldierAtUptoRow : OpenClaim := { program := "ytbodomfdgjemhaa", sum := "212fbb08d7c4ad476c10fa3d7302f9d9edaf722a81f09065c47c81044c73392e", func := "loop.example/g01332/laws.FnExactSoldierAt", spec := "fnExactSoldierAt", apart := false, narrowed := true }
def FnExactSoldierAtUptoSaid : Prop := fnExactSoldierAtUptoRow.holds Try.pinned (OpenSpec.upto fnExactSoldierAtSpec)

/-- 'laws.FnExactSoldierOfSnake', WHERE WHAT IT READS IS OF BULK AT MOST 1048576: true; the input reads as it did. -/
def fnExactSoldierOfSnakeUptoRow : OpenClaim := { program := "ytbodomfdgjemhaa", sum := "212fbb08d7c4ad476c10fa3d7302f9d9edaf722a81f09065c47c81044c73392e", func := "loop.example/g01332/laws.FnExactSoldierOfSnake", spec := "fnExactSoldierOfSnake", apart := false, narrowed := true }
def FnExactSoldierOfSnakeUptoSaid : Prop := fnExactSoldierOfSnakeUptoRow.holds Try.pinned (OpenSpec.upto fnExactSoldierOfSnakeSpec)

/-- 'laws.FnExactTurnFormation', WHERE WHAT IT READS IS OF BULK AT MOST 1048576: true; the input reads as it did. -/
def fnExactTurnFormationUptoRow : OpenClaim := { program := "ytbodomfdgjemhaa", sum := "212fbb08d7c4ad476c10fa3d7302f9d9edaf722a81f09065c47c81044c73392e", func := "loop.example/g01332/laws.FnExactTurnFormation", spec := "fnExactTurnFormation", apart := false, narrowed := true }
def FnExactTurnFormationUptoSaid : Prop := fnExactTurnFormationUptoRow.holds Try.pinned (OpenSpec.upto fnExactTurnFormationSpec)

/-- 'laws.FnExactTimesTurned', WHERE WHAT IT READS IS OF BULK AT MOST 1048576: true; the input reads as it did. -/
def fnExactTimesTurnedUptoRow : OpenClaim := { program := "ytbodomfdgjemhaa", sum := "212fbb08d7c4ad476c10fa3d7302f9d9edaf722a81f09065c47c81044c73392e", func := "loop.example/g01332/laws.FnExactTimesTurned", spec := "fnExactTimesTurned", apart := false, narrowed := true }
def FnExactTimesTurnedUptoSaid : Prop := fnExactTimesTurnedUptoRow.holds Try.pinned (OpenSpec.upto fnExactTimesTurnedSpec)

end Rows
end Go.Proofs.Ytbodomfdgjemhaa
