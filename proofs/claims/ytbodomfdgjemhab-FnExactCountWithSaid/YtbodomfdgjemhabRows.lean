/-
  No cell of these rows narrows 'for every input' (looked for: loops, veiled, ifaces, maps, wideKeys, modest, calm, conditions, laid).
  DERIVED. THE GIVEN ROWS OF THIS SEAT. 9 by the template 'for every input the law returns true; each argument reads behind the call as it read before'; 0 by the template 'total and deterministic' (their statements: YtbodomfdgjemhabTotals.lean).
  GIVEN WITH THE SEED: the statements are not yours to turn. If you find one false, say at which input.
  Laid BY PROGRAM, IN A SANDBOX (cutbox-rows.mjs): the forced cells as the released guide's own fill.sh prints them over the translation 9d7a34f4640247c7… (all of the seat's roots in one cut). By AI agents, Wed Nov 11 2026. No macro, syntax, notation, axiom, sorry.
-/
import Derived.Test.YtbodomfdgjemhabChecked
import GoSem.Claim
import GoSem.ClaimJoined
import GoSem.ClaimMapViews
import Derived.JoinedTies
import Derived.KernelRfl
namespace Go.Proofs.Ytbodomfdgjemhab
/- THE CELL 'sum', in the pinned program and in every row, IS THE sha256 OF THE DUMP (.gsa) THAT YtbodomfdgjemhabProg.lean LOADS. Nothing in Lean hashes anything: it is a label: what it is worth is what the hold of that sum in a sandbox is worth. -/
noncomputable def Try.pinned : Pinned := { name := "ytbodomfdgjemhab", sum := "9d7a34f4640247c7fd261bf8f74818dd205242849a33e8094c04c4c7171633fd", checked := Try.checked }
namespace Rows
def none {H : Type} : Left H := { results := [], args := [] }

/-- 'laws.FnExactRectanglesOf': WHATEVER THE INPUT: true; the input reads as it did. -/
def fnExactRectanglesOfSpec : ChangeSpec := { name := "fnExactRectanglesOf", fn := fun _ => fun
  | [d] => { results := [.lit (.bool true)], args := [d] }
  | _ => none }
def fnExactRectanglesOfRow : OpenClaim := { program := "ytbodomfdgjemhab", sum := "9d7a34f4640247c7fd261bf8f74818dd205242849a33e8094c04c4c7171633fd", func := "loop.example/g01332/laws.FnExactRectanglesOf", spec := "fnExactRectanglesOf", apart := false }
def FnExactRectanglesOfSaid : Prop := fnExactRectanglesOfRow.holds Try.pinned (OpenSpec.ofChange fnExactRectanglesOfSpec)

/-- ITS FALSE NEIGHBOUR: 'it returns false'. Refute it at one input. -/
def fnExactRectanglesOfWrong : ChangeSpec := { name := "fnExactRectanglesOf", fn := fun _ => fun
  | [d] => { results := [.lit (.bool false)], args := [d] }
  | _ => none }
def FnExactRectanglesOfWrongFalsely : Prop := fnExactRectanglesOfRow.holds Try.pinned (OpenSpec.ofChange fnExactRectanglesOfWrong)

/-- 'laws.FnExactHollowsOf': WHATEVER THE INPUT: true; the input reads as it did. -/
def fnExactHollowsOfSpec : ChangeSpec := { name := "fnExactHollowsOf", fn := fun _ => fun
  | [d] => { results := [.lit (.bool true)], args := [d] }
  | _ => none }
def fnExactHollowsOfRow : OpenClaim := { program := "ytbodomfdgjemhab", sum := "9d7a34f4640247c7fd261bf8f74818dd205242849a33e8094c04c4c7171633fd", func := "loop.example/g01332/laws.FnExactHollowsOf", spec := "fnExactHollowsOf", apart := false }
def FnExactHollowsOfSaid : Prop := fnExactHollowsOfRow.holds Try.pinned (OpenSpec.ofChange fnExactHollowsOfSpec)

/-- ITS FALSE NEIGHBOUR: 'it returns false'. Refute it at one input. -/
def fnExactHollowsOfWrong : ChangeSpec := { name := "fnExactHollowsOf", fn := fun _ => fun
  | [d] => { results := [.lit (.bool false)], args := [d] }
  | _ => none }
def FnExactHollowsOfWrongFalsely : Prop := fnExactHollowsOfRow.holds Try.pinned (OpenSpec.ofChange fnExactHollowsOfWrong)

/-- 'laws.FnExactTwoSquares': WHATEVER THE INPUT: true; the input reads as it did. -/
def fnExactTwoSquaresSpec : ChangeSpec := { name := "fnExactTwoSquares", fn := fun _ => fun
  | [d] => { results := [.lit (.bool true)], args := [d] }
  | _ => none }
def fnExactTwoSquaresRow : OpenClaim := { program := "ytbodomfdgjemhab", sum := "9d7a34f4640247c7fd261bf8f74818dd205242849a33e8094c04c4c7171633fd", func := "loop.example/g01332/laws.FnExactTwoSquares", spec := "fnExactTwoSquares", unfollowed := true, recurses := true, apart := false }
def FnExactTwoSquaresSaid : Prop := fnExactTwoSquaresRow.holds Try.pinned (OpenSpec.ofChange fnExactTwoSquaresSpec)

/-- ITS FALSE NEIGHBOUR: 'it returns false'. Refute it at one input. -/
def fnExactTwoSquaresWrong : ChangeSpec := { name := "fnExactTwoSquares", fn := fun _ => fun
  | [d] => { results := [.lit (.bool false)], args := [d] }
  | _ => none }
def FnExactTwoSquaresWrongFalsely : Prop := fnExactTwoSquaresRow.holds Try.pinned (OpenSpec.ofChange fnExactTwoSquaresWrong)

/-- 'laws.FnExactSquareTriangles': WHATEVER THE INPUT: true; the input reads as it did. -/
def fnExactSquareTrianglesSpec : ChangeSpec := { name := "fnExactSquareTriangles", fn := fun _ => fun
  | [d] => { results := [.lit (.bool true)], args := [d] }
  | _ => none }
def fnExactSquareTrianglesRow : OpenClaim := { program := "ytbodomfdgjemhab", sum := "9d7a34f4640247c7fd261bf8f74818dd205242849a33e8094c04c4c7171633fd", func := "loop.example/g01332/laws.FnExactSquareTriangles", spec := "fnExactSquareTriangles", unfollowed := true, recurses := true, apart := false }
def FnExactSquareTrianglesSaid : Prop := fnExactSquareTrianglesRow.holds Try.pinned (OpenSpec.ofChange fnExactSquareTrianglesSpec)

/-- ITS FALSE NEIGHBOUR: 'it returns false'. Refute it at one input. -/
def fnExactSquareTrianglesWrong : ChangeSpec := { name := "fnExactSquareTriangles", fn := fun _ => fun
  | [d] => { results := [.lit (.bool false)], args := [d] }
  | _ => none }
def FnExactSquareTrianglesWrongFalsely : Prop := fnExactSquareTrianglesRow.holds Try.pinned (OpenSpec.ofChange fnExactSquareTrianglesWrong)

/-- 'laws.FnExactRemaindersOf': WHATEVER THE INPUT: true; the input reads as it did. -/
def fnExactRemaindersOfSpec : ChangeSpec := { name := "fnExactRemaindersOf", fn := fun _ => fun
  | [d1, d2] => { results := [.lit (.bool true)], args := [d1, d2] }
  | _ => none }
def fnExactRemaindersOfRow : OpenClaim := { program := "ytbodomfdgjemhab", sum := "9d7a34f4640247c7fd261bf8f74818dd205242849a33e8094c04c4c7171633fd", func := "loop.example/g01332/laws.FnExactRemaindersOf", spec := "fnExactRemaindersOf", unfollowed := true, recurses := true, apart := false }
def FnExactRemaindersOfSaid : Prop := fnExactRemaindersOfRow.holds Try.pinned (OpenSpec.ofChange fnExactRemaindersOfSpec)

/-- ITS FALSE NEIGHBOUR: 'it returns false'. Refute it at one input. -/
def fnExactRemaindersOfWrong : ChangeSpec := { name := "fnExactRemaindersOf", fn := fun _ => fun
  | [d1, d2] => { results := [.lit (.bool false)], args := [d1, d2] }
  | _ => none }
def FnExactRemaindersOfWrongFalsely : Prop := fnExactRemaindersOfRow.holds Try.pinned (OpenSpec.ofChange fnExactRemaindersOfWrong)

/-- 'laws.FnExactStepOf': WHATEVER THE INPUT: true; the input reads as it did. -/
def fnExactStepOfSpec : ChangeSpec := { name := "fnExactStepOf", fn := fun _ => fun
  | [d] => { results := [.lit (.bool true)], args := [d] }
  | _ => none }
def fnExactStepOfRow : OpenClaim := { program := "ytbodomfdgjemhab", sum := "9d7a34f4640247c7fd261bf8f74818dd205242849a33e8094c04c4c7171633fd", func := "loop.example/g01332/laws.FnExactStepOf", spec := "fnExactStepOf", apart := false }
def FnExactStepOfSaid : Prop := fnExactStepOfRow.holds Try.pinned (OpenSpec.ofChange fnExactStepOfSpec)

/-- ITS FALSE NEIGHBOUR: 'it returns false'. Refute it at one input. -/
def fnExactStepOfWrong : ChangeSpec := { name := "fnExactStepOf", fn := fun _ => fun
  | [d] => { results := [.lit (.bool false)], args := [d] }
  | _ => none }
def FnExactStepOfWrongFalsely : Prop := fnExactStepOfRow.holds Try.pinned (OpenSpec.ofChange fnExactStepOfWrong)

/-- 'laws.FnExactLeastWith': WHATEVER THE INPUT: true; the input reads as it did. -/
def fnExactLeastWithSpec : ChangeSpec := { name := "fnExactLeastWith", fn := fun _ => fun
  | [d1, d2] => { results := [.lit (.bool true)], args := [d1, d2] }
  | _ => none }
def fnExactLeastWithRow : OpenClaim := { program := "ytbodomfdgjemhab", sum := "9d7a34f4640247c7fd261bf8f74818dd205242849a33e8094c04c4c7171633fd", func := "loop.example/g01332/laws.FnExactLeastWith", spec := "fnExactLeastWith", unfollowed := true, recurses := true, apart := false }
def FnExactLeastWithSaid : Prop := fnExactLeastWithRow.holds Try.pinned (OpenSpec.ofChange fnExactLeastWithSpec)

/-- ITS FALSE NEIGHBOUR: 'it returns false'. Refute it at one input. -/
def fnExactLeastWithWrong : ChangeSpec := { name := "fnExactLeastWith", fn := fun _ => fun
  | [d1, d2] => { results := [.lit (.bool false)], args := [d1, d2] }
  | _ => none }
def FnExactLeastWithWrongFalsely : Prop := fnExactLeastWithRow.holds Try.pinned (OpenSpec.ofChange fnExactLeastWithWrong)

/-- 'laws.FnExactCountWith': WHATEVER THE INPUT: true; the input reads as it did. -/
def fnExactCountWithSpec : ChangeSpec := { name := "fnExactCountWith", fn := fun _ => fun
  | [d1, d2, d3] => { results := [.lit (.bool true)], args := [d1, d2, d3] }
  | _ => none }
def fnExactCountWithRow : OpenClaim := { program := "ytbodomfdgjemhab", sum := "9d7a34f4640247c7fd261bf8f74818dd205242849a33e8094c04c4c7171633fd", func := "loop.example/g01332/laws.FnExactCountWith", spec := "fnExactCountWith", unfollowed := true, recurses := true, apart := false }
def FnExactCountWithSaid : Prop := fnExactCountWithRow.holds Try.pinned (OpenSpec.ofChange fnExactCountWithSpec)

/-- ITS FALSE NEIGHBOUR: 'it returns false'. Refute it at one input. -/
def fnExactCountWithWrong : ChangeSpec := { name := "fnExactCountWith", fn := fun _ => fun
  | [d1, d2, d3] => { results := [.lit (.bool false)], args := [d1, d2, d3] }
  | _ => none }
def FnExactCountWithWrongFalsely : Prop := fnExactCountWithRow.holds Try.pinned (OpenSpec.ofChange fnExactCountWithWrong)

/-- 'laws.FnExactCanBeLeft': WHATEVER THE INPUT: true; the input reads as it did. -/
def fnExactCanBeLeftSpec : ChangeSpec := { name := "fnExactCanBeLeft", fn := fun _ => fun
  | [d1, d2] => { results := [.lit (.bool true)], args := [d1, d2] }
  | _ => none }
def fnExactCanBeLeftRow : OpenClaim := { program := "ytbodomfdgjemhab", sum := "9d7a34f4640247c7fd261bf8f74818dd205242849a33e8094c04c4c7171633fd", func := "loop.example/g01332/laws.FnExactCanBeLeft", spec := "fnExactCanBeLeft", unfollowed := true, recurses := true, apart := false }
def FnExactCanBeLeftSaid : Prop := fnExactCanBeLeftRow.holds Try.pinned (OpenSpec.ofChange fnExactCanBeLeftSpec)

/-- ITS FALSE NEIGHBOUR: 'it returns false'. Refute it at one input. -/
def fnExactCanBeLeftWrong : ChangeSpec := { name := "fnExactCanBeLeft", fn := fun _ => fun
  | [d1, d2] => { results := [.lit (.bool false)], args := [d1, d2] }
  | _ => none }
def FnExactCanBeLeftWrongFalsely : Prop := fnExactCanBeLeftRow.holds Try.pinned (OpenSpec.ofChange fnExactCanBeLeftWrong)

/- THE SECOND FORM. 'bulk': how many values and letters a reading holds, each counted each time it is reached (what is shared counts as often as it is met; a slice's spare places count too). A statement '..UptoSaid' is the law's where the arguments, and the package variables that the reading takes, are together of bulk at most 1048576: NARROWER than '..Said'. Prove '..Said' where nothing that the law and all that it calls make is longer than what came in: it says more and counts as full. Else prove '..UptoSaid'. A law counts once. -/
mutual
def uptoBulk {H : Type} : DataW H → Nat
  | .lit (.string bytes) => bytes.length + 1
  | .lit _ => 1
  | .nil => 1
  | .ptr d => uptoBulk d + 1
  | .slice elems spare => uptoBulkAll elems + uptoBulkAll spare + 1
  | .agg parts => uptoBulkAll parts + 1
  | .iface _ d => uptoBulk d + 1
  | .map entries => uptoBulkEntries entries + 1
  | .held _ => 1
def uptoBulkAll {H : Type} : List (DataW H) → Nat
  | [] => 0
  | d :: r => uptoBulk d + uptoBulkAll r
def uptoBulkEntries {H : Type} : List (Lit × DataW H) → Nat
  | [] => 0
  | x :: r => uptoBulkEntry x + uptoBulkEntries r
def uptoBulkEntry {H : Type} : Lit × DataW H → Nat
  | (.string bytes, d) => bytes.length + uptoBulk d + 1
  | (_, d) => uptoBulk d + 1
 end
def uptoSmall : (H : Type) → List (DataW H) → Bool := fun _ ds => decide (uptoBulkAll ds ≤ 1048576)
def OpenSpec.upto (s : _root_.Go.ChangeSpec) : _root_.Go.OpenSpec := { _root_.Go.OpenSpec.ofChange s with cond := some uptoSmall }

/-- 'laws.FnExactRectanglesOf', WHERE WHAT IT READS IS OF BULK AT MOST 1048576: true; the input reads as it did. -/
def fnExactRectanglesOfUptoRow : OpenClaim := { program := "ytbodomfdgjemhab", sum := "9d7a34f4640247c7fd261bf8f74818dd205242849a33e8094c04c4c7171633fd", func := "loop.example/g01332/laws.FnExactRectanglesOf", spec := "fnExactRectanglesOf", apart := false, narrowed := true }
def FnExactRectanglesOfUptoSaid : Prop := fnExactRectanglesOfUptoRow.holds Try.pinned (OpenSpec.upto fnExactRectanglesOfSpec)

/-- 'laws.FnExactHollowsOf', WHERE WHAT IT READS IS OF BULK AT MOST 1048576: true; the input reads as it did. -/
def fnExactHollowsOfUptoRow : OpenClaim := { program := "ytbodomfdgjemhab", sum := "9d7a34f4640247c7fd261bf8f74818dd205242849a33e8094c04c4c7171633fd", func := "loop.example/g01332/laws.FnExactHollowsOf", spec := "fnExactHollowsOf", apart := false, narrowed := true }
def FnExactHollowsOfUptoSaid : Prop := fnExactHollowsOfUptoRow.holds Try.pinned (OpenSpec.upto fnExactHollowsOfSpec)

/-- 'laws.FnExactTwoSquares', WHERE WHAT IT READS IS OF BULK AT MOST 1048576: true; the input reads as it did. -/
def fnExactTwoSquaresUptoRow : OpenClaim := { program := "ytbodomfdgjemhab", sum := "9d7a34f4640247c7fd261bf8f74818dd205242849a33e8094c04c4c7171633fd", func := "loop.example/g01332/laws.FnExactTwoSquares", spec := "fnExactTwoSquares", unfollowed := true, recurses := true, apart := false, narrowed := true }
def FnExactTwoSquaresUptoSaid : Prop := fnExactTwoSquaresUptoRow.holds Try.pinned (OpenSpec.upto fnExactTwoSquaresSpec)

/-- 'laws.FnExactSquareTriangles', WHERE WHAT IT READS IS OF BULK AT MOST 1048576: true; the input reads as it did. -/
def fnExactSquareTrianglesUptoRow : OpenClaim := { program := "ytbodomfdgjemhab", sum := "9d7a34f4640247c7fd261bf8f74818dd205242849a33e8094c04c4c7171633fd", func := "loop.example/g01332/laws.FnExactSquareTriangles", spec := "fnExactSquareTriangles", unfollowed := true, recurses := true, apart := false, narrowed := true }
def FnExactSquareTrianglesUptoSaid : Prop := fnExactSquareTrianglesUptoRow.holds Try.pinned (OpenSpec.upto fnExactSquareTrianglesSpec)

/-- 'laws.FnExactRemaindersOf', WHERE WHAT IT READS IS OF BULK AT MOST 1048576: true; the input reads as it did. -/
def fnExactRemaindersOfUptoRow : OpenClaim := { program := "ytbodomfdgjemhab", sum := "9d7a34f4640247c7fd261bf8f74818dd205242849a33e8094c04c4c7171633fd", func := "loop.example/g01332/laws.FnExactRemaindersOf", spec := "fnExactRemaindersOf", unfollowed := true, recurses := true, apart := false, narrowed := true }
def FnExactRemaindersOfUptoSaid : Prop := fnExactRemaindersOfUptoRow.holds Try.pinned (OpenSpec.upto fnExactRemaindersOfSpec)

/-- 'laws.FnExactStepOf', WHERE WHAT IT READS IS OF BULK AT MOST 1048576: true; the input reads as it did. -/
def fnExactStepOfUptoRow : OpenClaim := { program := "ytbodomfdgjemhab", sum := "9d7a34f4640247c7fd261bf8f74818dd205242849a33e8094c04c4c7171633fd", func := "loop.example/g01332/laws.FnExactStepOf", spec := "fnExactStepOf", apart := false, narrowed := true }
def FnExactStepOfUptoSaid : Prop := fnExactStepOfUptoRow.holds Try.pinned (OpenSpec.upto fnExactStepOfSpec)

/-- 'laws.FnExactLeastWith', WHERE WHAT IT READS IS OF BULK AT MOST 1048576: true; the input reads as it did. -/
def fnExactLeastWithUptoRow : OpenClaim := { program := "ytbodomfdgjemhab", sum := "9d7a34f4640247c7fd261bf8f74818dd205242849a33e8094c04c4c7171633fd", func := "loop.example/g01332/laws.FnExactLeastWith", spec := "fnExactLeastWith", unfollowed := true, recurses := true, apart := false, narrowed := true }
def FnExactLeastWithUptoSaid : Prop := fnExactLeastWithUptoRow.holds Try.pinned (OpenSpec.upto fnExactLeastWithSpec)

/-- 'laws.FnExactCountWith', WHERE WHAT IT READS IS OF BULK AT MOST 1048576: true; the input reads as it did. -/
def fnExactCountWithUptoRow : OpenClaim := { program := "ytbodomfdgjemhab", sum := "9d7a34f4640247c7fd261bf8f74818dd205242849a33e8094c04c4c7171633fd", func := "loop.example/g01332/laws.FnExactCountWith", spec := "fnExactCountWith", unfollowed := true, recurses := true, apart := false, narrowed := true }
def FnExactCountWithUptoSaid : Prop := fnExactCountWithUptoRow.holds Try.pinned (OpenSpec.upto fnExactCountWithSpec)

/-- 'laws.FnExactCanBeLeft', WHERE WHAT IT READS IS OF BULK AT MOST 1048576: true; the input reads as it did. -/
def fnExactCanBeLeftUptoRow : OpenClaim := { program := "ytbodomfdgjemhab", sum := "9d7a34f4640247c7fd261bf8f74818dd205242849a33e8094c04c4c7171633fd", func := "loop.example/g01332/laws.FnExactCanBeLeft", spec := "fnExactCanBeLeft", unfollowed := true, recurses := true, apart := false, narrowed := true }
def FnExactCanBeLeftUptoSaid : Prop := fnExactCanBeLeftUptoRow.holds Try.pinned (OpenSpec.upto fnExactCanBeLeftSpec)

end Rows
end Go.Proofs.Ytbodomfdgjemhab
