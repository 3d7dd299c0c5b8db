/-
  No cell of these rows narrows 'for every input' (looked for: loops, veiled, ifaces, maps, wideKeys, modest, calm, conditions, laid).
  DERIVED. THE GIVEN ROWS OF THIS SEAT. 4 by the template 'for every input the law returns true; each argument reads behind the call as it read before'; 0 by the template 'total and deterministic' (their statements: YtacchefmblfobaaTotals.lean).
  GIVEN WITH THE SEED: the statements are not yours to turn. If you find one false, say at which input.
  Laid BY PROGRAM, IN A SANDBOX (cutbox-rows.mjs): the forced cells as the released guide's own fill.sh prints them over the translation 68f66c6e92aaacce… (all of the seat's roots in one cut). By AI agents, Wed Nov 11 2026. No macro, syntax, notation, axiom, sorry.
-/
import Derived.Test.YtacchefmblfobaaChecked
import GoSem.Claim
import GoSem.ClaimJoined
import GoSem.ClaimMapViews
import Derived.JoinedTies
import Derived.KernelRfl
namespace Go.Proofs.Ytacchefmblfobaa
/- THE CELL 'sum', in the pinned program and in every row, IS THE sha256 OF THE DUMP (.gsa) THAT YtacchefmblfobaaProg.lean LOADS. Nothing in Lean hashes anything: it is a label: what it is worth is what the hold of that sum in a sandbox is worth. -/
noncomputable def Try.pinned : Pinned := { name := "ytacchefmblfobaa", sum := "68f66c6e92aaacce29cdf528513862b5fef85ffbab3ea00770c0fbd622cd00d0", checked := Try.checked }
namespace Rows
def none {H : Type} : Left H := { results := [], args := [] }

/-- 'laws.FnRowsRest': WHATEVER THE INPUT: true; the input reads as it did. -/
def fnRowsRestSpec : ChangeSpec := { name := "fnRowsRest", fn := fun _ => fun
  | [d1, d2] => { results := [.lit (.bool true)], args := [d1, d2] }
  | _ => none }
def fnRowsRestRow : OpenClaim := { program := "ytacchefmblfobaa", sum := "68f66c6e92aaacce29cdf528513862b5fef85ffbab3ea00770c0fbd622cd00d0", func := "loop.example/g01332/laws.FnRowsRest", spec := "fnRowsRest", unfollowed := true, recurses := true, apart := false }
def FnRowsRestSaid : Prop := fnRowsRestRow.holds Try.pinned (OpenSpec.ofChange fnRowsRestSpec)

/-- ITS FALSE NEIGHBOUR: 'it returns false'. Refute it at one input. -/
def fnRowsRestWrong : ChangeSpec := { name := "fnRowsRest", fn := fun _ => fun
  | [d1, d2] => { results := [.lit (.bool false)], args := [d1, d2] }
  | _ => none }
def FnRowsRestWrongFalsely : Prop := fnRowsRestRow.holds Try.pinned (OpenSpec.ofChange fnRowsRestWrong)

/-- 'laws.FnRowsRestOfAll': WHATEVER THE INPUT: true; the input reads as it did. -/
def fnRowsRestOfAllSpec : ChangeSpec := { name := "fnRowsRestOfAll", fn := fun _ => fun
  | [d1, d2, d3, d4, d5, d6] => { results := [.lit (.bool true)], args := [d1, d2, d3, d4, d5, d6] }
  | _ => none }
def fnRowsRestOfAllRow : OpenClaim := { program := "ytacchefmblfobaa", sum := "68f66c6e92aaacce29cdf528513862b5fef85ffbab3ea00770c0fbd622cd00d0", func := "loop.example/g01332/laws.FnRowsRestOfAll", spec := "fnRowsRestOfAll", unfollowed := true, recurses := true, apart := false }
def FnRowsRestOfAllSaid : Prop := fnRowsRestOfAllRow.holds Try.pinned (OpenSpec.ofChange fnRowsRestOfAllSpec)

/-- ITS FALSE NEIGHBOUR: 'it returns false'. Refute it at one input. -/
def fnRowsRestOfAllWrong : ChangeSpec := { name := "fnRowsRestOfAll", fn := fun _ => fun
  | [d1, d2, d3, d4, d5, d6] => { results := [.lit (.bool false)], args := [d1, d2, d3, d4, d5, d6] }
  | _ => none }
def FnRowsRestOfAllWrongFalsely : Prop := fnRowsRestOfAllRow.holds Try.pinned (OpenSpec.ofChange fnRowsRestOfAllWrong)

/-- 'laws.FnRowsBefore': WHATEVER THE INPUT: true; the input reads as it did. -/
def fnRowsBeforeSpec : ChangeSpec := { name := "fnRowsBefore", fn := fun _ => fun
  | [d1, d2] => { results := [.lit (.bool true)], args := [d1, d2] }
  | _ => none }
def fnRowsBeforeRow : OpenClaim := { program := "ytacchefmblfobaa", sum := "68f66c6e92aaacce29cdf528513862b5fef85ffbab3ea00770c0fbd622cd00d0", func := "loop.example/g01332/laws.FnRowsBefore", spec := "fnRowsBefore", unfollowed := true, recurses := true, apart := false }
def FnRowsBeforeSaid : Prop := fnRowsBeforeRow.holds Try.pinned (OpenSpec.ofChange fnRowsBeforeSpec)

/-- ITS FALSE NEIGHBOUR: 'it returns false'. Refute it at one input. -/
def fnRowsBeforeWrong : ChangeSpec := { name := "fnRowsBefore", fn := fun _ => fun
  | [d1, d2] => { results := [.lit (.bool false)], args := [d1, d2] }
  | _ => none }
def FnRowsBeforeWrongFalsely : Prop := fnRowsBeforeRow.holds Try.pinned (OpenSpec.ofChange fnRowsBeforeWrong)

/-- 'laws.FnRowsBeforeOfAll': WHATEVER THE INPUT: true; the input reads as it did. -/
def fnRowsBeforeOfAllSpec : ChangeSpec := { name := "fnRowsBeforeOfAll", fn := fun _ => fun
  | [d1, d2, d3, d4, d5] => { results := [.lit (.bool true)], args := [d1, d2, d3, d4, d5] }
  | _ => none }
def fnRowsBeforeOfAllRow : OpenClaim := { program := "ytacchefmblfobaa", sum := "68f66c6e92aaacce29cdf528513862b5fef85ffbab3ea00770c0fbd622cd00d0", func := "loop.example/g01332/laws.FnRowsBeforeOfAll", spec := "fnRowsBeforeOfAll", unfollowed := true, recurses := true, apart := false }
def FnRowsBeforeOfAllSaid : Prop := fnRowsBeforeOfAllRow.holds Try.pinned (OpenSpec.ofChange fnRowsBeforeOfAllSpec)

/-- ITS FALSE NEIGHBOUR: 'it returns false'. Refute it at one input. -/
def fnRowsBeforeOfAllWrong : ChangeSpec := { name := "fnRowsBeforeOfAll", fn := fun _ => fun
  | [d1, d2, d3, d4, d5] => { results := [.lit (.bool false)], args := [d1, d2, d3, d4, d5] }
  | _ => none }
def FnRowsBeforeOfAllWrongFalsely : Prop := fnRowsBeforeOfAllRow.holds Try.pinned (OpenSpec.ofChange fnRowsBeforeOfAllWrong)

/- THE SECOND FORM. 'bulk': how many values and letters a reading holds, each counted each time it is reached (what is shared counts as often as it is met; a slice's spare places count too). A statement '..UptoSaid' is the law's where the arguments, and the package variables that the reading takes, are together of bulk at most 1048576: NARROWER than '..Said'. Prove '..Said' where nothing that the law and all that it calls make is longer than what came in: it says more and counts as full. Else prove '..UptoSaid'. A law counts once. -/
mutual
def uptoBulk {H : Type} : DataW H → Nat
  | .lit (.string bytes) => bytes.length + 1
  | .lit _ => 1
  | .nil => 1
  | .ptr d => uptoBulk d + 1
  | .slice elems spare => uptoBulkAll elems + uptoBulkAll spare + 1
  | .agg parts => uptoBulkAll parts + 1
  | .iface _ d => uptoBulk d + 1
  | .map entries => uptoBulkEntries entries + 1
  | .held _ => 1
def uptoBulkAll {H : Type} : List (DataW H) → Nat
  | [] => 0
  | d :: r => uptoBulk d + uptoBulkAll r
def uptoBulkEntries {H : Type} : List (Lit × DataW H) → Nat
  | [] => 0
  | x :: r => uptoBulkEntry x + uptoBulkEntries r
def uptoBulkEntry {H : Type} : Lit × DataW H → Nat
  | (.string bytes, d) => bytes.length + uptoBulk d + 1
  | (_, d) => uptoBulk d + 1
 end
def uptoSmall : (H : Type) → List (DataW H) → Bool := fun _ ds => decide (uptoBulkAll ds ≤ 1048576)
def OpenSpec.upto (s : _root_.Go.ChangeSpec) : _root_.Go.OpenSpec := { _root_.Go.OpenSpec.ofChange s with cond := some uptoSmall }

/-- 'laws.FnRowsRest', WHERE WHAT IT READS IS OF BULK AT MOST 1048576: true; the input reads as it did. -/
def fnRowsRestUptoRow : OpenClaim := { program := "ytacchefmblfobaa", sum := "68f66c6e92aaacce29cdf528513862b5fef85ffbab3ea00770c0fbd622cd00d0", func := "loop.example/g01332/laws.FnRowsRest", spec := "fnRowsRest", unfollowed := true, recurses := true, apart := false, narrowed := true }
def FnRowsRestUptoSaid : Prop := fnRowsRestUptoRow.holds Try.pinned (OpenSpec.upto fnRowsRestSpec)

/-- 'laws.FnRowsRestOfAll', WHERE WHAT IT READS IS OF BULK AT MOST 1048576: true; the input reads as it did. -/
def fnRowsRestOfAllUptoRow : OpenClaim := { program := "ytacchefmblfobaa", sum := "68f66c6e92aaacce29cdf528513862b5fef85ffbab3ea00770c0fbd622cd00d0", func := "loop.example/g01332/laws.FnRowsRestOfAll", spec := "fnRowsRestOfAll", unfollowed := true, recurses := true, apart := false, narrowed := true }
def FnRowsRestOfAllUptoSaid : Prop := fnRowsRestOfAllUptoRow.holds Try.pinned (OpenSpec.upto fnRowsRestOfAllSpec)

/-- 'laws.FnRowsBefore', WHERE WHAT IT READS IS OF BULK AT MOST 1048576: true; the input reads as it did. -/
def fnRowsBeforeUptoRow : OpenClaim := { program := "ytacchefmblfobaa", sum := "68f66c6e92aaacce29cdf528513862b5fef85ffbab3ea00770c0fbd622cd00d0", func := "loop.example/g01332/laws.FnRowsBefore", spec := "fnRowsBefore", unfollowed := true, recurses := true, apart := false, narrowed := true }
def FnRowsBeforeUptoSaid : Prop := fnRowsBeforeUptoRow.holds Try.pinned (OpenSpec.upto fnRowsBeforeSpec)

/-- 'laws.FnRowsBeforeOfAll', WHERE WHAT IT READS IS OF BULK AT MOST 1048576: true; the input reads as it did. -/
def fnRowsBeforeOfAllUptoRow : OpenClaim := { program := "ytacchefmblfobaa", sum := "68f66c6e92aaacce29cdf528513862b5fef85ffbab3ea00770c0fbd622cd00d0", func := "loop.example/g01332/laws.FnRowsBeforeOfAll", spec := "fnRowsBeforeOfAll", unfollowed := true, recurses := true, apart := false, narrowed := true }
def FnRowsBeforeOfAllUptoSaid : Prop := fnRowsBeforeOfAllUptoRow.holds Try.pinned (OpenSpec.upto fnRowsBeforeOfAllSpec)

end Rows
end Go.Proofs.Ytacchefmblfobaa
