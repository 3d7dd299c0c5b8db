/-
  No cell of these rows narrows 'for every input' (looked for: loops, veiled, ifaces, maps, wideKeys, modest, calm, conditions, laid).
  DERIVED. THE GIVEN ROWS OF THIS SEAT. 10 by the template 'for every input the law returns true; each argument reads behind the call as it read before'; 0 by the template 'total and deterministic' (their statements: YtejlllmbcakacabTotals.lean).
  GIVEN WITH THE SEED: the statements are not yours to turn. If you find one false, say at which input.
  Laid BY PROGRAM, IN A SANDBOX (cutbox-rows.mjs): the forced cells as the released guide's own fill.sh prints them over the translation e310089a342d41b1… (all of the seat's roots in one cut). By AI agents, Wed Nov 11 2026. No macro, syntax, notation, axiom, sorry.
-/
import Derived.Test.YtejlllmbcakacabChecked
import GoSem.Claim
import GoSem.ClaimJoined
import GoSem.ClaimMapViews
import Derived.JoinedTies
import Derived.KernelRfl
namespace Go.Proofs.Ytejlllmbcakacab
/- THE CELL 'sum', in the pinned program and in every row, IS THE sha256 OF THE DUMP (.gsa) THAT YtejlllmbcakacabProg.lean LOADS. Nothing in Lean hashes anything: it is a label: what it is worth is what the hold of that sum in a sandbox is worth. -/
noncomputable def Try.pinned : Pinned := { name := "ytejlllmbcakacab", sum := "e310089a342d41b1a2490dad0fe973767843e675050ed3fdc35033847726efbb", checked := Try.checked }
namespace Rows
def none {H : Type} : Left H := { results := [], args := [] }

/-- 'laws.FnExactRowAfter': WHATEVER THE INPUT: true; the input reads as it did. -/
def fnExactRowAfterSpec : ChangeSpec := { name := "fnExactRowAfter", fn := fun _ => fun
  | [d1, d2] => { results := [.lit (.bool true)], args := [d1, d2] }
  | _ => none }
def fnExactRowAfterRow : OpenClaim := { program := "ytejlllmbcakacab", sum := "e310089a342d41b1a2490dad0fe973767843e675050ed3fdc35033847726efbb", func := "loop.example/g01332/laws.FnExactRowAfter", spec := "fnExactRowAfter", unfollowed := true, recurses := true, apart := false }
def FnExactRowAfterSaid : Prop := fnExactRowAfterRow.holds Try.pinned (OpenSpec.ofChange fnExactRowAfterSpec)

/-- ITS FALSE NEIGHBOUR: 'it returns false'. Refute it at one input. -/
def fnExactRowAfterWrong : ChangeSpec := { name := "fnExactRowAfter", fn := fun _ => fun
  | [d1, d2] => { results := [.lit (.bool false)], args := [d1, d2] }
  | _ => none }
def FnExactRowAfterWrongFalsely : Prop := fnExactRowAfterRow.holds Try.pinned (OpenSpec.ofChange fnExactRowAfterWrong)

/-- 'laws.FnExactRestOf': WHATEVER THE INPUT: true; the input reads as it did. -/
def fnExactRestOfSpec : ChangeSpec := { name := "fnExactRestOf", fn := fun _ => fun
  | [d] => { results := [.lit (.bool true)], args := [d] }
  | _ => none }
def fnExactRestOfRow : OpenClaim := { program := "ytejlllmbcakacab", sum := "e310089a342d41b1a2490dad0fe973767843e675050ed3fdc35033847726efbb", func := "loop.example/g01332/laws.FnExactRestOf", spec := "fnExactRestOf", unfollowed := true, recurses := true, apart := false }
def FnExactRestOfSaid : Prop := fnExactRestOfRow.holds Try.pinned (OpenSpec.ofChange fnExactRestOfSpec)

/-- ITS FALSE NEIGHBOUR: 'it returns false'. Refute it at one input. -/
def fnExactRestOfWrong : ChangeSpec := { name := "fnExactRestOf", fn := fun _ => fun
  | [d] => { results := [.lit (.bool false)], args := [d] }
  | _ => none }
def FnExactRestOfWrongFalsely : Prop := fnExactRestOfRow.holds Try.pinned (OpenSpec.ofChange fnExactRestOfWrong)

/-- 'laws.FnExactCountTurns': WHATEVER THE INPUT: true; the input reads as it did. -/
def fnExactCountTurnsSpec : ChangeSpec := { name := "fnExactCountTurns", fn := fun _ => fun
  | [d] => { results := [.lit (.bool true)], args := [d] }
  | _ => none }
def fnExactCountTurnsRow : OpenClaim := { program := "ytejlllmbcakacab", sum := "e310089a342d41b1a2490dad0fe973767843e675050ed3fdc35033847726efbb", func := "loop.example/g01332/laws.FnExactCountTurns", spec := "fnExactCountTurns", unfollowed := true, recurses := true, apart := false }
def FnExactCountTurnsSaid : Prop := fnExactCountTurnsRow.holds Try.pinned (OpenSpec.ofChange fnExactCountTurnsSpec)

/-- ITS FALSE NEIGHBOUR: 'it returns false'. Refute it at one input. -/
def fnExactCountTurnsWrong : ChangeSpec := { name := "fnExactCountTurns", fn := fun _ => fun
  | [d] => { results := [.lit (.bool false)], args := [d] }
  | _ => none }
def FnExactCountTurnsWrongFalsely : Prop := fnExactCountTurnsRow.holds Try.pinned (OpenSpec.ofChange fnExactCountTurnsWrong)

/-- 'laws.FnExactTurnsOfEach': WHATEVER THE INPUT: true; the input reads as it did. -/
def fnExactTurnsOfEachSpec : ChangeSpec := { name := "fnExactTurnsOfEach", fn := fun _ => fun
  | [d] => { results := [.lit (.bool true)], args := [d] }
  | _ => none }
def fnExactTurnsOfEachRow : OpenClaim := { program := "ytejlllmbcakacab", sum := "e310089a342d41b1a2490dad0fe973767843e675050ed3fdc35033847726efbb", func := "loop.example/g01332/laws.FnExactTurnsOfEach", spec := "fnExactTurnsOfEach", unfollowed := true, recurses := true, apart := false }
def FnExactTurnsOfEachSaid : Prop := fnExactTurnsOfEachRow.holds Try.pinned (OpenSpec.ofChange fnExactTurnsOfEachSpec)

/-- ITS FALSE NEIGHBOUR: 'it returns false'. Refute it at one input. -/
def fnExactTurnsOfEachWrong : ChangeSpec := { name := "fnExactTurnsOfEach", fn := fun _ => fun
  | [d] => { results := [.lit (.bool false)], args := [d] }
  | _ => none }
def FnExactTurnsOfEachWrongFalsely : Prop := fnExactTurnsOfEachRow.holds Try.pinned (OpenSpec.ofChange fnExactTurnsOfEachWrong)

/-- 'laws.FnExactRowsBefore': WHATEVER THE INPUT: true; the input reads as it did. -/
def fnExactRowsBeforeSpec : ChangeSpec := { name := "fnExactRowsBefore", fn := fun _ => fun
  | [d] => { results := [.lit (.bool true)], args := [d] }
  | _ => none }
def fnExactRowsBeforeRow : OpenClaim := { program := "ytejlllmbcakacab", sum := "e310089a342d41b1a2490dad0fe973767843e675050ed3fdc35033847726efbb", func := "loop.example/g01332/laws.FnExactRowsBefore", spec := "fnExactRowsBefore", unfollowed := true, recurses := true, apart := false }
def FnExactRowsBeforeSaid : Prop := fnExactRowsBeforeRow.holds Try.pinned (OpenSpec.ofChange fnExactRowsBeforeSpec)

/-- ITS FALSE NEIGHBOUR: 'it returns false'. Refute it at one input. -/
def fnExactRowsBeforeWrong : ChangeSpec := { name := "fnExactRowsBefore", fn := fun _ => fun
  | [d] => { results := [.lit (.bool false)], args := [d] }
  | _ => none }
def FnExactRowsBeforeWrongFalsely : Prop := fnExactRowsBeforeRow.holds Try.pinned (OpenSpec.ofChange fnExactRowsBeforeWrong)

/-- 'laws.FnExactHasBefore': WHATEVER THE INPUT: true; the input reads as it did. -/
def fnExactHasBeforeSpec : ChangeSpec := { name := "fnExactHasBefore", fn := fun _ => fun
  | [d] => { results := [.lit (.bool true)], args := [d] }
  | _ => none }
def fnExactHasBeforeRow : OpenClaim := { program := "ytejlllmbcakacab", sum := "e310089a342d41b1a2490dad0fe973767843e675050ed3fdc35033847726efbb", func := "loop.example/g01332/laws.FnExactHasBefore", spec := "fnExactHasBefore", unfollowed := true, recurses := true, apart := false }
def FnExactHasBeforeSaid : Prop := fnExactHasBeforeRow.holds Try.pinned (OpenSpec.ofChange fnExactHasBeforeSpec)

/-- ITS FALSE NEIGHBOUR: 'it returns false'. Refute it at one input. -/
def fnExactHasBeforeWrong : ChangeSpec := { name := "fnExactHasBefore", fn := fun _ => fun
  | [d] => { results := [.lit (.bool false)], args := [d] }
  | _ => none }
def FnExactHasBeforeWrongFalsely : Prop := fnExactHasBeforeRow.holds Try.pinned (OpenSpec.ofChange fnExactHasBeforeWrong)

/-- 'laws.FnExactLongestTicks': WHATEVER THE INPUT: true; the input reads as it did. -/
def fnExactLongestTicksSpec : ChangeSpec := { name := "fnExactLongestTicks", fn := fun _ => fun
  | [d] => { results := [.lit (.bool true)], args := [d] }
  | _ => none }
def fnExactLongestTicksRow : OpenClaim := { program := "ytejlllmbcakacab", sum := "e310089a342d41b1a2490dad0fe973767843e675050ed3fdc35033847726efbb", func := "loop.example/g01332/laws.FnExactLongestTicks", spec := "fnExactLongestTicks", apart := false }
def FnExactLongestTicksSaid : Prop := fnExactLongestTicksRow.holds Try.pinned (OpenSpec.ofChange fnExactLongestTicksSpec)

/-- ITS FALSE NEIGHBOUR: 'it returns false'. Refute it at one input. -/
def fnExactLongestTicksWrong : ChangeSpec := { name := "fnExactLongestTicks", fn := fun _ => fun
  | [d] => { results := [.lit (.bool false)], args := [d] }
  | _ => none }
def FnExactLongestTicksWrongFalsely : Prop := fnExactLongestTicksRow.holds Try.pinned (OpenSpec.ofChange fnExactLongestTicksWrong)

/-- 'laws.FnExactFirstLongest': WHATEVER THE INPUT: true; the input reads as it did. -/
def fnExactFirstLongestSpec : ChangeSpec := { name := "fnExactFirstLongest", fn := fun _ => fun
  | [d] => { results := [.lit (.bool true)], args := [d] }
  | _ => none }
def fnExactFirstLongestRow : OpenClaim := { program := "ytejlllmbcakacab", sum := "e310089a342d41b1a2490dad0fe973767843e675050ed3fdc35033847726efbb", func := "loop.example/g01332/laws.FnExactFirstLongest", spec := "fnExactFirstLongest", apart := false }
def FnExactFirstLongestSaid : Prop := fnExactFirstLongestRow.holds Try.pinned (OpenSpec.ofChange fnExactFirstLongestSpec)

/-- ITS FALSE NEIGHBOUR: 'it returns false'. Refute it at one input. -/
def fnExactFirstLongestWrong : ChangeSpec := { name := "fnExactFirstLongest", fn := fun _ => fun
  | [d] => { results := [.lit (.bool false)], args := [d] }
  | _ => none }
def FnExactFirstLongestWrongFalsely : Prop := fnExactFirstLongestRow.holds Try.pinned (OpenSpec.ofChange fnExactFirstLongestWrong)

/-- 'laws.FnExactCountByTicks': WHATEVER THE INPUT: true; the input reads as it did. -/
def fnExactCountByTicksSpec : ChangeSpec := { name := "fnExactCountByTicks", fn := fun _ => fun
  | [d1, d2] => { results := [.lit (.bool true)], args := [d1, d2] }
  | _ => none }
def fnExactCountByTicksRow : OpenClaim := { program := "ytejlllmbcakacab", sum := "e310089a342d41b1a2490dad0fe973767843e675050ed3fdc35033847726efbb", func := "loop.example/g01332/laws.FnExactCountByTicks", spec := "fnExactCountByTicks", apart := false }
def FnExactCountByTicksSaid : Prop := fnExactCountByTicksRow.holds Try.pinned (OpenSpec.ofChange fnExactCountByTicksSpec)

/-- ITS FALSE NEIGHBOUR: 'it returns false'. Refute it at one input. -/
def fnExactCountByTicksWrong : ChangeSpec := { name := "fnExactCountByTicks", fn := fun _ => fun
  | [d1, d2] => { results := [.lit (.bool false)], args := [d1, d2] }
  | _ => none }
def FnExactCountByTicksWrongFalsely : Prop := fnExactCountByTicksRow.holds Try.pinned (OpenSpec.ofChange fnExactCountByTicksWrong)

/-- 'laws.FnExactSumOfTicks': WHATEVER THE INPUT: true; the input reads as it did. -/
def fnExactSumOfTicksSpec : ChangeSpec := { name := "fnExactSumOfTicks", fn := fun _ => fun
  | [d] => { results := [.lit (.bool true)], args := [d] }
  | _ => none }
def fnExactSumOfTicksRow : OpenClaim := { program := "ytejlllmbcakacab", sum := "e310089a342d41b1a2490dad0fe973767843e675050ed3fdc35033847726efbb", func := "loop.example/g01332/laws.FnExactSumOfTicks", spec := "fnExactSumOfTicks", apart := false }
def FnExactSumOfTicksSaid : Prop := fnExactSumOfTicksRow.holds Try.pinned (OpenSpec.ofChange fnExactSumOfTicksSpec)

/-- ITS FALSE NEIGHBOUR: 'it returns false'. Refute it at one input. -/
def fnExactSumOfTicksWrong : ChangeSpec := { name := "fnExactSumOfTicks", fn := fun _ => fun
  | [d] => { results := [.lit (.bool false)], args := [d] }
  | _ => none }
def FnExactSumOfTicksWrongFalsely : Prop := fnExactSumOfTicksRow.holds Try.pinned (OpenSpec.ofChange fnExactSumOfTicksWrong)

/- THE SECOND FORM. 'bulk': how many values and letters a reading holds, each counted each time it is reached (what is shared counts as often as it is met; a slice's spare places count too). A statement '..UptoSaid' is the law's where the arguments, and the package variables that the reading takes, are together of bulk at most 1048576: NARROWER than '..Said'. Prove '..Said' where nothing that the law and all that it calls make is longer than what came in: it says more and counts as full. Else prove '..UptoSaid'. A law counts once. -/
mutual
def uptoBulk {H : Type} : DataW H → Nat
  | .lit (.string bytes) => bytes.length + 1
  | .lit _ => 1
  | .nil => 1
  | .ptr d => uptoBulk d + 1
  | .slice elems spare => uptoBulkAll elems + uptoBulkAll spare + 1
  | .agg parts => uptoBulkAll parts + 1
  | .iface _ d => uptoBulk d + 1
  | .map entries => uptoBulkEntries entries + 1
  | .held _ => 1
def uptoBulkAll {H : Type} : List (DataW H) → Nat
  | [] => 0
  | d :: r => uptoBulk d + uptoBulkAll r
def uptoBulkEntries {H : Type} : List (Lit × DataW H) → Nat
  | [] => 0
  | x :: r => uptoBulkEntry x + uptoBulkEntries r
def uptoBulkEntry {H : Type} : Lit × DataW H → Nat
  | (.string bytes, d) => bytes.length + uptoBulk d + 1
  | (_, d) => uptoBulk d + 1
 end
def uptoSmall : (H : Type) → List (DataW H) → Bool := fun _ ds => decide (uptoBulkAll ds ≤ 1048576)
def OpenSpec.upto (s : _root_.Go.ChangeSpec) : _root_.Go.OpenSpec := { _root_.Go.OpenSpec.ofChange s with cond := some uptoSmall }

/-- 'laws.FnExactRowAfter', WHERE WHAT IT READS IS OF BULK AT MOST 1048576: true; the input reads as it did. -/
def fnExactRowAfterUptoRow : OpenClaim := { program := "ytejlllmbcakacab", sum := "e310089a342d41b1a2490dad0fe973767843e675050ed3fdc35033847726efbb", func := "loop.example/g01332/laws.FnExactRowAfter", spec := "fnExactRowAfter", unfollowed := true, recurses := true, apart := false, narrowed := true }
def FnExactRowAfterUptoSaid : Prop := fnExactRowAfterUptoRow.holds Try.pinned (OpenSpec.upto fnExactRowAfterSpec)

/-- 'laws.FnExactRestOf', WHERE WHAT IT READS IS OF BULK AT MOST 1048576: true; the input reads as it did. -/
def fnExactRestOfUptoRow : OpenClaim := { program := "ytejlllmbcakacab", sum := "e310089a342d41b1a2490dad0fe973767843e675050ed3fdc35033847726efbb", func := "loop.example/g01332/laws.FnExactRestOf", spec := "fnExactRestOf", unfollowed := true, recurses := true, apart := false, narrowed := true }
def FnExactRestOfUptoSaid : Prop := fnExactRestOfUptoRow.holds Try.pinned (OpenSpec.upto fnExactRestOfSpec)

/-- 'laws.FnExactCountTurns', WHERE WHAT IT READS IS OF BULK AT MOST 1048576: true; the input reads as it did. -/
def fnExactCountTurnsUptoRow : OpenClaim := { program := "ytejlllmbcakacab", sum := "e310089a342d41b1a2490dad0fe973767843e675050ed3fdc35033847726efbb", func := "loop.example/g01332/laws.FnExactCountTurns", spec := "fnExactCountTurns", unfollowed := true, recurses := true, apart := false, narrowed := true }
def FnExactCountTurnsUptoSaid : Prop := fnExactCountTurnsUptoRow.holds Try.pinned (OpenSpec.upto fnExactCountTurnsSpec)

/-- 'laws.FnExactTurnsOfEach', WHERE WHAT IT READS IS OF BULK AT MOST 1048576: true; the input reads as it did. -/
def fnExactTurnsOfEachUptoRow : OpenClaim := { program := "ytejlllmbcakacab", sum := "e310089a342d41b1a2490dad0fe973767843e675050ed3fdc35033847726efbb", func := "loop.example/g01332/laws.FnExactTurnsOfEach", spec := "fnExactTurnsOfEach", unfollowed := true, recurses := true, apart := false, narrowed := true }
def FnExactTurnsOfEachUptoSaid : Prop := fnExactTurnsOfEachUptoRow.holds Try.pinned (OpenSpec.upto fnExactTurnsOfEachSpec)

/-- 'laws.FnExactRowsBefore', WHERE WHAT IT READS IS OF BULK AT MOST 1048576: true; the input reads as it did. -/
def fnExactRowsBeforeUptoRow : OpenClaim := { program := "ytejlllmbcakacab", sum := "e310089a342d41b1a2490dad0fe973767843e675050ed3fdc35033847726efbb", func := "loop.example/g01332/laws.FnExactRowsBefore", spec := "fnExactRowsBefore", unfollowed := true, recurses := true, apart := false, narrowed := true }
def FnExactRowsBeforeUptoSaid : Prop := fnExactRowsBeforeUptoRow.holds Try.pinned (OpenSpec.upto fnExactRowsBeforeSpec)

/-- 'laws.FnExactHasBefore', WHERE WHAT IT READS IS OF BULK AT MOST 1048576: true; the input reads as it did. -/
def fnExactHasBeforeUptoRow : OpenClaim := { program := "ytejlllmbcakacab", sum := "e310089a342d41b1a2490dad0fe973767843e675050ed3fdc35033847726efbb", func := "loop.example/g01332/laws.FnExactHasBefore", spec := "fnExactHasBefore", unfollowed := true, recurses := true, apart := false, narrowed := true }
def FnExactHasBeforeUptoSaid : Prop := fnExactHasBeforeUptoRow.holds Try.pinned (OpenSpec.upto fnExactHasBeforeSpec)

/-- 'laws.FnExactLongestTicks', WHERE WHAT IT READS IS OF BULK AT MOST 1048576: true; the input reads as it did. -/
def fnExactLongestTicksUptoRow : OpenClaim := { program := "ytejlllmbcakacab", sum := "e310089a342d41b1a2490dad0fe973767843e675050ed3fdc35033847726efbb", func := "loop.example/g01332/laws.FnExactLongestTicks", spec := "fnExactLongestTicks", apart := false, narrowed := true }
def FnExactLongestTicksUptoSaid : Prop := fnExactLongestTicksUptoRow.holds Try.pinned (OpenSpec.upto fnExactLongestTicksSpec)

/-- 'laws.FnExactFirstLongest', WHERE WHAT IT READS IS OF BULK AT MOST 1048576: true; the input reads as it did. -/
def fnExactFirstLongestUptoRow : OpenClaim := { program := "ytejlllmbcakacab", sum := "e310089a342d41b1a2490dad0fe973767843e675050ed3fdc35033847726efbb", func := "loop.example/g01332/laws.FnExactFirstLongest", spec := "fnExactFirstLongest", apart := false, narrowed := true }
def FnExactFirstLongestUptoSaid : Prop := fnExactFirstLongestUptoRow.holds Try.pinned (OpenSpec.upto fnExactFirstLongestSpec)

/-- 'laws.FnExactCountByTicks', WHERE WHAT IT READS IS OF BULK AT MOST 1048576: true; the input reads as it did. -/
def fnExactCountByTicksUptoRow : OpenClaim := { program := "ytejlllmbcakacab", sum := "e310089a342d41b1a2490dad0fe973767843e675050ed3fdc35033847726efbb", func := "loop.example/g01332/laws.FnExactCountByTicks", spec := "fnExactCountByTicks", apart := false, narrowed := true }
def FnExactCountByTicksUptoSaid : Prop := fnExactCountByTicksUptoRow.holds Try.pinned (OpenSpec.upto fnExactCountByTicksSpec)

/-- 'laws.FnExactSumOfTicks', WHERE WHAT IT READS IS OF BULK AT MOST 1048576: true; the input reads as it did. -/
def fnExactSumOfTicksUptoRow : OpenClaim := { program := "ytejlllmbcakacab", sum := "e310089a342d41b1a2490dad0fe973767843e675050ed3fdc35033847726efbb", func := "loop.example/g01332/laws.FnExactSumOfTicks", spec := "fnExactSumOfTicks", apart := false, narrowed := true }
def FnExactSumOfTicksUptoSaid : Prop := fnExactSumOfTicksUptoRow.holds Try.pinned (OpenSpec.upto fnExactSumOfTicksSpec)

end Rows
end Go.Proofs.Ytejlllmbcakacab
