/-
  No cell of these rows narrows 'for every input' (looked for: loops, veiled, ifaces, maps, wideKeys, modest, calm, conditions, laid).
  DERIVED. THE GIVEN ROWS OF THIS SEAT. 10 by the template 'for every input the law returns true; each argument reads behind the call as it read before'; 0 by the template 'total and deterministic' (their statements: YtejlllmbcakacaaTotals.lean).
  GIVEN WITH THE SEED: the statements are not yours to turn. If you find one false, say at which input.
  Laid BY PROGRAM, IN A SANDBOX (cutbox-rows.mjs): the forced cells as the released guide's own fill.sh prints them over the translation ea0eda33fa713aa9… (all of the seat's roots in one cut). By AI agents, Wed Nov 11 2026. No macro, syntax, notation, axiom, sorry.
-/
import Derived.Test.YtejlllmbcakacaaChecked
import GoSem.Claim
import GoSem.ClaimJoined
import GoSem.ClaimMapViews
import Derived.JoinedTies
import Derived.KernelRfl
namespace Go.Proofs.Ytejlllmbcakacaa
/- THE CELL 'sum', in the pinned program and in every row, IS THE sha256 OF THE DUMP (.gsa) THAT YtejlllmbcakacaaProg.lean LOADS. Nothing in Lean hashes anything: it is a label: what it is worth is what the hold of that sum in a sandbox is worth. -/
noncomputable def Try.pinned : Pinned := { name := "ytejlllmbcakacaa", sum := "ea0eda33fa713aa989a6afda5f07f1976107a84dff508780465c04087408c79b", checked := Try.checked }
namespace Rows
def none {H : Type} : Left H := { results := [], args := [] }

/-- 'laws.FnExactIsRow': WHATEVER THE INPUT: true; the input reads as it did. -/
def fnExactIsRowSpec : ChangeSpec := { name := "fnExactIsRow", fn := fun _ => fun
  | [d] => { results := [.lit (.bool true)], args := [d] }
  | _ => none }
def fnExactIsRowRow : OpenClaim := { program := "ytejlllmbcakacaa", sum := "ea0eda33fa713aa989a6afda5f07f1976107a84dff508780465c04087408c79b", func := "loop.example/g01332/laws.FnExactIsRow", spec := "fnExactIsRow", apart := false }
def FnExactIsRowSaid : Prop := fnExactIsRowRow.holds Try.pinned (OpenSpec.ofChange fnExactIsRowSpec)

/-- ITS FALSE NEIGHBOUR: 'it returns false'. Refute it at one input. -/
def fnExactIsRowWrong : ChangeSpec := { name := "fnExactIsRow", fn := fun _ => fun
  | [d] => { results := [.lit (.bool false)], args := [d] }
  | _ => none }
def FnExactIsRowWrongFalsely : Prop := fnExactIsRowRow.holds Try.pinned (OpenSpec.ofChange fnExactIsRowWrong)

/-- 'laws.FnExactCountAtRest': WHATEVER THE INPUT: true; the input reads as it did. -/
def fnExactCountAtRestSpec : ChangeSpec := { name := "fnExactCountAtRest", fn := fun _ => fun
  | [d] => { results := [.lit (.bool true)], args := [d] }
  | _ => none }
def fnExactCountAtRestRow : OpenClaim := { program := "ytejlllmbcakacaa", sum := "ea0eda33fa713aa989a6afda5f07f1976107a84dff508780465c04087408c79b", func := "loop.example/g01332/laws.FnExactCountAtRest", spec := "fnExactCountAtRest", apart := false }
def FnExactCountAtRestSaid : Prop := fnExactCountAtRestRow.holds Try.pinned (OpenSpec.ofChange fnExactCountAtRestSpec)

/-- ITS FALSE NEIGHBOUR: 'it returns false'. Refute it at one input. -/
def fnExactCountAtRestWrong : ChangeSpec := { name := "fnExactCountAtRest", fn := fun _ => fun
  | [d] => { results := [.lit (.bool false)], args := [d] }
  | _ => none }
def FnExactCountAtRestWrongFalsely : Prop := fnExactCountAtRestRow.holds Try.pinned (OpenSpec.ofChange fnExactCountAtRestWrong)

/-- 'laws.FnExactFacingPairs': WHATEVER THE INPUT: true; the input reads as it did. -/
def fnExactFacingPairsSpec : ChangeSpec := { name := "fnExactFacingPairs", fn := fun _ => fun
  | [d] => { results := [.lit (.bool true)], args := [d] }
  | _ => none }
def fnExactFacingPairsRow : OpenClaim := { program := "ytejlllmbcakacaa", sum := "ea0eda33fa713aa989a6afda5f07f1976107a84dff508780465c04087408c79b", func := "loop.example/g01332/laws.FnExactFacingPairs", spec := "fnExactFacingPairs", unfollowed := true, recurses := true, apart := false }
def FnExactFacingPairsSaid : Prop := fnExactFacingPairsRow.holds Try.pinned (OpenSpec.ofChange fnExactFacingPairsSpec)

/-- ITS FALSE NEIGHBOUR: 'it returns false'. Refute it at one input. -/
def fnExactFacingPairsWrong : ChangeSpec := { name := "fnExactFacingPairs", fn := fun _ => fun
  | [d] => { results := [.lit (.bool false)], args := [d] }
  | _ => none }
def FnExactFacingPairsWrongFalsely : Prop := fnExactFacingPairsRow.holds Try.pinned (OpenSpec.ofChange fnExactFacingPairsWrong)

/-- 'laws.FnExactTickRow': WHATEVER THE INPUT: true; the input reads as it did. -/
def fnExactTickRowSpec : ChangeSpec := { name := "fnExactTickRow", fn := fun _ => fun
  | [d] => { results := [.lit (.bool true)], args := [d] }
  | _ => none }
def fnExactTickRowRow : OpenClaim := { program := "ytejlllmbcakacaa", sum := "ea0eda33fa713aa989a6afda5f07f1976107a84dff508780465c04087408c79b", func := "loop.example/g01332/laws.FnExactTickRow", spec := "fnExactTickRow", unfollowed := true, recurses := true, apart := false }
def FnExactTickRowSaid : Prop := fnExactTickRowRow.holds Try.pinned (OpenSpec.ofChange fnExactTickRowSpec)

/-- ITS FALSE NEIGHBOUR: 'it returns false'. Refute it at one input. -/
def fnExactTickRowWrong : ChangeSpec := { name := "fnExactTickRow", fn := fun _ => fun
  | [d] => { results := [.lit (.bool false)], args := [d] }
  | _ => none }
def FnExactTickRowWrongFalsely : Prop := fnExactTickRowRow.holds Try.pinned (OpenSpec.ofChange fnExactTickRowWrong)

/-- 'laws.FnExactIsAtRest': WHATEVER THE INPUT: true; the input reads as it did. -/
def fnExactIsAtRestSpec : ChangeSpec := { name := "fnExactIsAtRest", fn := fun _ => fun
  | [d] => { results := [.lit (.bool true)], args := [d] }
  | _ => none }
def fnExactIsAtRestRow : OpenClaim := { program := "ytejlllmbcakacaa", sum := "ea0eda33fa713aa989a6afda5f07f1976107a84dff508780465c04087408c79b", func := "loop.example/g01332/laws.FnExactIsAtRest", spec := "fnExactIsAtRest", unfollowed := true, recurses := true, apart := false }
def FnExactIsAtRestSaid : Prop := fnExactIsAtRestRow.holds Try.pinned (OpenSpec.ofChange fnExactIsAtRestSpec)

/-- ITS FALSE NEIGHBOUR: 'it returns false'. Refute it at one input. -/
def fnExactIsAtRestWrong : ChangeSpec := { name := "fnExactIsAtRest", fn := fun _ => fun
  | [d] => { results := [.lit (.bool false)], args := [d] }
  | _ => none }
def FnExactIsAtRestWrongFalsely : Prop := fnExactIsAtRestRow.holds Try.pinned (OpenSpec.ofChange fnExactIsAtRestWrong)

/-- 'laws.FnExactMirrorRow': WHATEVER THE INPUT: true; the input reads as it did. -/
def fnExactMirrorRowSpec : ChangeSpec := { name := "fnExactMirrorRow", fn := fun _ => fun
  | [d] => { results := [.lit (.bool true)], args := [d] }
  | _ => none }
def fnExactMirrorRowRow : OpenClaim := { program := "ytejlllmbcakacaa", sum := "ea0eda33fa713aa989a6afda5f07f1976107a84dff508780465c04087408c79b", func := "loop.example/g01332/laws.FnExactMirrorRow", spec := "fnExactMirrorRow", unfollowed := true, recurses := true, apart := false }
def FnExactMirrorRowSaid : Prop := fnExactMirrorRowRow.holds Try.pinned (OpenSpec.ofChange fnExactMirrorRowSpec)

/-- ITS FALSE NEIGHBOUR: 'it returns false'. Refute it at one input. -/
def fnExactMirrorRowWrong : ChangeSpec := { name := "fnExactMirrorRow", fn := fun _ => fun
  | [d] => { results := [.lit (.bool false)], args := [d] }
  | _ => none }
def FnExactMirrorRowWrongFalsely : Prop := fnExactMirrorRowRow.holds Try.pinned (OpenSpec.ofChange fnExactMirrorRowWrong)

/-- 'laws.FnExactTurnedRow': WHATEVER THE INPUT: true; the input reads as it did. -/
def fnExactTurnedRowSpec : ChangeSpec := { name := "fnExactTurnedRow", fn := fun _ => fun
  | [d] => { results := [.lit (.bool true)], args := [d] }
  | _ => none }
def fnExactTurnedRowRow : OpenClaim := { program := "ytejlllmbcakacaa", sum := "ea0eda33fa713aa989a6afda5f07f1976107a84dff508780465c04087408c79b", func := "loop.example/g01332/laws.FnExactTurnedRow", spec := "fnExactTurnedRow", unfollowed := true, recurses := true, apart := false }
def FnExactTurnedRowSaid : Prop := fnExactTurnedRowRow.holds Try.pinned (OpenSpec.ofChange fnExactTurnedRowSpec)

/-- ITS FALSE NEIGHBOUR: 'it returns false'. Refute it at one input. -/
def fnExactTurnedRowWrong : ChangeSpec := { name := "fnExactTurnedRow", fn := fun _ => fun
  | [d] => { results := [.lit (.bool false)], args := [d] }
  | _ => none }
def FnExactTurnedRowWrongFalsely : Prop := fnExactTurnedRowRow.holds Try.pinned (OpenSpec.ofChange fnExactTurnedRowWrong)

/-- 'laws.FnExactNumberOfRow': WHATEVER THE INPUT: true; the input reads as it did. -/
def fnExactNumberOfRowSpec : ChangeSpec := { name := "fnExactNumberOfRow", fn := fun _ => fun
  | [d] => { results := [.lit (.bool true)], args := [d] }
  | _ => none }
def fnExactNumberOfRowRow : OpenClaim := { program := "ytejlllmbcakacaa", sum := "ea0eda33fa713aa989a6afda5f07f1976107a84dff508780465c04087408c79b", func := "loop.example/g01332/laws.FnExactNumberOfRow", spec := "fnExactNumberOfRow", unfollowed := true, recurses := true, apart := false }
def FnExactNumberOfRowSaid : Prop := fnExactNumberOfRowRow.holds Try.pinned (OpenSpec.ofChange fnExactNumberOfRowSpec)

/-- ITS FALSE NEIGHBOUR: 'it returns false'. Refute it at one input. -/
def fnExactNumberOfRowWrong : ChangeSpec := { name := "fnExactNumberOfRow", fn := fun _ => fun
  | [d] => { results := [.lit (.bool false)], args := [d] }
  | _ => none }
def FnExactNumberOfRowWrongFalsely : Prop := fnExactNumberOfRowRow.holds Try.pinned (OpenSpec.ofChange fnExactNumberOfRowWrong)

/-- 'laws.FnExactRowOfNumber': WHATEVER THE INPUT: true; the input reads as it did. -/
def fnExactRowOfNumberSpec : ChangeSpec := { name := "fnExactRowOfNumber", fn := fun _ => fun
  | [d1, d2] => { results := [.lit (.bool true)], args := [d1, d2] }
  | _ => none }
def fnExactRowOfNumberRow : OpenClaim := { program := "ytejlllmbcakacaa", sum := "ea0eda33fa713aa989a6afda5f07f1976107a84dff508780465c04087408c79b", func := "loop.example/g01332/laws.FnExactRowOfNumber", spec := "fnExactRowOfNumber", apart := false }
def FnExactRowOfNumberSaid : Prop := fnExactRowOfNumberRow.holds Try.pinned (OpenSpec.ofChange fnExactRowOfNumberSpec)

/-- ITS FALSE NEIGHBOUR: 'it returns false'. Refute it at one input. -/
def fnExactRowOfNumberWrong : ChangeSpec := { name := "fnExactRowOfNumber", fn := fun _ => fun
  | [d1, d2] => { results := [.lit (.bool false)], args := [d1, d2] }
  | _ => none }
def FnExactRowOfNumberWrongFalsely : Prop := fnExactRowOfNumberRow.holds Try.pinned (OpenSpec.ofChange fnExactRowOfNumberWrong)

/-- 'laws.FnExactTicksToRest': WHATEVER THE INPUT: true; the input reads as it did. -/
def fnExactTicksToRestSpec : ChangeSpec := { name := "fnExactTicksToRest", fn := fun _ => fun
  | [d] => { results := [.lit (.bool true)], args := [d] }
  | _ => none }
def fnExactTicksToRestRow : OpenClaim := { program := "ytejlllmbcakacaa", sum := "ea0eda33fa713aa989a6afda5f07f1976107a84dff508780465c04087408c79b", func := "loop.example/g01332/laws.FnExactTicksToRest", spec := "fnExactTicksToRest", unfollowed := true, recurses := true, apart := false }
def FnExactTicksToRestSaid : Prop := fnExactTicksToRestRow.holds Try.pinned (OpenSpec.ofChange fnExactTicksToRestSpec)

/-- ITS FALSE NEIGHBOUR: 'it returns false'. Refute it at one input. -/
def fnExactTicksToRestWrong : ChangeSpec := { name := "fnExactTicksToRest", fn := fun _ => fun
  | [d] => { results := [.lit (.bool false)], args := [d] }
  | _ => none }
def FnExactTicksToRestWrongFalsely : Prop := fnExactTicksToRestRow.holds Try.pinned (OpenSpec.ofChange fnExactTicksToRestWrong)

/- THE SECOND FORM. 'bulk': how many values and letters a reading holds, each counted each time it is reached (what is shared counts as often as it is met; a slice's spare places count too). A statement '..UptoSaid' is the law's where the arguments, and the package variables that the reading takes, are together of bulk at most 1048576: NARROWER than '..Said'. Prove '..Said' where nothing that the law and all that it calls make is longer than what came in: it says more and counts as full. Else prove '..UptoSaid'. A law counts once. -/
mutual
def uptoBulk {H : Type} : DataW H → Nat
  | .lit (.string bytes) => bytes.length + 1
  | .lit _ => 1
  | .nil => 1
  | .ptr d => uptoBulk d + 1
  | .slice elems spare => uptoBulkAll elems + uptoBulkAll spare + 1
  | .agg parts => uptoBulkAll parts + 1
  | .iface _ d => uptoBulk d + 1
  | .map entries => uptoBulkEntries entries + 1
  | .held _ => 1
def uptoBulkAll {H : Type} : List (DataW H) → Nat
  | [] => 0
  | d :: r => uptoBulk d + uptoBulkAll r
def uptoBulkEntries {H : Type} : List (Lit × DataW H) → Nat
  | [] => 0
  | x :: r => uptoBulkEntry x + uptoBulkEntries r
def uptoBulkEntry {H : Type} : Lit × DataW H → Nat
  | (.string bytes, d) => bytes.length + uptoBulk d + 1
  | (_, d) => uptoBulk d + 1
 end
def uptoSmall : (H : Type) → List (DataW H) → Bool := fun _ ds => decide (uptoBulkAll ds ≤ 1048576)
def OpenSpec.upto (s : _root_.Go.ChangeSpec) : _root_.Go.OpenSpec := { _root_.Go.OpenSpec.ofChange s with cond := some uptoSmall }

/-- 'laws.FnExactIsRow', WHERE WHAT IT READS IS OF BULK AT MOST 1048576: true; the input reads as it did. -/
def fnExactIsRowUptoRow : OpenClaim := { program := "ytejlllmbcakacaa", sum := "ea0eda33fa713aa989a6afda5f07f1976107a84dff508780465c04087408c79b", func := "loop.example/g01332/laws.FnExactIsRow", spec := "fnExactIsRow", apart := false, narrowed := true }
def FnExactIsRowUptoSaid : Prop := fnExactIsRowUptoRow.holds Try.pinned (OpenSpec.upto fnExactIsRowSpec)

/-- 'laws.FnExactCountAtRest', WHERE WHAT IT READS IS OF BULK AT MOST 1048576: true; the input reads as it did. -/
def fnExactCountAtRestUptoRow : OpenClaim := { program := "ytejlllmbcakacaa", sum := "ea0eda33fa713aa989a6afda5f07f1976107a84dff508780465c04087408c79b", func := "loop.example/g01332/laws.FnExactCountAtRest", spec := "fnExactCountAtRest", apart := false, narrowed := true }
def FnExactCountAtRestUptoSaid : Prop := fnExactCountAtRestUptoRow.holds Try.pinned (OpenSpec.upto fnExactCountAtRestSpec)

/-- 'laws.FnExactFacingPairs', WHERE WHAT IT READS IS OF BULK AT MOST 1048576: true; the input reads as it did. -/
def fnExactFacingPairsUptoRow : OpenClaim := { program := "ytejlllmbcakacaa", sum := "ea0eda33fa713aa989a6afda5f07f1976107a84dff508780465c04087408c79b", func := "loop.example/g01332/laws.FnExactFacingPairs", spec := "fnExactFacingPairs", unfollowed := true, recurses := true, apart := false, narrowed := true }
def FnExactFacingPairsUptoSaid : Prop := fnExactFacingPairsUptoRow.holds Try.pinned (OpenSpec.upto fnExactFacingPairsSpec)

/-- 'laws.FnExactTickRow', WHERE WHAT IT READS IS OF BULK AT MOST 1048576: true; the input reads as it did. -/
def fnExactTickRowUptoRow : OpenClaim := { program := "ytejlllmbcakacaa", sum := "ea0eda33fa713aa989a6afda5f07f1976107a84dff508780465c04087408c79b", func := "loop.example/g01332/laws.FnExactTickRow", spec := "fnExactTickRow", unfollowed := true, recurses := true, apart := false, narrowed := true }
def FnExactTickRowUptoSaid : Prop := fnExactTickRowUptoRow.holds Try.pinned (OpenSpec.upto fnExactTickRowSpec)

/-- 'laws.FnExactIsAtRest', WHERE WHAT IT READS IS OF BULK AT MOST 1048576: true; the input reads as it did. -/
def fnExactIsAtRestUptoRow : OpenClaim := { program := "ytejlllmbcakacaa", sum := "ea0eda33fa713aa989a6afda5f07f1976107a84dff508780465c04087408c79b", func := "loop.example/g01332/laws.FnExactIsAtRest", spec := "fnExactIsAtRest", unfollowed := true, recurses := true, apart := false, narrowed := true }
def FnExactIsAtRestUptoSaid : Prop := fnExactIsAtRestUptoRow.holds Try.pinned (OpenSpec.upto fnExactIsAtRestSpec)

/-- 'laws.FnExactMirrorRow', WHERE WHAT IT READS IS OF BULK AT MOST 1048576: true; the input reads as it did. -/
def fnExactMirrorRowUptoRow : OpenClaim := { program := "ytejlllmbcakacaa", sum := "ea0eda33fa713aa989a6afda5f07f1976107a84dff508780465c04087408c79b", func := "loop.example/g01332/laws.FnExactMirrorRow", spec := "fnExactMirrorRow", unfollowed := true, recurses := true, apart := false, narrowed := true }
def FnExactMirrorRowUptoSaid : Prop := fnExactMirrorRowUptoRow.holds Try.pinned (OpenSpec.upto fnExactMirrorRowSpec)

/-- 'laws.FnExactTurnedRow', WHERE WHAT IT READS IS OF BULK AT MOST 1048576: true; the input reads as it did. -/
def fnExactTurnedRowUptoRow : OpenClaim := { program := "ytejlllmbcakacaa", sum := "ea0eda33fa713aa989a6afda5f07f1976107a84dff508780465c04087408c79b", func := "loop.example/g01332/laws.FnExactTurnedRow", spec := "fnExactTurnedRow", unfollowed := true, recurses := true, apart := false, narrowed := true }
def FnExactTurnedRowUptoSaid : Prop := fnExactTurnedRowUptoRow.holds Try.pinned (OpenSpec.upto fnExactTurnedRowSpec)

/-- 'laws.FnExactNumberOfRow', WHERE WHAT IT READS IS OF BULK AT MOST 1048576: true; the input reads as it did. -/
def fnExactNumberOfRowUptoRow : OpenClaim := { program := "ytejlllmbcakacaa", sum := "ea0eda33fa713aa989a6afda5f07f1976107a84dff508780465c04087408c79b", func := "loop.example/g01332/laws.FnExactNumberOfRow", spec := "fnExactNumberOfRow", unfollowed := true, recurses := true, apart := false, narrowed := true }
def FnExactNumberOfRowUptoSaid : Prop := fnExactNumberOfRowUptoRow.holds Try.pinned (OpenSpec.upto fnExactNumberOfRowSpec)

/-- 'laws.FnExactRowOfNumber', WHERE WHAT IT READS IS OF BULK AT MOST 1048576: true; the input reads as it did. -/
def fnExactRowOfNumberUptoRow : OpenClaim := { program := "ytejlllmbcakacaa", sum := "ea0eda33fa713aa989a6afda5f07f1976107a84dff508780465c04087408c79b", func := "loop.example/g01332/laws.FnExactRowOfNumber", spec := "fnExactRowOfNumber", apart := false, narrowed := true }
def FnExactRowOfNumberUptoSaid : Prop := fnExactRowOfNumberUptoRow.holds Try.pinned (OpenSpec.upto fnExactRowOfNumberSpec)

/-- 'laws.FnExactTicksToRest', WHERE WHAT IT READS IS OF BULK AT MOST 1048576: true; the input reads as it did. -/
def fnExactTicksToRestUptoRow : OpenClaim := { program := "ytejlllmbcakacaa", sum := "ea0eda33fa713aa989a6afda5f07f1976107a84dff508780465c04087408c79b", func := "loop.example/g01332/laws.FnExactTicksToRest", spec := "fnExactTicksToRest", unfollowed := true, recurses := true, apart := false, narrowed := true }
def FnExactTicksToRestUptoSaid : Prop := fnExactTicksToRestUptoRow.holds Try.pinned (OpenSpec.upto fnExactTicksToRestSpec)

end Rows
end Go.Proofs.Ytejlllmbcakacaa
