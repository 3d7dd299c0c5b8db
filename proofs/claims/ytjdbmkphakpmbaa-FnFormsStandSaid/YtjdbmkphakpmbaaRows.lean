/-
  No cell of these rows narrows 'for every input' (looked for: loops, veiled, ifaces, maps, wideKeys, modest, calm, conditions, laid).
  DERIVED. THE GIVEN ROWS OF THIS SEAT. 4 by the template 'for every input the law returns true; each argument reads behind the call as it read before'; 0 by the template 'total and deterministic' (their statements: YtjdbmkphakpmbaaTotals.lean).
  GIVEN WITH THE SEED: the statements are not yours to turn. If you find one false, say at which input.
  Laid BY PROGRAM, IN A SANDBOX (cutbox-rows.mjs): the forced cells as the released guide's own fill.sh prints them over the translation 307d272073a17824… (all of the seat's roots in one cut). By AI agents, Wed Nov 11 2026. No macro, syntax, notation, axiom, sorry.
-/
import Derived.Test.YtjdbmkphakpmbaaChecked
import GoSem.Claim
import GoSem.ClaimJoined
import GoSem.ClaimMapViews
import Derived.JoinedTies
import Derived.KernelRfl
namespace Go.Proofs.Ytjdbmkphakpmbaa
/- THE CELL 'sum', in the pinned program and in every row, IS THE sha256 OF THE DUMP (.gsa) THAT YtjdbmkphakpmbaaProg.lean LOADS. Nothing in Lean hashes anything: it is a label: what it is worth is what the hold of that sum in a sandbox is worth. -/
noncomputable def Try.pinned : Pinned := { name := "ytjdbmkphakpmbaa", sum := "307d272073a178248cccfdcc287da64bf1d48036ec64552d571114cb8a114ce1", checked := Try.checked }
namespace Rows
def none {H : Type} : Left H := { results := [], args := [] }

/-- 'laws.FnFormsStand': WHATEVER THE INPUT: true; the input reads as it did. -/
def fnFormsStandSpec : ChangeSpec := { name := "fnFormsStand", fn := fun _ => fun
  | [d1, d2] => { results := [.lit (.bool true)], args := [d1, d2] }
  | _ => none }
def fnFormsStandRow : OpenClaim := { program := "ytjdbmkphakpmbaa", sum := "307d272073a178248cccfdcc287da64bf1d48036ec64552d571114cb8a114ce1", func := "loop.example/g01332/laws.FnFormsStand", spec := "fnFormsStand", unfollowed := true, recurses := true, apart := false }
def FnFormsStandSaid : Prop := fnFormsStandRow.holds Try.pinned (OpenSpec.ofChange fnFormsStandSpec)

/-- ITS FALSE NEIGHBOUR: 'it returns false'. Refute it at one input. -/
def fnFormsStandWrong : ChangeSpec := { name := "fnFormsStand", fn := fun _ => fun
  | [d1, d2] => { results := [.lit (.bool false)], args := [d1, d2] }
  | _ => none }
def FnFormsStandWrongFalsely : Prop := fnFormsStandRow.holds Try.pinned (OpenSpec.ofChange fnFormsStandWrong)

/-- 'laws.FnFormsStandOfAll': WHATEVER THE INPUT: true; the input reads as it did. -/
def fnFormsStandOfAllSpec : ChangeSpec := { name := "fnFormsStandOfAll", fn := fun _ => fun
  | [d1, d2, d3, d4, d5, d6, d7, d8, d9, d10] => { results := [.lit (.bool true)], args := [d1, d2, d3, d4, d5, d6, d7, d8, d9, d10] }
  | _ => none }
def fnFormsStandOfAllRow : OpenClaim := { program := "ytjdbmkphakpmbaa", sum := "307d272073a178248cccfdcc287da64bf1d48036ec64552d571114cb8a114ce1", func := "loop.example/g01332/laws.FnFormsStandOfAll", spec := "fnFormsStandOfAll", unfollowed := true, recurses := true, apart := false }
def FnFormsStandOfAllSaid : Prop := fnFormsStandOfAllRow.holds Try.pinned (OpenSpec.ofChange fnFormsStandOfAllSpec)

/-- ITS FALSE NEIGHBOUR: 'it returns false'. Refute it at one input. -/
def fnFormsStandOfAllWrong : ChangeSpec := { name := "fnFormsStandOfAll", fn := fun _ => fun
  | [d1, d2, d3, d4, d5, d6, d7, d8, d9, d10] => { results := [.lit (.bool false)], args := [d1, d2, d3, d4, d5, d6, d7, d8, d9, d10] }
  | _ => none }
def FnFormsStandOfAllWrongFalsely : Prop := fnFormsStandOfAllRow.holds Try.pinned (OpenSpec.ofChange fnFormsStandOfAllWrong)

/-- 'laws.FnFormsLeft': WHATEVER THE INPUT: true; the input reads as it did. -/
def fnFormsLeftSpec : ChangeSpec := { name := "fnFormsLeft", fn := fun _ => fun
  | [d1, d2] => { results := [.lit (.bool true)], args := [d1, d2] }
  | _ => none }
def fnFormsLeftRow : OpenClaim := { program := "ytjdbmkphakpmbaa", sum := "307d272073a178248cccfdcc287da64bf1d48036ec64552d571114cb8a114ce1", func := "loop.example/g01332/laws.FnFormsLeft", spec := "fnFormsLeft", unfollowed := true, recurses := true, apart := false }
def FnFormsLeftSaid : Prop := fnFormsLeftRow.holds Try.pinned (OpenSpec.ofChange fnFormsLeftSpec)

/-- ITS FALSE NEIGHBOUR: 'it returns false'. Refute it at one input. -/
def fnFormsLeftWrong : ChangeSpec := { name := "fnFormsLeft", fn := fun _ => fun
  | [d1, d2] => { results := [.lit (.bool false)], args := [d1, d2] }
  | _ => none }
def FnFormsLeftWrongFalsely : Prop := fnFormsLeftRow.holds Try.pinned (OpenSpec.ofChange fnFormsLeftWrong)

/-- 'laws.FnFormsLeftOfAll': WHATEVER THE INPUT: true; the input reads as it did. -/
def fnFormsLeftOfAllSpec : ChangeSpec := { name := "fnFormsLeftOfAll", fn := fun _ => fun
  | [d1, d2, d3, d4, d5, d6, d7, d8, d9] => { results := [.lit (.bool true)], args := [d1, d2, d3, d4, d5, d6, d7, d8, d9] }
  | _ => none }
def fnFormsLeftOfAllRow : OpenClaim := { program := "ytjdbmkphakpmbaa", sum := "307d272073a178248cccfdcc287da64bf1d48036ec64552d571114cb8a114ce1", func := "loop.example/g01332/laws.FnFormsLeftOfAll", spec := "fnFormsLeftOfAll", unfollowed := true, recurses := true, apart := false }
def FnFormsLeftOfAllSaid : Prop := fnFormsLeftOfAllRow.holds Try.pinned (OpenSpec.ofChange fnFormsLeftOfAllSpec)

/-- ITS FALSE NEIGHBOUR: 'it returns false'. Refute it at one input. -/
def fnFormsLeftOfAllWrong : ChangeSpec := { name := "fnFormsLeftOfAll", fn := fun _ => fun
  | [d1, d2, d3, d4, d5, d6, d7, d8, d9] => { results := [.lit (.bool false)], args := [d1, d2, d3, d4, d5, d6, d7, d8, d9] }
  | _ => none }
def FnFormsLeftOfAllWrongFalsely : Prop := fnFormsLeftOfAllRow.holds Try.pinned (OpenSpec.ofChange fnFormsLeftOfAllWrong)

/- THE SECOND FORM. 'bulk': how many values and letters a reading holds, each counted each time it is reached (what is shared counts as often as it is met; a slice's spare places count too). A statement '..UptoSaid' is the law's where the arguments, and the package variables that the reading takes, are together of bulk at most 1048576: NARROWER than '..Said'. Prove '..Said' where nothing that the law and all that it calls make is longer than what came in: it says more and counts as full. Else prove '..UptoSaid'. A law counts once. -/
mutual
def uptoBulk {H : Type} : DataW H → Nat
  | .lit (.string bytes) => bytes.length + 1
  | .lit _ => 1
  | .nil => 1
  | .ptr d => uptoBulk d + 1
  | .slice elems spare => uptoBulkAll elems + uptoBulkAll spare + 1
  | .agg parts => uptoBulkAll parts + 1
  | .iface _ d => uptoBulk d + 1
  | .map entries => uptoBulkEntries entries + 1
  | .held _ => 1
def uptoBulkAll {H : Type} : List (DataW H) → Nat
  | [] => 0
  | d :: r => uptoBulk d + uptoBulkAll r
def uptoBulkEntries {H : Type} : List (Lit × DataW H) → Nat
  | [] => 0
  | x :: r => uptoBulkEntry x + uptoBulkEntries r
def uptoBulkEntry {H : Type} : Lit × DataW H → Nat
  | (.string bytes, d) => bytes.length + uptoBulk d + 1
  | (_, d) => uptoBulk d + 1
 end
def uptoSmall : (H : Type) → List (DataW H) → Bool := fun _ ds => decide (uptoBulkAll ds ≤ 1048576)
def OpenSpec.upto (s : _root_.Go.ChangeSpec) : _root_.Go.OpenSpec := { _root_.Go.OpenSpec.ofChange s with cond := some uptoSmall }

/-- 'laws.FnFormsStand', WHERE WHAT IT READS IS OF BULK AT MOST 1048576: true; the input reads as it did. -/
def fnFormsStandUptoRow : OpenClaim := { program := "ytjdbmkphakpmbaa", sum := "307d272073a178248cccfdcc287da64bf1d48036ec64552d571114cb8a114ce1", func := "loop.example/g01332/laws.FnFormsStand", spec := "fnFormsStand", unfollowed := true, recurses := true, apart := false, narrowed := true }
def FnFormsStandUptoSaid : Prop := fnFormsStandUptoRow.holds Try.pinned (OpenSpec.upto fnFormsStandSpec)

/-- 'laws.FnFormsStandOfAll', WHERE WHAT IT READS IS OF BULK AT MOST 1048576: true; the input reads as it did. -/
def fnFormsStandOfAllUptoRow : OpenClaim := { program := "ytjdbmkphakpmbaa", sum := "307d272073a178248cccfdcc287da64bf1d48036ec64552d571114cb8a114ce1", func := "loop.example/g01332/laws.FnFormsStandOfAll", spec := "fnFormsStandOfAll", unfollowed := true, recurses := true, apart := false, narrowed := true }
def FnFormsStandOfAllUptoSaid : Prop := fnFormsStandOfAllUptoRow.holds Try.pinned (OpenSpec.upto fnFormsStandOfAllSpec)

/-- 'laws.FnFormsLeft', WHERE WHAT IT READS IS OF BULK AT MOST 1048576: true; the input reads as it did. -/
def fnFormsLeftUptoRow : OpenClaim := { program := "ytjdbmkphakpmbaa", sum := "307d272073a178248cccfdcc287da64bf1d48036ec64552d571114cb8a114ce1", func := "loop.example/g01332/laws.FnFormsLeft", spec := "fnFormsLeft", unfollowed := true, recurses := true, apart := false, narrowed := true }
def FnFormsLeftUptoSaid : Prop := fnFormsLeftUptoRow.holds Try.pinned (OpenSpec.upto fnFormsLeftSpec)

/-- 'laws.FnFormsLeftOfAll', WHERE WHAT IT READS IS OF BULK AT MOST 1048576: true; the input reads as it did. -/
def fnFormsLeftOfAllUptoRow : OpenClaim := { program := "ytjdbmkphakpmbaa", sum := "307d272073a178248cccfdcc287da64bf1d48036ec64552d571114cb8a114ce1", func := "loop.example/g01332/laws.FnFormsLeftOfAll", spec := "fnFormsLeftOfAll", unfollowed := true, recurses := true, apart := false, narrowed := true }
def FnFormsLeftOfAllUptoSaid : Prop := fnFormsLeftOfAllUptoRow.holds Try.pinned (OpenSpec.upto fnFormsLeftOfAllSpec)

end Rows
end Go.Proofs.Ytjdbmkphakpmbaa
