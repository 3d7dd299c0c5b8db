/-
  No cell of these rows narrows 'for every input' (looked for: loops, veiled, ifaces, maps, wideKeys, modest, calm, conditions, laid).
  DERIVED. THE GIVEN ROWS OF THIS SEAT. 6 by the template 'for every input the law returns true; each argument reads behind the call as it read before'; 0 by the template 'total and deterministic' (their statements: YtnajlnghhboelabTotals.lean).
  GIVEN WITH THE SEED: the statements are not yours to turn. If you find one false, say at which input.
  Laid BY PROGRAM, IN A SANDBOX (cutbox-rows.mjs): the forced cells as the released guide's own fill.sh prints them over the translation 1005a60ff478bfa2… (all of the seat's roots in one cut). By AI agents, Wed Nov 11 2026. No macro, syntax, notation, axiom, sorry.
-/
import Derived.Test.YtnajlnghhboelabChecked
import GoSem.Claim
import GoSem.ClaimJoined
import GoSem.ClaimMapViews
import Derived.JoinedTies
import Derived.KernelRfl
namespace Go.Proofs.Ytnajlnghhboelab
/- THE CELL 'sum', in the pinned program and in every row, IS THE sha256 OF THE DUMP (.gsa) THAT YtnajlnghhboelabProg.lean LOADS. Nothing in Lean hashes anything: it is a label: what it is worth is what the hold of that sum in a sandbox is worth. -/
noncomputable def Try.pinned : Pinned := { name := "ytnajlnghhboelab", sum := "1005a60ff478bfa26f639d51748b59ed3881671711f3b473adb7b1824018929b", checked := Try.checked }
namespace Rows
def none {H : Type} : Left H := { results := [], args := [] }

/-- 'laws.FnExactPairsSeeing': WHATEVER THE INPUT: true; the input reads as it did. -/
def fnExactPairsSeeingSpec : ChangeSpec := { name := "fnExactPairsSeeing", fn := fun _ => fun
  | [d] => { results := [.lit (.bool true)], args := [d] }
  | _ => none }
def fnExactPairsSeeingRow : OpenClaim := { program := "ytnajlnghhboelab", sum := "1005a60ff478bfa26f639d51748b59ed3881671711f3b473adb7b1824018929b", func := "loop.example/g01332/laws.FnExactPairsSeeing", spec := "fnExactPairsSeeing", unfollowed := true, recurses := true, plainKeys := false, apart := false }
def FnExactPairsSeeingSaid : Prop := fnExactPairsSeeingRow.holds Try.pinned (OpenSpec.ofChange fnExactPairsSeeingSpec)

/-- ITS FALSE NEIGHBOUR: 'it returns false'. Refute it at one input. -/
def fnExactPairsSeeingWrong : ChangeSpec := { name := "fnExactPairsSeeing", fn := fun _ => fun
  | [d] => { results := [.lit (.bool false)], args := [d] }
  | _ => none }
def FnExactPairsSeeingWrongFalsely : Prop := fnExactPairsSeeingRow.holds Try.pinned (OpenSpec.ofChange fnExactPairsSeeingWrong)

/-- 'laws.FnExactLongestRising': WHATEVER THE INPUT: true; the input reads as it did. -/
def fnExactLongestRisingSpec : ChangeSpec := { name := "fnExactLongestRising", fn := fun _ => fun
  | [d] => { results := [.lit (.bool true)], args := [d] }
  | _ => none }
def fnExactLongestRisingRow : OpenClaim := { program := "ytnajlnghhboelab", sum := "1005a60ff478bfa26f639d51748b59ed3881671711f3b473adb7b1824018929b", func := "loop.example/g01332/laws.FnExactLongestRising", spec := "fnExactLongestRising", unfollowed := true, recurses := true, plainKeys := false, apart := false }
def FnExactLongestRisingSaid : Prop := fnExactLongestRisingRow.holds Try.pinned (OpenSpec.ofChange fnExactLongestRisingSpec)

/-- ITS FALSE NEIGHBOUR: 'it returns false'. Refute it at one input. -/
def fnExactLongestRisingWrong : ChangeSpec := { name := "fnExactLongestRising", fn := fun _ => fun
  | [d] => { results := [.lit (.bool false)], args := [d] }
  | _ => none }
def FnExactLongestRisingWrongFalsely : Prop := fnExactLongestRisingRow.holds Try.pinned (OpenSpec.ofChange fnExactLongestRisingWrong)

/-- 'laws.FnExactLongestMountain': WHATEVER THE INPUT: true; the input reads as it did. -/
def fnExactLongestMountainSpec : ChangeSpec := { name := "fnExactLongestMountain", fn := fun _ => fun
  | [d] => { results := [.lit (.bool true)], args := [d] }
  | _ => none }
def fnExactLongestMountainRow : OpenClaim := { program := "ytnajlnghhboelab", sum := "1005a60ff478bfa26f639d51748b59ed3881671711f3b473adb7b1824018929b", func := "loop.example/g01332/laws.FnExactLongestMountain", spec := "fnExactLongestMountain", unfollowed := true, recurses := true, plainKeys := false, apart := false }
def FnExactLongestMountainSaid : Prop := fnExactLongestMountainRow.holds Try.pinned (OpenSpec.ofChange fnExactLongestMountainSpec)

/-- ITS FALSE NEIGHBOUR: 'it returns false'. Refute it at one input. -/
def fnExactLongestMountainWrong : ChangeSpec := { name := "fnExactLongestMountain", fn := fun _ => fun
  | [d] => { results := [.lit (.bool false)], args := [d] }
  | _ => none }
def FnExactLongestMountainWrongFalsely : Prop := fnExactLongestMountainRow.holds Try.pinned (OpenSpec.ofChange fnExactLongestMountainWrong)

/-- 'laws.FnExactFewestToLeave': WHATEVER THE INPUT: true; the input reads as it did. -/
def fnExactFewestToLeaveSpec : ChangeSpec := { name := "fnExactFewestToLeave", fn := fun _ => fun
  | [d] => { results := [.lit (.bool true)], args := [d] }
  | _ => none }
def fnExactFewestToLeaveRow : OpenClaim := { program := "ytnajlnghhboelab", sum := "1005a60ff478bfa26f639d51748b59ed3881671711f3b473adb7b1824018929b", func := "loop.example/g01332/laws.FnExactFewestToLeave", spec := "fnExactFewestToLeave", unfollowed := true, recurses := true, plainKeys := false, apart := false }
def FnExactFewestToLeaveSaid : Prop := fnExactFewestToLeaveRow.holds Try.pinned (OpenSpec.ofChange fnExactFewestToLeaveSpec)

/-- ITS FALSE NEIGHBOUR: 'it returns false'. Refute it at one input. -/
def fnExactFewestToLeaveWrong : ChangeSpec := { name := "fnExactFewestToLeave", fn := fun _ => fun
  | [d] => { results := [.lit (.bool false)], args := [d] }
  | _ => none }
def FnExactFewestToLeaveWrongFalsely : Prop := fnExactFewestToLeaveRow.holds Try.pinned (OpenSpec.ofChange fnExactFewestToLeaveWrong)

/-- 'laws.FnExactCountBySeen': WHATEVER THE INPUT: true; the input reads as it did. -/
def fnExactCountBySeenSpec : ChangeSpec := { name := "fnExactCountBySeen", fn := fun _ => fun
  | [d1, d2, d3] => { results := [.lit (.bool true)], args := [d1, d2, d3] }
  | _ => none }
def fnExactCountBySeenRow : OpenClaim := { program := "ytnajlnghhboelab", sum := "1005a60ff478bfa26f639d51748b59ed3881671711f3b473adb7b1824018929b", func := "loop.example/g01332/laws.FnExactCountBySeen", spec := "fnExactCountBySeen", plainKeys := false, apart := false }
def FnExactCountBySeenSaid : Prop := fnExactCountBySeenRow.holds Try.pinned (OpenSpec.ofChange fnExactCountBySeenSpec)

/-- ITS FALSE NEIGHBOUR: 'it returns false'. Refute it at one input. -/
def fnExactCountBySeenWrong : ChangeSpec := { name := "fnExactCountBySeen", fn := fun _ => fun
  | [d1, d2, d3] => { results := [.lit (.bool false)], args := [d1, d2, d3] }
  | _ => none }
def FnExactCountBySeenWrongFalsely : Prop := fnExactCountBySeenRow.holds Try.pinned (OpenSpec.ofChange fnExactCountBySeenWrong)

/-- 'laws.FnExactMeanSeen': WHATEVER THE INPUT: true; the input reads as it did. -/
def fnExactMeanSeenSpec : ChangeSpec := { name := "fnExactMeanSeen", fn := fun _ => fun
  | [d] => { results := [.lit (.bool true)], args := [d] }
  | _ => none }
def fnExactMeanSeenRow : OpenClaim := { program := "ytnajlnghhboelab", sum := "1005a60ff478bfa26f639d51748b59ed3881671711f3b473adb7b1824018929b", func := "loop.example/g01332/laws.FnExactMeanSeen", spec := "fnExactMeanSeen", plainKeys := false, apart := false }
def FnExactMeanSeenSaid : Prop := fnExactMeanSeenRow.holds Try.pinned (OpenSpec.ofChange fnExactMeanSeenSpec)

/-- ITS FALSE NEIGHBOUR: 'it returns false'. Refute it at one input. -/
def fnExactMeanSeenWrong : ChangeSpec := { name := "fnExactMeanSeen", fn := fun _ => fun
  | [d] => { results := [.lit (.bool false)], args := [d] }
  | _ => none }
def FnExactMeanSeenWrongFalsely : Prop := fnExactMeanSeenRow.holds Try.pinned (OpenSpec.ofChange fnExactMeanSeenWrong)

/- THE SECOND FORM. 'bulk': how many values and letters a reading holds, each counted each time it is reached (what is shared counts as often as it is met; a slice's spare places count too). A statement '..UptoSaid' is the law's where the arguments, and the package variables that the reading takes, are together of bulk at most 1048576: NARROWER than '..Said'. Prove '..Said' where nothing that the law and all that it calls make is longer than what came in: it says more and counts as full. Else prove '..UptoSaid'. A law counts once. -/
mutual
def uptoBulk {H : Type} : DataW H → Nat
  | .lit (.string bytes) => bytes.length + 1
  | .lit _ => 1
  | .nil => 1
  | .ptr d => uptoBulk d + 1
  | .slice elems spare => uptoBulkAll elems + uptoBulkAll spare + 1
  | .agg parts => uptoBulkAll parts + 1
  | .iface _ d => uptoBulk d + 1
  | .map entries => uptoBulkEntries entries + 1
  | .held _ => 1
def uptoBulkAll {H : Type} : List (DataW H) → Nat
  | [] => 0
  | d :: r => uptoBulk d + uptoBulkAll r
def uptoBulkEntries {H : Type} : List (Lit × DataW H) → Nat
  | [] => 0
  | x :: r => uptoBulkEntry x + uptoBulkEntries r
def uptoBulkEntry {H : Type} : Lit × DataW H → Nat
  | (.string bytes, d) => bytes.length + uptoBulk d + 1
  | (_, d) => uptoBulk d + 1
 end
def uptoSmall : (H : Type) → List (DataW H) → Bool := fun _ ds => decide (uptoBulkAll ds ≤ 1048576)
def OpenSpec.upto (s : _root_.Go.ChangeSpec) : _root_.Go.OpenSpec := { _root_.Go.OpenSpec.ofChange s with cond := some uptoSmall }

/-- 'laws.FnExactPairsSeeing', WHERE WHAT IT READS IS OF BULK AT MOST 1048576: true; the input reads as it did. -/
def fnExactPairsSeeingUptoRow : OpenClaim := { program := "ytnajlnghhboelab", sum := "1005a60ff478bfa26f639d51748b59ed3881671711f3b473adb7b1824018929b", func := "loop.example/g01332/laws.FnExactPairsSeeing", spec := "fnExactPairsSeeing", unfollowed := true, recurses := true, plainKeys := false, apart := false, narrowed := true }
def FnExactPairsSeeingUptoSaid : Prop := fnExactPairsSeeingUptoRow.holds Try.pinned (OpenSpec.upto fnExactPairsSeeingSpec)

/-- 'laws.FnExactLongestRising', WHERE WHAT IT READS IS OF BULK AT MOST 1048576: true; the input reads as it did. -/
def fnExactLongestRisingUptoRow : OpenClaim := { program := "ytnajlnghhboelab", sum := "1005a60ff478bfa26f639d51748b59ed3881671711f3b473adb7b1824018929b", func := "loop.example/g01332/laws.FnExactLongestRising", spec := "fnExactLongestRising", unfollowed := true, recurses := true, plainKeys := false, apart := false, narrowed := true }
def FnExactLongestRisingUptoSaid : Prop := fnExactLongestRisingUptoRow.holds Try.pinned (OpenSpec.upto fnExactLongestRisingSpec)

/-- 'laws.FnExactLongestMountain', WHERE WHAT IT READS IS OF BULK AT MOST 1048576: true; the input reads as it did. -/
def fnExactLongestMountainUptoRow : OpenClaim := { program := "ytnajlnghhboelab", sum := "1005a60ff478bfa26f639d51748b59ed3881671711f3b473adb7b1824018929b", func := "loop.example/g01332/laws.FnExactLongestMountain", spec := "fnExactLongestMountain", unfollowed := true, recurses := true, plainKeys := false, apart := false, narrowed := true }
def FnExactLongestMountainUptoSaid : Prop := fnExactLongestMountainUptoRow.holds Try.pinned (OpenSpec.upto fnExactLongestMountainSpec)

/-- 'laws.FnExactFewestToLeave', WHERE WHAT IT READS IS OF BULK AT MOST 1048576: true; the input reads as it did. -/
def fnExactFewestToLeaveUptoRow : OpenClaim := { program := "ytnajlnghhboelab", sum := "1005a60ff478bfa26f639d51748b59ed3881671711f3b473adb7b1824018929b", func := "loop.example/g01332/laws.FnExactFewestToLeave", spec := "fnExactFewestToLeave", unfollowed := true, recurses := true, plainKeys := false, apart := false, narrowed := true }
def FnExactFewestToLeaveUptoSaid : Prop := fnExactFewestToLeaveUptoRow.holds Try.pinned (OpenSpec.upto fnExactFewestToLeaveSpec)

/-- 'laws.FnExactCountBySeen', WHERE WHAT IT READS IS OF BULK AT MOST 1048576: true; the input reads as it did. -/
def fnExactCountBySeenUptoRow : OpenClaim := { program := "ytnajlnghhboelab", sum := "1005a60ff478bfa26f639d51748b59ed3881671711f3b473adb7b1824018929b", func := "loop.example/g01332/laws.FnExactCountBySeen", spec := "fnExactCountBySeen", plainKeys := false, apart := false, narrowed := true }
def FnExactCountBySeenUptoSaid : Prop := fnExactCountBySeenUptoRow.holds Try.pinned (OpenSpec.upto fnExactCountBySeenSpec)

/-- 'laws.FnExactMeanSeen', WHERE WHAT IT READS IS OF BULK AT MOST 1048576: true; the input reads as it did. -/
def fnExactMeanSeenUptoRow : OpenClaim := { program := "ytnajlnghhboelab", sum := "1005a60ff478bfa26f639d51748b59ed3881671711f3b473adb7b1824018929b", func := "loop.example/g01332/laws.FnExactMeanSeen", spec := "fnExactMeanSeen", plainKeys := false, apart := false, narrowed := true }
def FnExactMeanSeenUptoSaid : Prop := fnExactMeanSeenUptoRow.holds Try.pinned (OpenSpec.upto fnExactMeanSeenSpec)

end Rows
end Go.Proofs.Ytnajlnghhboelab
