/-
  No cell of these rows narrows 'for every input' (looked for: loops, veiled, ifaces, maps, wideKeys, modest, calm, conditions, laid).
  DERIVED. THE GIVEN ROWS OF THIS SEAT. 10 by the template 'for every input the law returns true; each argument reads behind the call as it read before'; 0 by the template 'total and deterministic' (their statements: YtmlamcimncfmcaaTotals.lean).
  GIVEN WITH THE SEED: the statements are not yours to turn. If you find one false, say at which input.
  Laid BY PROGRAM, IN A SANDBOX (cutbox-rows.mjs): the forced cells as the released guide's own fill.sh prints them over the translation 20dc0f48129a1246… (all of the seat's roots in one cut). By AI agents, Wed Nov 11 2026. No macro, syntax, notation, axiom, sorry.
-/
import Derived.Test.YtmlamcimncfmcaaChecked
import GoSem.Claim
import GoSem.ClaimJoined
import GoSem.ClaimMapViews
import Derived.JoinedTies
import Derived.KernelRfl
namespace Go.Proofs.Ytmlamcimncfmcaa
/- THE CELL 'sum', in the pinned program and in every row, IS THE sha256 OF THE DUMP (.gsa) THAT YtmlamcimncfmcaaProg.lean LOADS. Nothing in Lean hashes anything: it is a label: what it is worth is what the hold of that sum in a sandbox is worth. -/
noncomputable def Try.pinned : Pinned := { name := "ytmlamcimncfmcaa", sum := "20dc0f48129a1246629108632f55cdee0ba2afe9ed1cfdbb4b8c96c1faf7d501", checked := Try.checked }
namespace Rows
def none {H : Type} : Left H := { results := [], args := [] }

/-- 'laws.FnExactAreSignals': WHATEVER THE INPUT: true; the input reads as it did. -/
def fnExactAreSignalsSpec : ChangeSpec := { name := "fnExactAreSignals", fn := fun _ => fun
  | [d1, d2] => { results := [.lit (.bool true)], args := [d1, d2] }
  | _ => none }
def fnExactAreSignalsRow : OpenClaim := { program := "ytmlamcimncfmcaa", sum := "20dc0f48129a1246629108632f55cdee0ba2afe9ed1cfdbb4b8c96c1faf7d501", func := "loop.example/g01332/laws.FnExactAreSignals", spec := "fnExactAreSignals", apart := false }
def FnExactAreSignalsSaid : Prop := fnExactAreSignalsRow.holds Try.pinned (OpenSpec.ofChange fnExactAreSignalsSpec)

/-- ITS FALSE NEIGHBOUR: 'it returns false'. Refute it at one input. -/
def fnExactAreSignalsWrong : ChangeSpec := { name := "fnExactAreSignals", fn := fun _ => fun
  | [d1, d2] => { results := [.lit (.bool false)], args := [d1, d2] }
  | _ => none }
def FnExactAreSignalsWrongFalsely : Prop := fnExactAreSignalsRow.holds Try.pinned (OpenSpec.ofChange fnExactAreSignalsWrong)

/-- 'laws.FnExactSignalAt': WHATEVER THE INPUT: true; the input reads as it did. -/
def fnExactSignalAtSpec : ChangeSpec := { name := "fnExactSignalAt", fn := fun _ => fun
  | [d1, d2, d3] => { results := [.lit (.bool true)], args := [d1, d2, d3] }
  | _ => none }
def fnExactSignalAtRow : OpenClaim := { program := "ytmlamcimncfmcaa", sum := "20dc0f48129a1246629108632f55cdee0ba2afe9ed1cfdbb4b8c96c1faf7d501", func := "loop.example/g01332/laws.FnExactSignalAt", spec := "fnExactSignalAt", apart := false }
def FnExactSignalAtSaid : Prop := fnExactSignalAtRow.holds Try.pinned (OpenSpec.ofChange fnExactSignalAtSpec)

/-- ITS FALSE NEIGHBOUR: 'it returns false'. Refute it at one input. -/
def fnExactSignalAtWrong : ChangeSpec := { name := "fnExactSignalAt", fn := fun _ => fun
  | [d1, d2, d3] => { results := [.lit (.bool false)], args := [d1, d2, d3] }
  | _ => none }
def FnExactSignalAtWrongFalsely : Prop := fnExactSignalAtRow.holds Try.pinned (OpenSpec.ofChange fnExactSignalAtWrong)

/-- 'laws.FnExactSignalPeriod': WHATEVER THE INPUT: true; the input reads as it did. -/
def fnExactSignalPeriodSpec : ChangeSpec := { name := "fnExactSignalPeriod", fn := fun _ => fun
  | [d1, d2] => { results := [.lit (.bool true)], args := [d1, d2] }
  | _ => none }
def fnExactSignalPeriodRow : OpenClaim := { program := "ytmlamcimncfmcaa", sum := "20dc0f48129a1246629108632f55cdee0ba2afe9ed1cfdbb4b8c96c1faf7d501", func := "loop.example/g01332/laws.FnExactSignalPeriod", spec := "fnExactSignalPeriod", apart := false }
def FnExactSignalPeriodSaid : Prop := fnExactSignalPeriodRow.holds Try.pinned (OpenSpec.ofChange fnExactSignalPeriodSpec)

/-- ITS FALSE NEIGHBOUR: 'it returns false'. Refute it at one input. -/
def fnExactSignalPeriodWrong : ChangeSpec := { name := "fnExactSignalPeriod", fn := fun _ => fun
  | [d1, d2] => { results := [.lit (.bool false)], args := [d1, d2] }
  | _ => none }
def FnExactSignalPeriodWrongFalsely : Prop := fnExactSignalPeriodRow.holds Try.pinned (OpenSpec.ofChange fnExactSignalPeriodWrong)

/-- 'laws.FnExactTimesAt': WHATEVER THE INPUT: true; the input reads as it did. -/
def fnExactTimesAtSpec : ChangeSpec := { name := "fnExactTimesAt", fn := fun _ => fun
  | [d1, d2, d3, d4] => { results := [.lit (.bool true)], args := [d1, d2, d3, d4] }
  | _ => none }
def fnExactTimesAtRow : OpenClaim := { program := "ytmlamcimncfmcaa", sum := "20dc0f48129a1246629108632f55cdee0ba2afe9ed1cfdbb4b8c96c1faf7d501", func := "loop.example/g01332/laws.FnExactTimesAt", spec := "fnExactTimesAt", apart := false }
def FnExactTimesAtSaid : Prop := fnExactTimesAtRow.holds Try.pinned (OpenSpec.ofChange fnExactTimesAtSpec)

/-- ITS FALSE NEIGHBOUR: 'it returns false'. Refute it at one input. -/
def fnExactTimesAtWrong : ChangeSpec := { name := "fnExactTimesAt", fn := fun _ => fun
  | [d1, d2, d3, d4] => { results := [.lit (.bool false)], args := [d1, d2, d3, d4] }
  | _ => none }
def FnExactTimesAtWrongFalsely : Prop := fnExactTimesAtRow.holds Try.pinned (OpenSpec.ofChange fnExactTimesAtWrong)

/-- 'laws.FnExactFirstMeeting': WHATEVER THE INPUT: true; the input reads as it did. -/
def fnExactFirstMeetingSpec : ChangeSpec := { name := "fnExactFirstMeeting", fn := fun _ => fun
  | [d1, d2, d3] => { results := [.lit (.bool true)], args := [d1, d2, d3] }
  | _ => none }
def fnExactFirstMeetingRow : OpenClaim := { program := "ytmlamcimncfmcaa", sum := "20dc0f48129a1246629108632f55cdee0ba2afe9ed1cfdbb4b8c96c1faf7d501", func := "loop.example/g01332/laws.FnExactFirstMeeting", spec := "fnExactFirstMeeting", apart := false }
def FnExactFirstMeetingSaid : Prop := fnExactFirstMeetingRow.holds Try.pinned (OpenSpec.ofChange fnExactFirstMeetingSpec)

/-- ITS FALSE NEIGHBOUR: 'it returns false'. Refute it at one input. -/
def fnExactFirstMeetingWrong : ChangeSpec := { name := "fnExactFirstMeeting", fn := fun _ => fun
  | [d1, d2, d3] => { results := [.lit (.bool false)], args := [d1, d2, d3] }
  | _ => none }
def FnExactFirstMeetingWrongFalsely : Prop := fnExactFirstMeetingRow.holds Try.pinned (OpenSpec.ofChange fnExactFirstMeetingWrong)

/-- 'laws.FnExactCountMeetings': WHATEVER THE INPUT: true; the input reads as it did. -/
def fnExactCountMeetingsSpec : ChangeSpec := { name := "fnExactCountMeetings", fn := fun _ => fun
  | [d1, d2, d3, d4] => { results := [.lit (.bool true)], args := [d1, d2, d3, d4] }
  | _ => none }
def fnExactCountMeetingsRow : OpenClaim := { program := "ytmlamcimncfmcaa", sum := "20dc0f48129a1246629108632f55cdee0ba2afe9ed1cfdbb4b8c96c1faf7d501", func := "loop.example/g01332/laws.FnExactCountMeetings", spec := "fnExactCountMeetings", apart := false }
def FnExactCountMeetingsSaid : Prop := fnExactCountMeetingsRow.holds Try.pinned (OpenSpec.ofChange fnExactCountMeetingsSpec)

/-- ITS FALSE NEIGHBOUR: 'it returns false'. Refute it at one input. -/
def fnExactCountMeetingsWrong : ChangeSpec := { name := "fnExactCountMeetings", fn := fun _ => fun
  | [d1, d2, d3, d4] => { results := [.lit (.bool false)], args := [d1, d2, d3, d4] }
  | _ => none }
def FnExactCountMeetingsWrongFalsely : Prop := fnExactCountMeetingsRow.holds Try.pinned (OpenSpec.ofChange fnExactCountMeetingsWrong)

/-- 'laws.FnExactHeardBy': WHATEVER THE INPUT: true; the input reads as it did. -/
def fnExactHeardBySpec : ChangeSpec := { name := "fnExactHeardBy", fn := fun _ => fun
  | [d1, d2, d3] => { results := [.lit (.bool true)], args := [d1, d2, d3] }
  | _ => none }
def fnExactHeardByRow : OpenClaim := { program := "ytmlamcimncfmcaa", sum := "20dc0f48129a1246629108632f55cdee0ba2afe9ed1cfdbb4b8c96c1faf7d501", func := "loop.example/g01332/laws.FnExactHeardBy", spec := "fnExactHeardBy", apart := false }
def FnExactHeardBySaid : Prop := fnExactHeardByRow.holds Try.pinned (OpenSpec.ofChange fnExactHeardBySpec)

/-- ITS FALSE NEIGHBOUR: 'it returns false'. Refute it at one input. -/
def fnExactHeardByWrong : ChangeSpec := { name := "fnExactHeardBy", fn := fun _ => fun
  | [d1, d2, d3] => { results := [.lit (.bool false)], args := [d1, d2, d3] }
  | _ => none }
def FnExactHeardByWrongFalsely : Prop := fnExactHeardByRow.holds Try.pinned (OpenSpec.ofChange fnExactHeardByWrong)

/-- 'laws.FnExactTimeAllHear': WHATEVER THE INPUT: true; the input reads as it did. -/
def fnExactTimeAllHearSpec : ChangeSpec := { name := "fnExactTimeAllHear", fn := fun _ => fun
  | [d1, d2] => { results := [.lit (.bool true)], args := [d1, d2] }
  | _ => none }
def fnExactTimeAllHearRow : OpenClaim := { program := "ytmlamcimncfmcaa", sum := "20dc0f48129a1246629108632f55cdee0ba2afe9ed1cfdbb4b8c96c1faf7d501", func := "loop.example/g01332/laws.FnExactTimeAllHear", spec := "fnExactTimeAllHear", apart := false }
def FnExactTimeAllHearSaid : Prop := fnExactTimeAllHearRow.holds Try.pinned (OpenSpec.ofChange fnExactTimeAllHearSpec)

/-- ITS FALSE NEIGHBOUR: 'it returns false'. Refute it at one input. -/
def fnExactTimeAllHearWrong : ChangeSpec := { name := "fnExactTimeAllHear", fn := fun _ => fun
  | [d1, d2] => { results := [.lit (.bool false)], args := [d1, d2] }
  | _ => none }
def FnExactTimeAllHearWrongFalsely : Prop := fnExactTimeAllHearRow.holds Try.pinned (OpenSpec.ofChange fnExactTimeAllHearWrong)

/-- 'laws.FnExactMiddleMeeting': WHATEVER THE INPUT: true; the input reads as it did. -/
def fnExactMiddleMeetingSpec : ChangeSpec := { name := "fnExactMiddleMeeting", fn := fun _ => fun
  | [d] => { results := [.lit (.bool true)], args := [d] }
  | _ => none }
def fnExactMiddleMeetingRow : OpenClaim := { program := "ytmlamcimncfmcaa", sum := "20dc0f48129a1246629108632f55cdee0ba2afe9ed1cfdbb4b8c96c1faf7d501", func := "loop.example/g01332/laws.FnExactMiddleMeeting", spec := "fnExactMiddleMeeting", apart := false }
def FnExactMiddleMeetingSaid : Prop := fnExactMiddleMeetingRow.holds Try.pinned (OpenSpec.ofChange fnExactMiddleMeetingSpec)

/-- ITS FALSE NEIGHBOUR: 'it returns false'. Refute it at one input. -/
def fnExactMiddleMeetingWrong : ChangeSpec := { name := "fnExactMiddleMeeting", fn := fun _ => fun
  | [d] => { results := [.lit (.bool false)], args := [d] }
  | _ => none }
def FnExactMiddleMeetingWrongFalsely : Prop := fnExactMiddleMeetingRow.holds Try.pinned (OpenSpec.ofChange fnExactMiddleMeetingWrong)

/-- 'laws.FnExactLeastTimeWith': WHATEVER THE INPUT: true; the input reads as it did. -/
def fnExactLeastTimeWithSpec : ChangeSpec := { name := "fnExactLeastTimeWith", fn := fun _ => fun
  | [d1, d2] => { results := [.lit (.bool true)], args := [d1, d2] }
  | _ => none }
def fnExactLeastTimeWithRow : OpenClaim := { program := "ytmlamcimncfmcaa", sum := "20dc0f48129a1246629108632f55cdee0ba2afe9ed1cfdbb4b8c96c1faf7d501", func := "loop.example/g01332/laws.FnExactLeastTimeWith", spec := "fnExactLeastTimeWith", apart := false }
def FnExactLeastTimeWithSaid : Prop := fnExactLeastTimeWithRow.holds Try.pinned (OpenSpec.ofChange fnExactLeastTimeWithSpec)

/-- ITS FALSE NEIGHBOUR: 'it returns false'. Refute it at one input. -/
def fnExactLeastTimeWithWrong : ChangeSpec := { name := "fnExactLeastTimeWith", fn := fun _ => fun
  | [d1, d2] => { results := [.lit (.bool false)], args := [d1, d2] }
  | _ => none }
def FnExactLeastTimeWithWrongFalsely : Prop := fnExactLeastTimeWithRow.holds Try.pinned (OpenSpec.ofChange fnExactLeastTimeWithWrong)

/- THE SECOND FORM. 'bulk': how many values and letters a reading holds, each counted each time it is reached (what is shared counts as often as it is met; a slice's spare places count too). A statement '..UptoSaid' is the law's where the arguments, and the package variables that the reading takes, are together of bulk at most 1048576: NARROWER than '..Said'. Prove '..Said' where nothing that the law and all that it calls make is longer than what came in: it says more and counts as full. Else prove '..UptoSaid'. A law counts once. -/
mutual
def uptoBulk {H : Type} : DataW H → Nat
  | .lit (.string bytes) => bytes.length + 1
  | .lit _ => 1
  | .nil => 1
  | .ptr d => uptoBulk d + 1
  | .slice elems spare => uptoBulkAll elems + uptoBulkAll spare + 1
  | .agg parts => uptoBulkAll parts + 1
  | .iface _ d => uptoBulk d + 1
  | .map entries => uptoBulkEntries entries + 1
  | .held _ => 1
def uptoBulkAll {H : Type} : List (DataW H) → Nat
  | [] => 0
  | d :: r => uptoBulk d + uptoBulkAll r
def uptoBulkEntries {H : Type} : List (Lit × DataW H) → Nat
  | [] => 0
  | x :: r => uptoBulkEntry x + uptoBulkEntries r
def uptoBulkEntry {H : Type} : Lit × DataW H → Nat
  | (.string bytes, d) => bytes.length + uptoBulk d + 1
  | (_, d) => uptoBulk d + 1
 end
def uptoSmall : (H : Type) → List (DataW H) → Bool := fun _ ds => decide (uptoBulkAll ds ≤ 1048576)
def OpenSpec.upto (s : _root_.Go.ChangeSpec) : _root_.Go.OpenSpec := { _root_.Go.OpenSpec.ofChange s with cond := some uptoSmall }

/-- 'laws.FnExactAreSignals', WHERE WHAT IT READS IS OF BULK AT MOST 1048576: true; the input reads as it did. -/
def fnExactAreSignalsUptoRow : OpenClaim := { program := "ytmlamcimncfmcaa", sum := "20dc0f48129a1246629108632f55cdee0ba2afe9ed1cfdbb4b8c96c1faf7d501", func := "loop.example/g01332/laws.FnExactAreSignals", spec := "fnExactAreSignals", apart := false, narrowed := true }
def FnExactAreSignalsUptoSaid : Prop := fnExactAreSignalsUptoRow.holds Try.pinned (OpenSpec.upto fnExactAreSignalsSpec)

/-- 'laws.FnExactSignalAt', WHERE WHAT IT READS IS OF BULK AT MOST 1048576: true; the input reads as it did. -/
def fnExactSignalAtUptoRow : OpenClaim := { program := "ytmlamcimncfmcaa", sum := "20dc0f48129a1246629108632f55cdee0ba2afe9ed1cfdbb4b8c96c1faf7d501", func := "loop.example/g01332/laws.FnExactSignalAt", spec := "fnExactSignalAt", apart := false, narrowed := true }
def FnExactSignalAtUptoSaid : Prop := fnExactSignalAtUptoRow.holds Try.pinned (OpenSpec.upto fnExactSignalAtSpec)

/-- 'laws.FnExactSignalPeriod', WHERE WHAT IT READS IS OF BULK AT MOST 1048576: true; the input reads as it did. -/
def fnExactSignalPeriodUptoRow : OpenClaim := { program := "ytmlamcimncfmcaa", sum := "20dc0f48129a1246629108632f55cdee0ba2afe9ed1cfdbb4b8c96c1faf7d501", func := "loop.example/g01332/laws.FnExactSignalPeriod", spec := "fnExactSignalPeriod", apart := false, narrowed := true }
def FnExactSignalPeriodUptoSaid : Prop := fnExactSignalPeriodUptoRow.holds Try.pinned (OpenSpec.upto fnExactSignalPeriodSpec)

/-- 'laws.FnExactTimesAt', WHERE WHAT IT READS IS OF BULK AT MOST 1048576: true; the input reads as it did. -/
def fnExactTimesAtUptoRow : OpenClaim := { program := "ytmlamcimncfmcaa", sum := "20dc0f48129a1246629108632f55cdee0ba2afe9ed1cfdbb4b8c96c1faf7d501", func := "loop.example/g01332/laws.FnExactTimesAt", spec := "fnExactTimesAt", apart := false, narrowed := true }
def FnExactTimesAtUptoSaid : Prop := fnExactTimesAtUptoRow.holds Try.pinned (OpenSpec.upto fnExactTimesAtSpec)

/-- 'laws.FnExactFirstMeeting', WHERE WHAT IT READS IS OF BULK AT MOST 1048576: true; the input reads as it did. -/
def fnExactFirstMeetingUptoRow : OpenClaim := { program := "ytmlamcimncfmcaa", sum := "20dc0f48129a1246629108632f55cdee0ba2afe9ed1cfdbb4b8c96c1faf7d501", func := "loop.example/g01332/laws.FnExactFirstMeeting", spec := "fnExactFirstMeeting", apart := false, narrowed := true }
def FnExactFirstMeetingUptoSaid : Prop := fnExactFirstMeetingUptoRow.holds Try.pinned (OpenSpec.upto fnExactFirstMeetingSpec)

/-- 'laws.FnExactCountMeetings', WHERE WHAT IT READS IS OF BULK AT MOST 1048576: true; the input reads as it did. -/
def fnExactCountMeetingsUptoRow : OpenClaim := { program := "ytmlamcimncfmcaa", sum := "20dc0f48129a1246629108632f55cdee0ba2afe9ed1cfdbb4b8c96c1faf7d501", func := "loop.example/g01332/laws.FnExactCountMeetings", spec := "fnExactCountMeetings", apart := false, narrowed := true }
def FnExactCountMeetingsUptoSaid : Prop := fnExactCountMeetingsUptoRow.holds Try.pinned (OpenSpec.upto fnExactCountMeetingsSpec)

/-- 'laws.FnExactHeardBy', WHERE WHAT IT READS IS OF BULK AT MOST 1048576: true; the input reads as it did. -/
def fnExactHeardByUptoRow : OpenClaim := { program := "ytmlamcimncfmcaa", sum := "20dc0f48129a1246629108632f55cdee0ba2afe9ed1cfdbb4b8c96c1faf7d501", func := "loop.example/g01332/laws.FnExactHeardBy", spec := "fnExactHeardBy", apart := false, narrowed := true }
def FnExactHeardByUptoSaid : Prop := fnExactHeardByUptoRow.holds Try.pinned (OpenSpec.upto fnExactHeardBySpec)

/-- 'laws.FnExactTimeAllHear', WHERE WHAT IT READS IS OF BULK AT MOST 1048576: true; the input reads as it did. -/
def fnExactTimeAllHearUptoRow : OpenClaim := { program := "ytmlamcimncfmcaa", sum := "20dc0f48129a1246629108632f55cdee0ba2afe9ed1cfdbb4b8c96c1faf7d501", func := "loop.example/g01332/laws.FnExactTimeAllHear", spec := "fnExactTimeAllHear", apart := false, narrowed := true }
def FnExactTimeAllHearUptoSaid : Prop := fnExactTimeAllHearUptoRow.holds Try.pinned (OpenSpec.upto fnExactTimeAllHearSpec)

/-- 'laws.FnExactMiddleMeeting', WHERE WHAT IT READS IS OF BULK AT MOST 1048576: true; the input reads as it did. -/
def fnExactMiddleMeetingUptoRow : OpenClaim := { program := "ytmlamcimncfmcaa", sum := "20dc0f48129a1246629108632f55cdee0ba2afe9ed1cfdbb4b8c96c1faf7d501", func := "loop.example/g01332/laws.FnExactMiddleMeeting", spec := "fnExactMiddleMeeting", apart := false, narrowed := true }
def FnExactMiddleMeetingUptoSaid : Prop := fnExactMiddleMeetingUptoRow.holds Try.pinned (OpenSpec.upto fnExactMiddleMeetingSpec)

/-- 'laws.FnExactLeastTimeWith', WHERE WHAT IT READS IS OF BULK AT MOST 1048576: true; the input reads as it did. -/
def fnExactLeastTimeWithUptoRow : OpenClaim := { program := "ytmlamcimncfmcaa", sum := "20dc0f48129a1246629108632f55cdee0ba2afe9ed1cfdbb4b8c96c1faf7d501", func := "loop.example/g01332/laws.FnExactLeastTimeWith", spec := "fnExactLeastTimeWith", apart := false, narrowed := true }
def FnExactLeastTimeWithUptoSaid : Prop := fnExactLeastTimeWithUptoRow.holds Try.pinned (OpenSpec.upto fnExactLeastTimeWithSpec)

end Rows
end Go.Proofs.Ytmlamcimncfmcaa
