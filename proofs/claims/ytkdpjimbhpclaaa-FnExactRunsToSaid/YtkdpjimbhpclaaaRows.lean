/-
  No cell of these rows narrows 'for every input' (looked for: loops, veiled, ifaces, maps, wideKeys, modest, calm, conditions, laid).
  DERIVED. THE GIVEN ROWS OF THIS SEAT. 10 by the template 'for every input the law returns true; each argument reads behind the call as it read before'; 0 by the template 'total and deterministic' (their statements: YtkdpjimbhpclaaaTotals.lean).
  GIVEN WITH THE SEED: the statements are not yours to turn. If you find one false, say at which input.
  Laid BY PROGRAM, IN A SANDBOX (cutbox-rows.mjs): the forced cells as the released guide's own fill.sh prints them over the translation ab845030338bbfd1… (all of the seat's roots in one cut). By AI agents, Wed Nov 11 2026. No macro, syntax, notation, axiom, sorry.
-/
import Derived.Test.YtkdpjimbhpclaaaChecked
import GoSem.Claim
import GoSem.ClaimJoined
import GoSem.ClaimMapViews
import Derived.JoinedTies
import Derived.KernelRfl
namespace Go.Proofs.Ytkdpjimbhpclaaa
/- THE CELL 'sum', in the pinned program and in every row, IS THE sha256 OF THE DUMP (.gsa) THAT YtkdpjimbhpclaaaProg.lean LOADS. Nothing in Lean hashes anything: it is a label: what it is worth is what the hold of that sum in a sandbox is worth. -/
noncomputable def Try.pinned : Pinned := { name := "ytkdpjimbhpclaaa", sum := "ab845030338bbfd1387dea26e7f5679b6192d817a9cb565d8860cb0362bee146", checked := Try.checked }
namespace Rows
def none {H : Type} : Left H := { results := [], args := [] }

/-- 'laws.FnExactTurnRun': WHATEVER THE INPUT: true; the input reads as it did. -/
def fnExactTurnRunSpec : ChangeSpec := { name := "fnExactTurnRun", fn := fun _ => fun
  | [d1, d2, d3] => { results := [.lit (.bool true)], args := [d1, d2, d3] }
  | _ => none }
def fnExactTurnRunRow : OpenClaim := { program := "ytkdpjimbhpclaaa", sum := "ab845030338bbfd1387dea26e7f5679b6192d817a9cb565d8860cb0362bee146", func := "loop.example/g01332/laws.FnExactTurnRun", spec := "fnExactTurnRun", unfollowed := true, recurses := true, apart := false }
def FnExactTurnRunSaid : Prop := fnExactTurnRunRow.holds Try.pinned (OpenSpec.ofChange fnExactTurnRunSpec)

/-- ITS FALSE NEIGHBOUR: 'it returns false'. Refute it at one input. -/
def fnExactTurnRunWrong : ChangeSpec := { name := "fnExactTurnRun", fn := fun _ => fun
  | [d1, d2, d3] => { results := [.lit (.bool false)], args := [d1, d2, d3] }
  | _ => none }
def FnExactTurnRunWrongFalsely : Prop := fnExactTurnRunRow.holds Try.pinned (OpenSpec.ofChange fnExactTurnRunWrong)

/-- 'laws.FnExactTurnFirst': WHATEVER THE INPUT: true; the input reads as it did. -/
def fnExactTurnFirstSpec : ChangeSpec := { name := "fnExactTurnFirst", fn := fun _ => fun
  | [d1, d2] => { results := [.lit (.bool true)], args := [d1, d2] }
  | _ => none }
def fnExactTurnFirstRow : OpenClaim := { program := "ytkdpjimbhpclaaa", sum := "ab845030338bbfd1387dea26e7f5679b6192d817a9cb565d8860cb0362bee146", func := "loop.example/g01332/laws.FnExactTurnFirst", spec := "fnExactTurnFirst", unfollowed := true, recurses := true, apart := false }
def FnExactTurnFirstSaid : Prop := fnExactTurnFirstRow.holds Try.pinned (OpenSpec.ofChange fnExactTurnFirstSpec)

/-- ITS FALSE NEIGHBOUR: 'it returns false'. Refute it at one input. -/
def fnExactTurnFirstWrong : ChangeSpec := { name := "fnExactTurnFirst", fn := fun _ => fun
  | [d1, d2] => { results := [.lit (.bool false)], args := [d1, d2] }
  | _ => none }
def FnExactTurnFirstWrongFalsely : Prop := fnExactTurnFirstRow.holds Try.pinned (OpenSpec.ofChange fnExactTurnFirstWrong)

/-- 'laws.FnExactTurnAround': WHATEVER THE INPUT: true; the input reads as it did. -/
def fnExactTurnAroundSpec : ChangeSpec := { name := "fnExactTurnAround", fn := fun _ => fun
  | [d1, d2] => { results := [.lit (.bool true)], args := [d1, d2] }
  | _ => none }
def fnExactTurnAroundRow : OpenClaim := { program := "ytkdpjimbhpclaaa", sum := "ab845030338bbfd1387dea26e7f5679b6192d817a9cb565d8860cb0362bee146", func := "loop.example/g01332/laws.FnExactTurnAround", spec := "fnExactTurnAround", unfollowed := true, recurses := true, apart := false }
def FnExactTurnAroundSaid : Prop := fnExactTurnAroundRow.holds Try.pinned (OpenSpec.ofChange fnExactTurnAroundSpec)

/-- ITS FALSE NEIGHBOUR: 'it returns false'. Refute it at one input. -/
def fnExactTurnAroundWrong : ChangeSpec := { name := "fnExactTurnAround", fn := fun _ => fun
  | [d1, d2] => { results := [.lit (.bool false)], args := [d1, d2] }
  | _ => none }
def FnExactTurnAroundWrongFalsely : Prop := fnExactTurnAroundRow.holds Try.pinned (OpenSpec.ofChange fnExactTurnAroundWrong)

/-- 'laws.FnExactFewestRuns': WHATEVER THE INPUT: true; the input reads as it did. -/
def fnExactFewestRunsSpec : ChangeSpec := { name := "fnExactFewestRuns", fn := fun _ => fun
  | [d1, d2] => { results := [.lit (.bool true)], args := [d1, d2] }
  | _ => none }
def fnExactFewestRunsRow : OpenClaim := { program := "ytkdpjimbhpclaaa", sum := "ab845030338bbfd1387dea26e7f5679b6192d817a9cb565d8860cb0362bee146", func := "loop.example/g01332/laws.FnExactFewestRuns", spec := "fnExactFewestRuns", recurses := true, apart := false }
def FnExactFewestRunsSaid : Prop := fnExactFewestRunsRow.holds Try.pinned (OpenSpec.ofChange fnExactFewestRunsSpec)

/-- ITS FALSE NEIGHBOUR: 'it returns false'. Refute it at one input. -/
def fnExactFewestRunsWrong : ChangeSpec := { name := "fnExactFewestRuns", fn := fun _ => fun
  | [d1, d2] => { results := [.lit (.bool false)], args := [d1, d2] }
  | _ => none }
def FnExactFewestRunsWrongFalsely : Prop := fnExactFewestRunsRow.holds Try.pinned (OpenSpec.ofChange fnExactFewestRunsWrong)

/-- 'laws.FnExactRunsTo': WHATEVER THE INPUT: true; the input reads as it did. -/
def fnExactRunsToSpec : ChangeSpec := { name := "fnExactRunsTo", fn := fun _ => fun
  | [d1, d2] => { results := [.lit (.bool true)], args := [d1, d2] }
  | _ => none }
def fnExactRunsToRow : OpenClaim := { program := "ytkdpjimbhpclaaa", sum := "ab845030338bbfd1387dea26e7f5679b6192d817a9cb565d8860cb0362bee146", func := "loop.example/g01332/laws.FnExactRunsTo", spec := "fnExactRunsTo", recurses := true, apart := false }
def FnExactRunsToSaid : Prop := fnExactRunsToRow.holds Try.pinned (OpenSpec.ofChange fnExactRunsToSpec)

/-- ITS FALSE NEIGHBOUR: 'it returns false'. Refute it at one input. -/
def fnExactRunsToWrong : ChangeSpec := { name := "fnExactRunsTo", fn := fun _ => fun
  | [d1, d2] => { results := [.lit (.bool false)], args := [d1, d2] }
  | _ => none }
def FnExactRunsToWrongFalsely : Prop := fnExactRunsToRow.holds Try.pinned (OpenSpec.ofChange fnExactRunsToWrong)

/-- 'laws.FnExactFewestFirst': WHATEVER THE INPUT: true; the input reads as it did. -/
def fnExactFewestFirstSpec : ChangeSpec := { name := "fnExactFewestFirst", fn := fun _ => fun
  | [d1, d2] => { results := [.lit (.bool true)], args := [d1, d2] }
  | _ => none }
def fnExactFewestFirstRow : OpenClaim := { program := "ytkdpjimbhpclaaa", sum := "ab845030338bbfd1387dea26e7f5679b6192d817a9cb565d8860cb0362bee146", func := "loop.example/g01332/laws.FnExactFewestFirst", spec := "fnExactFewestFirst", recurses := true, apart := false }
def FnExactFewestFirstSaid : Prop := fnExactFewestFirstRow.holds Try.pinned (OpenSpec.ofChange fnExactFewestFirstSpec)

/-- ITS FALSE NEIGHBOUR: 'it returns false'. Refute it at one input. -/
def fnExactFewestFirstWrong : ChangeSpec := { name := "fnExactFewestFirst", fn := fun _ => fun
  | [d1, d2] => { results := [.lit (.bool false)], args := [d1, d2] }
  | _ => none }
def FnExactFewestFirstWrongFalsely : Prop := fnExactFewestFirstRow.holds Try.pinned (OpenSpec.ofChange fnExactFewestFirstWrong)

/-- 'laws.FnExactFirstsTo': WHATEVER THE INPUT: true; the input reads as it did. -/
def fnExactFirstsToSpec : ChangeSpec := { name := "fnExactFirstsTo", fn := fun _ => fun
  | [d1, d2] => { results := [.lit (.bool true)], args := [d1, d2] }
  | _ => none }
def fnExactFirstsToRow : OpenClaim := { program := "ytkdpjimbhpclaaa", sum := "ab845030338bbfd1387dea26e7f5679b6192d817a9cb565d8860cb0362bee146", func := "loop.example/g01332/laws.FnExactFirstsTo", spec := "fnExactFirstsTo", recurses := true, apart := false }
def FnExactFirstsToSaid : Prop := fnExactFirstsToRow.holds Try.pinned (OpenSpec.ofChange fnExactFirstsToSpec)

/-- ITS FALSE NEIGHBOUR: 'it returns false'. Refute it at one input. -/
def fnExactFirstsToWrong : ChangeSpec := { name := "fnExactFirstsTo", fn := fun _ => fun
  | [d1, d2] => { results := [.lit (.bool false)], args := [d1, d2] }
  | _ => none }
def FnExactFirstsToWrongFalsely : Prop := fnExactFirstsToRow.holds Try.pinned (OpenSpec.ofChange fnExactFirstsToWrong)

/-- 'laws.FnExactCanByWindows': WHATEVER THE INPUT: true; the input reads as it did. -/
def fnExactCanByWindowsSpec : ChangeSpec := { name := "fnExactCanByWindows", fn := fun _ => fun
  | [d1, d2, d3] => { results := [.lit (.bool true)], args := [d1, d2, d3] }
  | _ => none }
def fnExactCanByWindowsRow : OpenClaim := { program := "ytkdpjimbhpclaaa", sum := "ab845030338bbfd1387dea26e7f5679b6192d817a9cb565d8860cb0362bee146", func := "loop.example/g01332/laws.FnExactCanByWindows", spec := "fnExactCanByWindows", unfollowed := true, recurses := true, apart := false }
def FnExactCanByWindowsSaid : Prop := fnExactCanByWindowsRow.holds Try.pinned (OpenSpec.ofChange fnExactCanByWindowsSpec)

/-- ITS FALSE NEIGHBOUR: 'it returns false'. Refute it at one input. -/
def fnExactCanByWindowsWrong : ChangeSpec := { name := "fnExactCanByWindows", fn := fun _ => fun
  | [d1, d2, d3] => { results := [.lit (.bool false)], args := [d1, d2, d3] }
  | _ => none }
def FnExactCanByWindowsWrongFalsely : Prop := fnExactCanByWindowsRow.holds Try.pinned (OpenSpec.ofChange fnExactCanByWindowsWrong)

/-- 'laws.FnExactWindowsTo': WHATEVER THE INPUT: true; the input reads as it did. -/
def fnExactWindowsToSpec : ChangeSpec := { name := "fnExactWindowsTo", fn := fun _ => fun
  | [d1, d2, d3] => { results := [.lit (.bool true)], args := [d1, d2, d3] }
  | _ => none }
def fnExactWindowsToRow : OpenClaim := { program := "ytkdpjimbhpclaaa", sum := "ab845030338bbfd1387dea26e7f5679b6192d817a9cb565d8860cb0362bee146", func := "loop.example/g01332/laws.FnExactWindowsTo", spec := "fnExactWindowsTo", unfollowed := true, recurses := true, apart := false }
def FnExactWindowsToSaid : Prop := fnExactWindowsToRow.holds Try.pinned (OpenSpec.ofChange fnExactWindowsToSpec)

/-- ITS FALSE NEIGHBOUR: 'it returns false'. Refute it at one input. -/
def fnExactWindowsToWrong : ChangeSpec := { name := "fnExactWindowsTo", fn := fun _ => fun
  | [d1, d2, d3] => { results := [.lit (.bool false)], args := [d1, d2, d3] }
  | _ => none }
def FnExactWindowsToWrongFalsely : Prop := fnExactWindowsToRow.holds Try.pinned (OpenSpec.ofChange fnExactWindowsToWrong)

/-- 'laws.FnExactCountByWindows': WHATEVER THE INPUT: true; the input reads as it did. -/
def fnExactCountByWindowsSpec : ChangeSpec := { name := "fnExactCountByWindows", fn := fun _ => fun
  | [d1, d2] => { results := [.lit (.bool true)], args := [d1, d2] }
  | _ => none }
def fnExactCountByWindowsRow : OpenClaim := { program := "ytkdpjimbhpclaaa", sum := "ab845030338bbfd1387dea26e7f5679b6192d817a9cb565d8860cb0362bee146", func := "loop.example/g01332/laws.FnExactCountByWindows", spec := "fnExactCountByWindows", apart := false }
def FnExactCountByWindowsSaid : Prop := fnExactCountByWindowsRow.holds Try.pinned (OpenSpec.ofChange fnExactCountByWindowsSpec)

/-- ITS FALSE NEIGHBOUR: 'it returns false'. Refute it at one input. -/
def fnExactCountByWindowsWrong : ChangeSpec := { name := "fnExactCountByWindows", fn := fun _ => fun
  | [d1, d2] => { results := [.lit (.bool false)], args := [d1, d2] }
  | _ => none }
def FnExactCountByWindowsWrongFalsely : Prop := fnExactCountByWindowsRow.holds Try.pinned (OpenSpec.ofChange fnExactCountByWindowsWrong)

/- THE SECOND FORM. 'bulk': how many values and letters a reading holds, each counted each time it is reached (what is shared counts as often as it is met; a slice's spare places count too). A statement '..UptoSaid' is the law's where the arguments, and the package variables that the reading takes, are together of bulk at most 1048576: NARROWER than '..Said'. Prove '..Said' where nothing that the law and all that it calls make is longer than what came in: it says more and counts as full. Else prove '..UptoSaid'. A law counts once. -/
mutual
def uptoBulk {H : Type} : DataW H → Nat
  | .lit (.string bytes) => bytes.length + 1
  | .lit _ => 1
  | .nil => 1
  | .ptr d => uptoBulk d + 1
  | .slice elems spare => uptoBulkAll elems + uptoBulkAll spare + 1
  | .agg parts => uptoBulkAll parts + 1
  | .iface _ d => uptoBulk d + 1
  | .map entries => uptoBulkEntries entries + 1
  | .held _ => 1
def uptoBulkAll {H : Type} : List (DataW H) → Nat
  | [] => 0
  | d :: r => uptoBulk d + uptoBulkAll r
def uptoBulkEntries {H : Type} : List (Lit × DataW H) → Nat
  | [] => 0
  | x :: r => uptoBulkEntry x + uptoBulkEntries r
def uptoBulkEntry {H : Type} : Lit × DataW H → Nat
  | (.string bytes, d) => bytes.length + uptoBulk d + 1
  | (_, d) => uptoBulk d + 1
 end
def uptoSmall : (H : Type) → List (DataW H) → Bool := fun _ ds => decide (uptoBulkAll ds ≤ 1048576)
def OpenSpec.upto (s : _root_.Go.ChangeSpec) : _root_.Go.OpenSpec := { _root_.Go.OpenSpec.ofChange s with cond := some uptoSmall }

/-- 'laws.FnExactTurnRun', WHERE WHAT IT READS IS OF BULK AT MOST 1048576: true; the input reads as it did. -/
def fnExactTurnRunUptoRow : OpenClaim := { program := "ytkdpjimbhpclaaa", sum := "ab845030338bbfd1387dea26e7f5679b6192d817a9cb565d8860cb0362bee146", func := "loop.example/g01332/laws.FnExactTurnRun", spec := "fnExactTurnRun", unfollowed := true, recurses := true, apart := false, narrowed := true }
def FnExactTurnRunUptoSaid : Prop := fnExactTurnRunUptoRow.holds Try.pinned (OpenSpec.upto fnExactTurnRunSpec)

/-- 'laws.FnExactTurnFirst', WHERE WHAT IT READS IS OF BULK AT MOST 1048576: true; the input reads as it did. -/
def fnExactTurnFirstUptoRow : OpenClaim := { program := "ytkdpjimbhpclaaa", sum := "ab845030338bbfd1387dea26e7f5679b6192d817a9cb565d8860cb0362bee146", func := "loop.example/g01332/laws.FnExactTurnFirst", spec := "fnExactTurnFirst", unfollowed := true, recurses := true, apart := false, narrowed := true }
def FnExactTurnFirstUptoSaid : Prop := fnExactTurnFirstUptoRow.holds Try.pinned (OpenSpec.upto fnExactTurnFirstSpec)

/-- 'laws.FnExactTurnAround', WHERE WHAT IT READS IS OF BULK AT MOST 1048576: true; the input reads as it did. -/
def fnExactTurnAroundUptoRow : OpenClaim := { program := "ytkdpjimbhpclaaa", sum := "ab845030338bbfd1387dea26e7f5679b6192d817a9cb565d8860cb0362bee146", func := "loop.example/g01332/laws.FnExactTurnAround", spec := "fnExactTurnAround", unfollowed := true, recurses := true, apart := false, narrowed := true }
def FnExactTurnAroundUptoSaid : Prop := fnExactTurnAroundUptoRow.holds Try.pinned (OpenSpec.upto fnExactTurnAroundSpec)

/-- 'laws.FnExactFewestRuns', WHERE WHAT IT READS IS OF BULK AT MOST 1048576: true; the input reads as it did. -/
def fnExactFewestRunsUptoRow : OpenClaim := { program := "ytkdpjimbhpclaaa", sum := "ab845030338bbfd1387dea26e7f5679b6192d817a9cb565d8860cb0362bee146", func := "loop.example/g01332/laws.FnExactFewestRuns", spec := "fnExactFewestRuns", recurses := true, apart := false, narrowed := true }
def FnExactFewestRunsUptoSaid : Prop := fnExactFewestRunsUptoRow.holds Try.pinned (OpenSpec.upto fnExactFewestRunsSpec)

/-- 'laws.FnExactRunsTo', WHERE WHAT IT READS IS OF BULK AT MOST 1048576: true; the input reads as it did. -/
def fnExactRunsToUptoRow : OpenClaim := { program := "ytkdpjimbhpclaaa", sum := "ab845030338bbfd1387dea26e7f5679b6192d817a9cb565d8860cb0362bee146", func := "loop.example/g01332/laws.FnExactRunsTo", spec := "fnExactRunsTo", recurses := true, apart := false, narrowed := true }
def FnExactRunsToUptoSaid : Prop := fnExactRunsToUptoRow.holds Try.pinned (OpenSpec.upto fnExactRunsToSpec)

/-- 'laws.FnExactFewestFirst', WHERE WHAT IT READS IS OF BULK AT MOST 1048576: true; the input reads as it did. -/
def fnExactFewestFirstUptoRow : OpenClaim := { program := "ytkdpjimbhpclaaa", sum := "ab845030338bbfd1387dea26e7f5679b6192d817a9cb565d8860cb0362bee146", func := "loop.example/g01332/laws.FnExactFewestFirst", spec := "fnExactFewestFirst", recurses := true, apart := false, narrowed := true }
def FnExactFewestFirstUptoSaid : Prop := fnExactFewestFirstUptoRow.holds Try.pinned (OpenSpec.upto fnExactFewestFirstSpec)

/-- 'laws.FnExactFirstsTo', WHERE WHAT IT READS IS OF BULK AT MOST 1048576: true; the input reads as it did. -/
def fnExactFirstsToUptoRow : OpenClaim := { program := "ytkdpjimbhpclaaa", sum := "ab845030338bbfd1387dea26e7f5679b6192d817a9cb565d8860cb0362bee146", func := "loop.example/g01332/laws.FnExactFirstsTo", spec := "fnExactFirstsTo", recurses := true, apart := false, narrowed := true }
def FnExactFirstsToUptoSaid : Prop := fnExactFirstsToUptoRow.holds Try.pinned (OpenSpec.upto fnExactFirstsToSpec)

/-- 'laws.FnExactCanByWindows', WHERE WHAT IT READS IS OF BULK AT MOST 1048576: true; the input reads as it did. -/
def fnExactCanByWindowsUptoRow : OpenClaim := { program := "ytkdpjimbhpclaaa", sum := "ab845030338bbfd1387dea26e7f5679b6192d817a9cb565d8860cb0362bee146", func := "loop.example/g01332/laws.FnExactCanByWindows", spec := "fnExactCanByWindows", unfollowed := true, recurses := true, apart := false, narrowed := true }
def FnExactCanByWindowsUptoSaid : Prop := fnExactCanByWindowsUptoRow.holds Try.pinned (OpenSpec.upto fnExactCanByWindowsSpec)

/-- 'laws.FnExactWindowsTo', WHERE WHAT IT READS IS OF BULK AT MOST 1048576: true; the input reads as it did. -/
def fnExactWindowsToUptoRow : OpenClaim := { program := "ytkdpjimbhpclaaa", sum := "ab845030338bbfd1387dea26e7f5679b6192d817a9cb565d8860cb0362bee146", func := "loop.example/g01332/laws.FnExactWindowsTo", spec := "fnExactWindowsTo", unfollowed := true, recurses := true, apart := false, narrowed := true }
def FnExactWindowsToUptoSaid : Prop := fnExactWindowsToUptoRow.holds Try.pinned (OpenSpec.upto fnExactWindowsToSpec)

/-- 'laws.FnExactCountByWindows', WHERE WHAT IT READS IS OF BULK AT MOST 1048576: true; the input reads as it did. -/
def fnExactCountByWindowsUptoRow : OpenClaim := { program := "ytkdpjimbhpclaaa", sum := "ab845030338bbfd1387dea26e7f5679b6192d817a9cb565d8860cb0362bee146", func := "loop.example/g01332/laws.FnExactCountByWindows", spec := "fnExactCountByWindows", apart := false, narrowed := true }
def FnExactCountByWindowsUptoSaid : Prop := fnExactCountByWindowsUptoRow.holds Try.pinned (OpenSpec.upto fnExactCountByWindowsSpec)

end Rows
end Go.Proofs.Ytkdpjimbhpclaaa
