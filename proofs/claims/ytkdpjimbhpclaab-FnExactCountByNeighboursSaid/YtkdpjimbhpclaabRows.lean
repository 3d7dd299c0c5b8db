/-
  No cell of these rows narrows 'for every input' (looked for: loops, veiled, ifaces, maps, wideKeys, modest, calm, conditions, laid).
  DERIVED. THE GIVEN ROWS OF THIS SEAT. 8 by the template 'for every input the law returns true; each argument reads behind the call as it read before'; 0 by the template 'total and deterministic' (their statements: YtkdpjimbhpclaabTotals.lean).
  GIVEN WITH THE SEED: the statements are not yours to turn. If you find one false, say at which input.
  Laid BY PROGRAM, IN A SANDBOX (cutbox-rows.mjs): the forced cells as the released guide's own fill.sh prints them over the translation 5e1796001406eb74… (all of the seat's roots in one cut). By AI agents, Wed Nov 11 2026. No macro, syntax, notation, axiom, sorry.
-/
import Derived.Test.YtkdpjimbhpclaabChecked
import GoSem.Claim
import GoSem.ClaimJoined
import GoSem.ClaimMapViews
import Derived.JoinedTies
import Derived.KernelRfl
namespace Go.Proofs.Ytkdpjimbhpclaab
/- THE CELL 'sum', in the pinned program and in every row, IS THE sha256 OF THE DUMP (.gsa) THAT YtkdpjimbhpclaabProg.lean LOADS. Nothing in Lean hashes anything: it is a label: what it is worth is what the hold of that sum in a sandbox is worth. -/
noncomputable def Try.pinned : Pinned := { name := "ytkdpjimbhpclaab", sum := "5e1796001406eb741a8f8ab2a0620739e29a7c8bb159d763e6fc259a9d4ea50e", checked := Try.checked }
namespace Rows
def none {H : Type} : Left H := { results := [], args := [] }

/-- 'laws.FnExactCanByNeighbours': WHATEVER THE INPUT: true; the input reads as it did. -/
def fnExactCanByNeighboursSpec : ChangeSpec := { name := "fnExactCanByNeighbours", fn := fun _ => fun
  | [d1, d2] => { results := [.lit (.bool true)], args := [d1, d2] }
  | _ => none }
def fnExactCanByNeighboursRow : OpenClaim := { program := "ytkdpjimbhpclaab", sum := "5e1796001406eb741a8f8ab2a0620739e29a7c8bb159d763e6fc259a9d4ea50e", func := "loop.example/g01332/laws.FnExactCanByNeighbours", spec := "fnExactCanByNeighbours", unfollowed := true, recurses := true, apart := false }
def FnExactCanByNeighboursSaid : Prop := fnExactCanByNeighboursRow.holds Try.pinned (OpenSpec.ofChange fnExactCanByNeighboursSpec)

/-- ITS FALSE NEIGHBOUR: 'it returns false'. Refute it at one input. -/
def fnExactCanByNeighboursWrong : ChangeSpec := { name := "fnExactCanByNeighbours", fn := fun _ => fun
  | [d1, d2] => { results := [.lit (.bool false)], args := [d1, d2] }
  | _ => none }
def FnExactCanByNeighboursWrongFalsely : Prop := fnExactCanByNeighboursRow.holds Try.pinned (OpenSpec.ofChange fnExactCanByNeighboursWrong)

/-- 'laws.FnExactNeighboursTo': WHATEVER THE INPUT: true; the input reads as it did. -/
def fnExactNeighboursToSpec : ChangeSpec := { name := "fnExactNeighboursTo", fn := fun _ => fun
  | [d1, d2] => { results := [.lit (.bool true)], args := [d1, d2] }
  | _ => none }
def fnExactNeighboursToRow : OpenClaim := { program := "ytkdpjimbhpclaab", sum := "5e1796001406eb741a8f8ab2a0620739e29a7c8bb159d763e6fc259a9d4ea50e", func := "loop.example/g01332/laws.FnExactNeighboursTo", spec := "fnExactNeighboursTo", unfollowed := true, recurses := true, apart := false }
def FnExactNeighboursToSaid : Prop := fnExactNeighboursToRow.holds Try.pinned (OpenSpec.ofChange fnExactNeighboursToSpec)

/-- ITS FALSE NEIGHBOUR: 'it returns false'. Refute it at one input. -/
def fnExactNeighboursToWrong : ChangeSpec := { name := "fnExactNeighboursTo", fn := fun _ => fun
  | [d1, d2] => { results := [.lit (.bool false)], args := [d1, d2] }
  | _ => none }
def FnExactNeighboursToWrongFalsely : Prop := fnExactNeighboursToRow.holds Try.pinned (OpenSpec.ofChange fnExactNeighboursToWrong)

/-- 'laws.FnExactCountByNeighbours': WHATEVER THE INPUT: true; the input reads as it did. -/
def fnExactCountByNeighboursSpec : ChangeSpec := { name := "fnExactCountByNeighbours", fn := fun _ => fun
  | [d] => { results := [.lit (.bool true)], args := [d] }
  | _ => none }
def fnExactCountByNeighboursRow : OpenClaim := { program := "ytkdpjimbhpclaab", sum := "5e1796001406eb741a8f8ab2a0620739e29a7c8bb159d763e6fc259a9d4ea50e", func := "loop.example/g01332/laws.FnExactCountByNeighbours", spec := "fnExactCountByNeighbours", unfollowed := true, recurses := true, apart := false }
def FnExactCountByNeighboursSaid : Prop := fnExactCountByNeighboursRow.holds Try.pinned (OpenSpec.ofChange fnExactCountByNeighboursSpec)

/-- ITS FALSE NEIGHBOUR: 'it returns false'. Refute it at one input. -/
def fnExactCountByNeighboursWrong : ChangeSpec := { name := "fnExactCountByNeighbours", fn := fun _ => fun
  | [d] => { results := [.lit (.bool false)], args := [d] }
  | _ => none }
def FnExactCountByNeighboursWrongFalsely : Prop := fnExactCountByNeighboursRow.holds Try.pinned (OpenSpec.ofChange fnExactCountByNeighboursWrong)

/-- 'laws.FnExactIdleOrders': WHATEVER THE INPUT: true; the input reads as it did. -/
def fnExactIdleOrdersSpec : ChangeSpec := { name := "fnExactIdleOrders", fn := fun _ => fun
  | [d] => { results := [.lit (.bool true)], args := [d] }
  | _ => none }
def fnExactIdleOrdersRow : OpenClaim := { program := "ytkdpjimbhpclaab", sum := "5e1796001406eb741a8f8ab2a0620739e29a7c8bb159d763e6fc259a9d4ea50e", func := "loop.example/g01332/laws.FnExactIdleOrders", spec := "fnExactIdleOrders", unfollowed := true, recurses := true, apart := false }
def FnExactIdleOrdersSaid : Prop := fnExactIdleOrdersRow.holds Try.pinned (OpenSpec.ofChange fnExactIdleOrdersSpec)

/-- ITS FALSE NEIGHBOUR: 'it returns false'. Refute it at one input. -/
def fnExactIdleOrdersWrong : ChangeSpec := { name := "fnExactIdleOrders", fn := fun _ => fun
  | [d] => { results := [.lit (.bool false)], args := [d] }
  | _ => none }
def FnExactIdleOrdersWrongFalsely : Prop := fnExactIdleOrdersRow.holds Try.pinned (OpenSpec.ofChange fnExactIdleOrdersWrong)

/-- 'laws.FnExactPlayRuns': WHATEVER THE INPUT: true; the input reads as it did. -/
def fnExactPlayRunsSpec : ChangeSpec := { name := "fnExactPlayRuns", fn := fun _ => fun
  | [d1, d2] => { results := [.lit (.bool true)], args := [d1, d2] }
  | _ => none }
def fnExactPlayRunsRow : OpenClaim := { program := "ytkdpjimbhpclaab", sum := "5e1796001406eb741a8f8ab2a0620739e29a7c8bb159d763e6fc259a9d4ea50e", func := "loop.example/g01332/laws.FnExactPlayRuns", spec := "fnExactPlayRuns", unfollowed := true, recurses := true, apart := false }
def FnExactPlayRunsSaid : Prop := fnExactPlayRunsRow.holds Try.pinned (OpenSpec.ofChange fnExactPlayRunsSpec)

/-- ITS FALSE NEIGHBOUR: 'it returns false'. Refute it at one input. -/
def fnExactPlayRunsWrong : ChangeSpec := { name := "fnExactPlayRuns", fn := fun _ => fun
  | [d1, d2] => { results := [.lit (.bool false)], args := [d1, d2] }
  | _ => none }
def FnExactPlayRunsWrongFalsely : Prop := fnExactPlayRunsRow.holds Try.pinned (OpenSpec.ofChange fnExactPlayRunsWrong)

/-- 'laws.FnExactPlayWindows': WHATEVER THE INPUT: true; the input reads as it did. -/
def fnExactPlayWindowsSpec : ChangeSpec := { name := "fnExactPlayWindows", fn := fun _ => fun
  | [d1, d2, d3] => { results := [.lit (.bool true)], args := [d1, d2, d3] }
  | _ => none }
def fnExactPlayWindowsRow : OpenClaim := { program := "ytkdpjimbhpclaab", sum := "5e1796001406eb741a8f8ab2a0620739e29a7c8bb159d763e6fc259a9d4ea50e", func := "loop.example/g01332/laws.FnExactPlayWindows", spec := "fnExactPlayWindows", unfollowed := true, recurses := true, apart := false }
def FnExactPlayWindowsSaid : Prop := fnExactPlayWindowsRow.holds Try.pinned (OpenSpec.ofChange fnExactPlayWindowsSpec)

/-- ITS FALSE NEIGHBOUR: 'it returns false'. Refute it at one input. -/
def fnExactPlayWindowsWrong : ChangeSpec := { name := "fnExactPlayWindows", fn := fun _ => fun
  | [d1, d2, d3] => { results := [.lit (.bool false)], args := [d1, d2, d3] }
  | _ => none }
def FnExactPlayWindowsWrongFalsely : Prop := fnExactPlayWindowsRow.holds Try.pinned (OpenSpec.ofChange fnExactPlayWindowsWrong)

/-- 'laws.FnExactPlayNeighbours': WHATEVER THE INPUT: true; the input reads as it did. -/
def fnExactPlayNeighboursSpec : ChangeSpec := { name := "fnExactPlayNeighbours", fn := fun _ => fun
  | [d1, d2] => { results := [.lit (.bool true)], args := [d1, d2] }
  | _ => none }
def fnExactPlayNeighboursRow : OpenClaim := { program := "ytkdpjimbhpclaab", sum := "5e1796001406eb741a8f8ab2a0620739e29a7c8bb159d763e6fc259a9d4ea50e", func := "loop.example/g01332/laws.FnExactPlayNeighbours", spec := "fnExactPlayNeighbours", unfollowed := true, recurses := true, apart := false }
def FnExactPlayNeighboursSaid : Prop := fnExactPlayNeighboursRow.holds Try.pinned (OpenSpec.ofChange fnExactPlayNeighboursSpec)

/-- ITS FALSE NEIGHBOUR: 'it returns false'. Refute it at one input. -/
def fnExactPlayNeighboursWrong : ChangeSpec := { name := "fnExactPlayNeighbours", fn := fun _ => fun
  | [d1, d2] => { results := [.lit (.bool false)], args := [d1, d2] }
  | _ => none }
def FnExactPlayNeighboursWrongFalsely : Prop := fnExactPlayNeighboursRow.holds Try.pinned (OpenSpec.ofChange fnExactPlayNeighboursWrong)

/-- 'laws.FnExactMostRuns': WHATEVER THE INPUT: true; the input reads as it did. -/
def fnExactMostRunsSpec : ChangeSpec := { name := "fnExactMostRuns", fn := fun _ => fun
  | [d] => { results := [.lit (.bool true)], args := [d] }
  | _ => none }
def fnExactMostRunsRow : OpenClaim := { program := "ytkdpjimbhpclaab", sum := "5e1796001406eb741a8f8ab2a0620739e29a7c8bb159d763e6fc259a9d4ea50e", func := "loop.example/g01332/laws.FnExactMostRuns", spec := "fnExactMostRuns", apart := false }
def FnExactMostRunsSaid : Prop := fnExactMostRunsRow.holds Try.pinned (OpenSpec.ofChange fnExactMostRunsSpec)

/-- ITS FALSE NEIGHBOUR: 'it returns false'. Refute it at one input. -/
def fnExactMostRunsWrong : ChangeSpec := { name := "fnExactMostRuns", fn := fun _ => fun
  | [d] => { results := [.lit (.bool false)], args := [d] }
  | _ => none }
def FnExactMostRunsWrongFalsely : Prop := fnExactMostRunsRow.holds Try.pinned (OpenSpec.ofChange fnExactMostRunsWrong)

/- THE SECOND FORM. 'bulk': how many values and letters a reading holds, each counted each time it is reached (what is shared counts as often as it is met; a slice's spare places count too). A statement '..UptoSaid' is the law's where the arguments, and the package variables that the reading takes, are together of bulk at most 1048576: NARROWER than '..Said'. Prove '..Said' where nothing that the law and all that it calls make is longer than what came in: it says more and counts as full. Else prove '..UptoSaid'. A law counts once. -/
mutual
def uptoBulk {H : Type} : DataW H → Nat
  | .lit (.string bytes) => bytes.length + 1
  | .lit _ => 1
  | .nil => 1
  | .ptr d => uptoBulk d + 1
  | .slice elems spare => uptoBulkAll elems + uptoBulkAll spare + 1
  | .agg parts => uptoBulkAll parts + 1
  | .iface _ d => uptoBulk d + 1
  | .map entries => uptoBulkEntries entries + 1
  | .held _ => 1
def uptoBulkAll {H : Type} : List (DataW H) → Nat
  | [] => 0
  | d :: r => uptoBulk d + uptoBulkAll r
def uptoBulkEntries {H : Type} : List (Lit × DataW H) → Nat
  | [] => 0
  | x :: r => uptoBulkEntry x + uptoBulkEntries r
def uptoBulkEntry {H : Type} : Lit × DataW H → Nat
  | (.string bytes, d) => bytes.length + uptoBulk d + 1
  | (_, d) => uptoBulk d + 1
 end
def uptoSmall : (H : Type) → List (DataW H) → Bool := fun _ ds => decide (uptoBulkAll ds ≤ 1048576)
def OpenSpec.upto (s : _root_.Go.ChangeSpec) : _root_.Go.OpenSpec := { _root_.Go.OpenSpec.ofChange s with cond := some uptoSmall }

/-- 'laws.FnExactCanByNeighbours', WHERE WHAT IT READS IS OF BULK AT MOST 1048576: true; the input reads as it did. -/
def fnExactCanByNeighboursUptoRow : OpenClaim := { program := "ytkdpjimbhpclaab", sum := "5e1796001406eb741a8f8ab2a0620739e29a7c8bb159d763e6fc259a9d4ea50e", func := "loop.example/g01332/laws.FnExactCanByNeighbours", spec := "fnExactCanByNeighbours", unfollowed := true, recurses := true, apart := false, narrowed := true }
def FnExactCanByNeighboursUptoSaid : Prop := fnExactCanByNeighboursUptoRow.holds Try.pinned (OpenSpec.upto fnExactCanByNeighboursSpec)

/-- 'laws.FnExactNeighboursTo', WHERE WHAT IT READS IS OF BULK AT MOST 1048576: true; the input reads as it did. -/
def fnExactNeighboursToUptoRow : OpenClaim := { program := "ytkdpjimbhpclaab", sum := "5e1796001406eb741a8f8ab2a0620739e29a7c8bb159d763e6fc259a9d4ea50e", func := "loop.example/g01332/laws.FnExactNeighboursTo", spec := "fnExactNeighboursTo", unfollowed := true, recurses := true, apart := false, narrowed := true }
def FnExactNeighboursToUptoSaid : Prop := fnExactNeighboursToUptoRow.holds Try.pinned (OpenSpec.upto fnExactNeighboursToSpec)

/-- 'laws.FnExactCountByNeighbours', WHERE WHAT IT READS IS OF BULK AT MOST 1048576: true; the input reads as it did. -/
def fnExactCountByNeighboursUptoRow : OpenClaim := { program := "ytkdpjimbhpclaab", sum := "5e1796001406eb741a8f8ab2a0620739e29a7c8bb159d763e6fc259a9d4ea50e", func := "loop.example/g01332/laws.FnExactCountByNeighbours", spec := "fnExactCountByNeighbours", unfollowed := true, recurses := true, apart := false, narrowed := true }
def FnExactCountByNeighboursUptoSaid : Prop := fnExactCountByNeighboursUptoRow.holds Try.pinned (OpenSpec.upto fnExactCountByNeighboursSpec)

/-- 'laws.FnExactIdleOrders', WHERE WHAT IT READS IS OF BULK AT MOST 1048576: true; the input reads as it did. -/
def fnExactIdleOrdersUptoRow : OpenClaim := { program := "ytkdpjimbhpclaab", sum := "5e1796001406eb741a8f8ab2a0620739e29a7c8bb159d763e6fc259a9d4ea50e", func := "loop.example/g01332/laws.FnExactIdleOrders", spec := "fnExactIdleOrders", unfollowed := true, recurses := true, apart := false, narrowed := true }
def FnExactIdleOrdersUptoSaid : Prop := fnExactIdleOrdersUptoRow.holds Try.pinned (OpenSpec.upto fnExactIdleOrdersSpec)

/-- 'laws.FnExactPlayRuns', WHERE WHAT IT READS IS OF BULK AT MOST 1048576: true; the input reads as it did. -/
def fnExactPlayRunsUptoRow : OpenClaim := { program := "ytkdpjimbhpclaab", sum := "5e1796001406eb741a8f8ab2a0620739e29a7c8bb159d763e6fc259a9d4ea50e", func := "loop.example/g01332/laws.FnExactPlayRuns", spec := "fnExactPlayRuns", unfollowed := true, recurses := true, apart := false, narrowed := true }
def FnExactPlayRunsUptoSaid : Prop := fnExactPlayRunsUptoRow.holds Try.pinned (OpenSpec.upto fnExactPlayRunsSpec)

/-- 'laws.FnExactPlayWindows', WHERE WHAT IT READS IS OF BULK AT MOST 1048576: true; the input reads as it did. -/
def fnExactPlayWindowsUptoRow : OpenClaim := { program := "ytkdpjimbhpclaab", sum := "5e1796001406eb741a8f8ab2a0620739e29a7c8bb159d763e6fc259a9d4ea50e", func := "loop.example/g01332/laws.FnExactPlayWindows", spec := "fnExactPlayWindows", unfollowed := true, recurses := true, apart := false, narrowed := true }
def FnExactPlayWindowsUptoSaid : Prop := fnExactPlayWindowsUptoRow.holds Try.pinned (OpenSpec.upto fnExactPlayWindowsSpec)

/-- 'laws.FnExactPlayNeighbours', WHERE WHAT IT READS IS OF BULK AT MOST 1048576: true; the input reads as it did. -/
def fnExactPlayNeighboursUptoRow : OpenClaim := { program := "ytkdpjimbhpclaab", sum := "5e1796001406eb741a8f8ab2a0620739e29a7c8bb159d763e6fc259a9d4ea50e", func := "loop.example/g01332/laws.FnExactPlayNeighbours", spec := "fnExactPlayNeighbours", unfollowed := true, recurses := true, apart := false, narrowed := true }
def FnExactPlayNeighboursUptoSaid : Prop := fnExactPlayNeighboursUptoRow.holds Try.pinned (OpenSpec.upto fnExactPlayNeighboursSpec)

/-- 'laws.FnExactMostRuns', WHERE WHAT IT READS IS OF BULK AT MOST 1048576: true; the input reads as it did. -/
def fnExactMostRunsUptoRow : OpenClaim := { program := "ytkdpjimbhpclaab", sum := "5e1796001406eb741a8f8ab2a0620739e29a7c8bb159d763e6fc259a9d4ea50e", func := "loop.example/g01332/laws.FnExactMostRuns", spec := "fnExactMostRuns", apart := false, narrowed := true }
def FnExactMostRunsUptoSaid : Prop := fnExactMostRunsUptoRow.holds Try.pinned (OpenSpec.upto fnExactMostRunsSpec)

end Rows
end Go.Proofs.Ytkdpjimbhpclaab
