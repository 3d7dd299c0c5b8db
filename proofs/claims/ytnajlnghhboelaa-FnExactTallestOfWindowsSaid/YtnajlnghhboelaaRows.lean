/-
  No cell of these rows narrows 'for every input' (looked for: loops, veiled, ifaces, maps, wideKeys, modest, calm, conditions, laid).
  DERIVED. THE GIVEN ROWS OF THIS SEAT. 10 by the template 'for every input the law returns true; each argument reads behind the call as it read before'; 0 by the template 'total and deterministic' (their statements: YtnajlnghhboelaaTotals.lean).
  GIVEN WITH THE SEED: the statements are not yours to turn. If you find one false, say at which input.
  Laid BY PROGRAM, IN A SANDBOX (cutbox-rows.mjs): the forced cells as the released guide's own fill.sh prints them over the translation 330991529ee17be9… (all of the seat's roots in one cut). By AI agents, Wed Nov 11 2026. No macro, syntax, notation, axiom, sorry.
-/
import Derived.Test.YtnajlnghhboelaaChecked
import GoSem.Claim
import GoSem.ClaimJoined
import GoSem.ClaimMapViews
import Derived.JoinedTies
import Derived.KernelRfl
namespace Go.Proofs.Ytnajlnghhboelaa
/- THE CELL 'sum', in the pinned program and in every row, IS THE sha256 OF THE DUMP (.gsa) THAT YtnajlnghhboelaaProg.lean LOADS. Nothing in Lean hashes anything: it is a label: what it is worth is what the hold of that sum in a sandbox is worth. -/
noncomputable def Try.pinned : Pinned := { name := "ytnajlnghhboelaa", sum := "330991529ee17be9c678a179ca8589b0c28aa1bddaae0a1d40fce2cf7e06c8dc", checked := Try.checked }
namespace Rows
def none {H : Type} : Left H := { results := [], args := [] }

/-- 'laws.FnExactAreHeights': WHATEVER THE INPUT: true; the input reads as it did. -/
def fnExactAreHeightsSpec : ChangeSpec := { name := "fnExactAreHeights", fn := fun _ => fun
  | [d] => { results := [.lit (.bool true)], args := [d] }
  | _ => none }
def fnExactAreHeightsRow : OpenClaim := { program := "ytnajlnghhboelaa", sum := "330991529ee17be9c678a179ca8589b0c28aa1bddaae0a1d40fce2cf7e06c8dc", func := "loop.example/g01332/laws.FnExactAreHeights", spec := "fnExactAreHeights", apart := false }
def FnExactAreHeightsSaid : Prop := fnExactAreHeightsRow.holds Try.pinned (OpenSpec.ofChange fnExactAreHeightsSpec)

/-- ITS FALSE NEIGHBOUR: 'it returns false'. Refute it at one input. -/
def fnExactAreHeightsWrong : ChangeSpec := { name := "fnExactAreHeights", fn := fun _ => fun
  | [d] => { results := [.lit (.bool false)], args := [d] }
  | _ => none }
def FnExactAreHeightsWrongFalsely : Prop := fnExactAreHeightsRow.holds Try.pinned (OpenSpec.ofChange fnExactAreHeightsWrong)

/-- 'laws.FnExactSeenFromLeft': WHATEVER THE INPUT: true; the input reads as it did. -/
def fnExactSeenFromLeftSpec : ChangeSpec := { name := "fnExactSeenFromLeft", fn := fun _ => fun
  | [d] => { results := [.lit (.bool true)], args := [d] }
  | _ => none }
def fnExactSeenFromLeftRow : OpenClaim := { program := "ytnajlnghhboelaa", sum := "330991529ee17be9c678a179ca8589b0c28aa1bddaae0a1d40fce2cf7e06c8dc", func := "loop.example/g01332/laws.FnExactSeenFromLeft", spec := "fnExactSeenFromLeft", unfollowed := true, recurses := true, apart := false }
def FnExactSeenFromLeftSaid : Prop := fnExactSeenFromLeftRow.holds Try.pinned (OpenSpec.ofChange fnExactSeenFromLeftSpec)

/-- ITS FALSE NEIGHBOUR: 'it returns false'. Refute it at one input. -/
def fnExactSeenFromLeftWrong : ChangeSpec := { name := "fnExactSeenFromLeft", fn := fun _ => fun
  | [d] => { results := [.lit (.bool false)], args := [d] }
  | _ => none }
def FnExactSeenFromLeftWrongFalsely : Prop := fnExactSeenFromLeftRow.holds Try.pinned (OpenSpec.ofChange fnExactSeenFromLeftWrong)

/-- 'laws.FnExactSeenFromRight': WHATEVER THE INPUT: true; the input reads as it did. -/
def fnExactSeenFromRightSpec : ChangeSpec := { name := "fnExactSeenFromRight", fn := fun _ => fun
  | [d] => { results := [.lit (.bool true)], args := [d] }
  | _ => none }
def fnExactSeenFromRightRow : OpenClaim := { program := "ytnajlnghhboelaa", sum := "330991529ee17be9c678a179ca8589b0c28aa1bddaae0a1d40fce2cf7e06c8dc", func := "loop.example/g01332/laws.FnExactSeenFromRight", spec := "fnExactSeenFromRight", unfollowed := true, recurses := true, apart := false }
def FnExactSeenFromRightSaid : Prop := fnExactSeenFromRightRow.holds Try.pinned (OpenSpec.ofChange fnExactSeenFromRightSpec)

/-- ITS FALSE NEIGHBOUR: 'it returns false'. Refute it at one input. -/
def fnExactSeenFromRightWrong : ChangeSpec := { name := "fnExactSeenFromRight", fn := fun _ => fun
  | [d] => { results := [.lit (.bool false)], args := [d] }
  | _ => none }
def FnExactSeenFromRightWrongFalsely : Prop := fnExactSeenFromRightRow.holds Try.pinned (OpenSpec.ofChange fnExactSeenFromRightWrong)

/-- 'laws.FnExactMirrorHeights': WHATEVER THE INPUT: true; the input reads as it did. -/
def fnExactMirrorHeightsSpec : ChangeSpec := { name := "fnExactMirrorHeights", fn := fun _ => fun
  | [d] => { results := [.lit (.bool true)], args := [d] }
  | _ => none }
def fnExactMirrorHeightsRow : OpenClaim := { program := "ytnajlnghhboelaa", sum := "330991529ee17be9c678a179ca8589b0c28aa1bddaae0a1d40fce2cf7e06c8dc", func := "loop.example/g01332/laws.FnExactMirrorHeights", spec := "fnExactMirrorHeights", unfollowed := true, recurses := true, apart := false }
def FnExactMirrorHeightsSaid : Prop := fnExactMirrorHeightsRow.holds Try.pinned (OpenSpec.ofChange fnExactMirrorHeightsSpec)

/-- ITS FALSE NEIGHBOUR: 'it returns false'. Refute it at one input. -/
def fnExactMirrorHeightsWrong : ChangeSpec := { name := "fnExactMirrorHeights", fn := fun _ => fun
  | [d] => { results := [.lit (.bool false)], args := [d] }
  | _ => none }
def FnExactMirrorHeightsWrongFalsely : Prop := fnExactMirrorHeightsRow.holds Try.pinned (OpenSpec.ofChange fnExactMirrorHeightsWrong)

/-- 'laws.FnExactNextTaller': WHATEVER THE INPUT: true; the input reads as it did. -/
def fnExactNextTallerSpec : ChangeSpec := { name := "fnExactNextTaller", fn := fun _ => fun
  | [d] => { results := [.lit (.bool true)], args := [d] }
  | _ => none }
def fnExactNextTallerRow : OpenClaim := { program := "ytnajlnghhboelaa", sum := "330991529ee17be9c678a179ca8589b0c28aa1bddaae0a1d40fce2cf7e06c8dc", func := "loop.example/g01332/laws.FnExactNextTaller", spec := "fnExactNextTaller", unfollowed := true, recurses := true, apart := false }
def FnExactNextTallerSaid : Prop := fnExactNextTallerRow.holds Try.pinned (OpenSpec.ofChange fnExactNextTallerSpec)

/-- ITS FALSE NEIGHBOUR: 'it returns false'. Refute it at one input. -/
def fnExactNextTallerWrong : ChangeSpec := { name := "fnExactNextTaller", fn := fun _ => fun
  | [d] => { results := [.lit (.bool false)], args := [d] }
  | _ => none }
def FnExactNextTallerWrongFalsely : Prop := fnExactNextTallerRow.holds Try.pinned (OpenSpec.ofChange fnExactNextTallerWrong)

/-- 'laws.FnExactRanksOf': WHATEVER THE INPUT: true; the input reads as it did. -/
def fnExactRanksOfSpec : ChangeSpec := { name := "fnExactRanksOf", fn := fun _ => fun
  | [d] => { results := [.lit (.bool true)], args := [d] }
  | _ => none }
def fnExactRanksOfRow : OpenClaim := { program := "ytnajlnghhboelaa", sum := "330991529ee17be9c678a179ca8589b0c28aa1bddaae0a1d40fce2cf7e06c8dc", func := "loop.example/g01332/laws.FnExactRanksOf", spec := "fnExactRanksOf", unfollowed := true, recurses := true, apart := false }
def FnExactRanksOfSaid : Prop := fnExactRanksOfRow.holds Try.pinned (OpenSpec.ofChange fnExactRanksOfSpec)

/-- ITS FALSE NEIGHBOUR: 'it returns false'. Refute it at one input. -/
def fnExactRanksOfWrong : ChangeSpec := { name := "fnExactRanksOf", fn := fun _ => fun
  | [d] => { results := [.lit (.bool false)], args := [d] }
  | _ => none }
def FnExactRanksOfWrongFalsely : Prop := fnExactRanksOfRow.holds Try.pinned (OpenSpec.ofChange fnExactRanksOfWrong)

/-- 'laws.FnExactCountDisorder': WHATEVER THE INPUT: true; the input reads as it did. -/
def fnExactCountDisorderSpec : ChangeSpec := { name := "fnExactCountDisorder", fn := fun _ => fun
  | [d] => { results := [.lit (.bool true)], args := [d] }
  | _ => none }
def fnExactCountDisorderRow : OpenClaim := { program := "ytnajlnghhboelaa", sum := "330991529ee17be9c678a179ca8589b0c28aa1bddaae0a1d40fce2cf7e06c8dc", func := "loop.example/g01332/laws.FnExactCountDisorder", spec := "fnExactCountDisorder", unfollowed := true, recurses := true, apart := false }
def FnExactCountDisorderSaid : Prop := fnExactCountDisorderRow.holds Try.pinned (OpenSpec.ofChange fnExactCountDisorderSpec)

/-- ITS FALSE NEIGHBOUR: 'it returns false'. Refute it at one input. -/
def fnExactCountDisorderWrong : ChangeSpec := { name := "fnExactCountDisorder", fn := fun _ => fun
  | [d] => { results := [.lit (.bool false)], args := [d] }
  | _ => none }
def FnExactCountDisorderWrongFalsely : Prop := fnExactCountDisorderRow.holds Try.pinned (OpenSpec.ofChange fnExactCountDisorderWrong)

/-- 'laws.FnExactTallestOfWindows': WHATEVER THE INPUT: true; the input reads as it did. -/
def fnExactTallestOfWindowsSpec : ChangeSpec := { name := "fnExactTallestOfWindows", fn := fun _ => fun
  | [d1, d2] => { results := [.lit (.bool true)], args := [d1, d2] }
  | _ => none }
def fnExactTallestOfWindowsRow : OpenClaim := { program := "ytnajlnghhboelaa", sum := "330991529ee17be9c678a179ca8589b0c28aa1bddaae0a1d40fce2cf7e06c8dc", func := "loop.example/g01332/laws.FnExactTallestOfWindows", spec := "fnExactTallestOfWindows", apart := false }
def FnExactTallestOfWindowsSaid : Prop := fnExactTallestOfWindowsRow.holds Try.pinned (OpenSpec.ofChange fnExactTallestOfWindowsSpec)

/-- ITS FALSE NEIGHBOUR: 'it returns false'. Refute it at one input. -/
def fnExactTallestOfWindowsWrong : ChangeSpec := { name := "fnExactTallestOfWindows", fn := fun _ => fun
  | [d1, d2] => { results := [.lit (.bool false)], args := [d1, d2] }
  | _ => none }
def FnExactTallestOfWindowsWrongFalsely : Prop := fnExactTallestOfWindowsRow.holds Try.pinned (OpenSpec.ofChange fnExactTallestOfWindowsWrong)

/-- 'laws.FnExactFirstBySeen': WHATEVER THE INPUT: true; the input reads as it did. -/
def fnExactFirstBySeenSpec : ChangeSpec := { name := "fnExactFirstBySeen", fn := fun _ => fun
  | [d1, d2, d3] => { results := [.lit (.bool true)], args := [d1, d2, d3] }
  | _ => none }
def fnExactFirstBySeenRow : OpenClaim := { program := "ytnajlnghhboelaa", sum := "330991529ee17be9c678a179ca8589b0c28aa1bddaae0a1d40fce2cf7e06c8dc", func := "loop.example/g01332/laws.FnExactFirstBySeen", spec := "fnExactFirstBySeen", recurses := true, apart := false }
def FnExactFirstBySeenSaid : Prop := fnExactFirstBySeenRow.holds Try.pinned (OpenSpec.ofChange fnExactFirstBySeenSpec)

/-- ITS FALSE NEIGHBOUR: 'it returns false'. Refute it at one input. -/
def fnExactFirstBySeenWrong : ChangeSpec := { name := "fnExactFirstBySeen", fn := fun _ => fun
  | [d1, d2, d3] => { results := [.lit (.bool false)], args := [d1, d2, d3] }
  | _ => none }
def FnExactFirstBySeenWrongFalsely : Prop := fnExactFirstBySeenRow.holds Try.pinned (OpenSpec.ofChange fnExactFirstBySeenWrong)

/-- 'laws.FnExactStepUp': WHATEVER THE INPUT: true; the input reads as it did. -/
def fnExactStepUpSpec : ChangeSpec := { name := "fnExactStepUp", fn := fun _ => fun
  | [d1, d2, d3] => { results := [.lit (.bool true)], args := [d1, d2, d3] }
  | _ => none }
def fnExactStepUpRow : OpenClaim := { program := "ytnajlnghhboelaa", sum := "330991529ee17be9c678a179ca8589b0c28aa1bddaae0a1d40fce2cf7e06c8dc", func := "loop.example/g01332/laws.FnExactStepUp", spec := "fnExactStepUp", apart := false }
def FnExactStepUpSaid : Prop := fnExactStepUpRow.holds Try.pinned (OpenSpec.ofChange fnExactStepUpSpec)

/-- ITS FALSE NEIGHBOUR: 'it returns false'. Refute it at one input. -/
def fnExactStepUpWrong : ChangeSpec := { name := "fnExactStepUp", fn := fun _ => fun
  | [d1, d2, d3] => { results := [.lit (.bool false)], args := [d1, d2, d3] }
  | _ => none }
def FnExactStepUpWrongFalsely : Prop := fnExactStepUpRow.holds Try.pinned (OpenSpec.ofChange fnExactStepUpWrong)

/- THE SECOND FORM. 'bulk': how many values and letters a reading holds, each counted each time it is reached (what is shared counts as often as it is met; a slice's spare places count too). A statement '..UptoSaid' is the law's where the arguments, and the package variables that the reading takes, are together of bulk at most 1048576: NARROWER than '..Said'. Prove '..Said' where nothing that the law and all that it calls make is longer than what came in: it says more and counts as full. Else prove '..UptoSaid'. A law counts once. -/
mutual
def uptoBulk {H : Type} : DataW H → Nat
  | .lit (.string bytes) => bytes.length + 1
  | .lit _ => 1
  | .nil => 1
  | .ptr d => uptoBulk d + 1
  | .slice elems spare => uptoBulkAll elems + uptoBulkAll spare + 1
  | .agg parts => uptoBulkAll parts + 1
  | .iface _ d => uptoBulk d + 1
  | .map entries => uptoBulkEntries entries + 1
  | .held _ => 1
def uptoBulkAll {H : Type} : List (DataW H) → Nat
  | [] => 0
  | d :: r => uptoBulk d + uptoBulkAll r
def uptoBulkEntries {H : Type} : List (Lit × DataW H) → Nat
  | [] => 0
  | x :: r => uptoBulkEntry x + uptoBulkEntries r
def uptoBulkEntry {H : Type} : Lit × DataW H → Nat
  | (.string bytes, d) => bytes.length + uptoBulk d + 1
  | (_, d) => uptoBulk d + 1
 end
def uptoSmall : (H : Type) → List (DataW H) → Bool := fun _ ds => decide (uptoBulkAll ds ≤ 1048576)
def OpenSpec.upto (s : _root_.Go.ChangeSpec) : _root_.Go.OpenSpec := { _root_.Go.OpenSpec.ofChange s with cond := some uptoSmall }

/-- 'laws.FnExactAreHeights', WHERE WHAT IT READS IS OF BULK AT MOST 1048576: true; the input reads as it did. -/
def fnExactAreHeightsUptoRow : OpenClaim := { program := "ytnajlnghhboelaa", sum := "330991529ee17be9c678a179ca8589b0c28aa1bddaae0a1d40fce2cf7e06c8dc", func := "loop.example/g01332/laws.FnExactAreHeights", spec := "fnExactAreHeights", apart := false, narrowed := true }
def FnExactAreHeightsUptoSaid : Prop := fnExactAreHeightsUptoRow.holds Try.pinned (OpenSpec.upto fnExactAreHeightsSpec)

/-- 'laws.FnExactSeenFromLeft', WHERE WHAT IT READS IS OF BULK AT MOST 1048576: true; the input reads as it did. -/
def fnExactSeenFromLeftUptoRow : OpenClaim := { program := "ytnajlnghhboelaa", sum := "330991529ee17be9c678a179ca8589b0c28aa1bddaae0a1d40fce2cf7e06c8dc", func := "loop.example/g01332/laws.FnExactSeenFromLeft", spec := "fnExactSeenFromLeft", unfollowed := true, recurses := true, apart := false, narrowed := true }
def FnExactSeenFromLeftUptoSaid : Prop := fnExactSeenFromLeftUptoRow.holds Try.pinned (OpenSpec.upto fnExactSeenFromLeftSpec)

/-- 'laws.FnExactSeenFromRight', WHERE WHAT IT READS IS OF BULK AT MOST 1048576: true; the input reads as it did. -/
def fnExactSeenFromRightUptoRow : OpenClaim := { program := "ytnajlnghhboelaa", sum := "330991529ee17be9c678a179ca8589b0c28aa1bddaae0a1d40fce2cf7e06c8dc", func := "loop.example/g01332/laws.FnExactSeenFromRight", spec := "fnExactSeenFromRight", unfollowed := true, recurses := true, apart := false, narrowed := true }
def FnExactSeenFromRightUptoSaid : Prop := fnExactSeenFromRightUptoRow.holds Try.pinned (OpenSpec.upto fnExactSeenFromRightSpec)

/-- 'laws.FnExactMirrorHeights', WHERE WHAT IT READS IS OF BULK AT MOST 1048576: true; the input reads as it did. -/
def fnExactMirrorHeightsUptoRow : OpenClaim := { program := "ytnajlnghhboelaa", sum := "330991529ee17be9c678a179ca8589b0c28aa1bddaae0a1d40fce2cf7e06c8dc", func := "loop.example/g01332/laws.FnExactMirrorHeights", spec := "fnExactMirrorHeights", unfollowed := true, recurses := true, apart := false, narrowed := true }
def FnExactMirrorHeightsUptoSaid : Prop := fnExactMirrorHeightsUptoRow.holds Try.pinned (OpenSpec.upto fnExactMirrorHeightsSpec)

/-- 'laws.FnExactNextTaller', WHERE WHAT IT READS IS OF BULK AT MOST 1048576: true; the input reads as it did. -/
def fnExactNextTallerUptoRow : OpenClaim := { program := "ytnajlnghhboelaa", sum := "330991529ee17be9c678a179ca8589b0c28aa1bddaae0a1d40fce2cf7e06c8dc", func := "loop.example/g01332/laws.FnExactNextTaller", spec := "fnExactNextTaller", unfollowed := true, recurses := true, apart := false, narrowed := true }
def FnExactNextTallerUptoSaid : Prop := fnExactNextTallerUptoRow.holds Try.pinned (OpenSpec.upto fnExactNextTallerSpec)

/-- 'laws.FnExactRanksOf', WHERE WHAT IT READS IS OF BULK AT MOST 1048576: true; the input reads as it did. -/
def fnExactRanksOfUptoRow : OpenClaim := { program := "ytnajlnghhboelaa", sum := "330991529ee17be9c678a179ca8589b0c28aa1bddaae0a1d40fce2cf7e06c8dc", func := "loop.example/g01332/laws.FnExactRanksOf", spec := "fnExactRanksOf", unfollowed := true, recurses := true, apart := false, narrowed := true }
def FnExactRanksOfUptoSaid : Prop := fnExactRanksOfUptoRow.holds Try.pinned (OpenSpec.upto fnExactRanksOfSpec)

/-- 'laws.FnExactCountDisorder', WHERE WHAT IT READS IS OF BULK AT MOST 1048576: true; the input reads as it did. -/
def fnExactCountDisorderUptoRow : OpenClaim := { program := "ytnajlnghhboelaa", sum := "330991529ee17be9c678a179ca8589b0c28aa1bddaae0a1d40fce2cf7e06c8dc", func := "loop.example/g01332/laws.FnExactCountDisorder", spec := "fnExactCountDisorder", unfollowed := true, recurses := true, apart := false, narrowed := true }
def FnExactCountDisorderUptoSaid : Prop := fnExactCountDisorderUptoRow.holds Try.pinned (OpenSpec.upto fnExactCountDisorderSpec)

/-- 'laws.FnExactTallestOfWindows', WHERE WHAT IT READS IS OF BULK AT MOST 1048576: true; the input reads as it did. -/
def fnExactTallestOfWindowsUptoRow : OpenClaim := { program := "ytnajlnghhboelaa", sum := "330991529ee17be9c678a179ca8589b0c28aa1bddaae0a1d40fce2cf7e06c8dc", func := "loop.example/g01332/laws.FnExactTallestOfWindows", spec := "fnExactTallestOfWindows", apart := false, narrowed := true }
def FnExactTallestOfWindowsUptoSaid : Prop := fnExactTallestOfWindowsUptoRow.holds Try.pinned (OpenSpec.upto fnExactTallestOfWindowsSpec)

/-- 'laws.FnExactFirstBySeen', WHERE WHAT IT READS IS OF BULK AT MOST 1048576: true; the input reads as it did. -/
def fnExactFirstBySeenUptoRow : OpenClaim := { program := "ytnajlnghhboelaa", sum := "330991529ee17be9c678a179ca8589b0c28aa1bddaae0a1d40fce2cf7e06c8dc", func := "loop.example/g01332/laws.FnExactFirstBySeen", spec := "fnExactFirstBySeen", recurses := true, apart := false, narrowed := true }
def FnExactFirstBySeenUptoSaid : Prop := fnExactFirstBySeenUptoRow.holds Try.pinned (OpenSpec.upto fnExactFirstBySeenSpec)

/-- 'laws.FnExactStepUp', WHERE WHAT IT READS IS OF BULK AT MOST 1048576: true; the input reads as it did. -/
def fnExactStepUpUptoRow : OpenClaim := { program := "ytnajlnghhboelaa", sum := "330991529ee17be9c678a179ca8589b0c28aa1bddaae0a1d40fce2cf7e06c8dc", func := "loop.example/g01332/laws.FnExactStepUp", spec := "fnExactStepUp", apart := false, narrowed := true }
def FnExactStepUpUptoSaid : Prop := fnExactStepUpUptoRow.holds Try.pinned (OpenSpec.upto fnExactStepUpSpec)

end Rows
end Go.Proofs.Ytnajlnghhboelaa
