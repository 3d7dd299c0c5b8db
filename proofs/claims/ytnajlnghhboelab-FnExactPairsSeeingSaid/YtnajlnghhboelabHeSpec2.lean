/- Chapter 2, the model's functions: heRight, NextTaller, RanksOf, MirrorHeights. -/
import Derived.Test.YtnajlnghhboelabHeSpec
namespace Go.Proofs.Ytnajlnghhboelab
open Go.ChangeShapes Go.WideShapes Go.ChangeAt Go.RowKit

def heights (zs : List Int) : List Nat := zs.map Int.toNat
theorem back_asInts (hs : List Nat) (k : Nat) : He.backTo (asInts hs) k = asInts (He.backTo hs k) := by
  unfold He.backTo asInts; rw [← List.map_drop, List.map_reverse]
def rightL (hs : List Nat) : List Int := (He.backTo (He.seen (He.backTo hs 0)) 0).map fun i : Nat => (hs.length : Int) - 1 - (i : Int)
theorem seen_lt {hs : List Nat} {x : Nat} (h : x ∈ He.seen hs) : x < hs.length := by
  unfold He.seen He.seenTo at h
  exact List.mem_range.1 (List.mem_filter.1 h).1


end Go.Proofs.Ytnajlnghhboelab
