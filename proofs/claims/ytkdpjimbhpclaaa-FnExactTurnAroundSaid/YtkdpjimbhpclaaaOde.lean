/- Chapter 7, the model: odChase, odBest; CanByNeighbours, NeighboursTo. -/
import Derived.Test.YtkdpjimbhpclaaaOdd
namespace Go.Proofs.Ytkdpjimbhpclaaa
open Go.ChangeShapes Go.WideShapes Go.ChangeAt Go.RowKit
open Rx Od

namespace Od
/-- the row and the orders behind the first k places -/
def chTo (l m : List Bool) (f : Bool) : Nat → List Bool × List Int
  | 0 => if f then (aroundL l 0, [0]) else (l, [])
  | k + 1 => if ((chTo l m f k).1.getD k false != m.getD k false) then (aroundL (chTo l m f k).1 (k + 1), (chTo l m f k).2 ++ [(k : Int) + 1]) else chTo l m f k
theorem chTo_len (l m : List Bool) (f : Bool) : ∀ i, (chTo l m f i).1.length = l.length ∧ (chTo l m f i).2.length ≤ i + 1
  | 0 => by
    rw [chTo]
    split
    · exact ⟨length_aroundL _ _, Nat.le_refl _⟩
    · exact ⟨rfl, Nat.zero_le _⟩
  | i + 1 => by
    have h := chTo_len l m f i
    rw [chTo]
    split
    · exact ⟨by rw [length_aroundL]; exact h.1, by rw [List.length_append, List.length_singleton]; omega⟩
    · exact ⟨h.1, by omega⟩
def chL (l m : List Bool) (f : Bool) : List Int := (chTo l m f (l.length - 1)).2
def chB (l m : List Bool) (f : Bool) : Bool := decide ((chTo l m f (l.length - 1)).1 = m)
theorem chL_len (l m : List Bool) (f : Bool) : (chL l m f).length ≤ l.length + 1 := by
  have := (chTo_len l m f (l.length - 1)).2
  unfold chL; omega
def bestB (l m : List Bool) : Bool := chB l m true || chB l m false
def bestL (l m : List Bool) : List Int := if chB l m true && (!chB l m false || decide ((chL l m true).length ≤ (chL l m false).length)) then chL l m true else if chB l m false then chL l m false else []
end Od



def nbB (a b : ByteArray) : Bool := twoB a b && bestB (rowOf a) (rowOf b)
def outCanByNeighbours_0 (a b : ByteArray) : Bool := nbB a b
def outCanByNeighbours_1 (a b : ByteArray) : Bool := twoB a b
theorem bestL_len (l m : List Bool) : (bestL l m).length ≤ l.length + 1 := by
  have h1 := chL_len l m true
  have h2 := chL_len l m false
  unfold bestL
  split
  · exact h1
  · split
    · exact h2
    · simp
def outNeighboursTo_0 (a b : ByteArray) : List Int := if twoB a b then bestL (rowOf a) (rowOf b) else []
def outNeighboursTo_1 (a b : ByteArray) : Bool := nbB a b
theorem lenNeighboursTo_0 (a b : ByteArray) (ha : a.size ≤ 1048576) (_hb : b.size ≤ 1048576) : (outNeighboursTo_0 a b).length ≤ 4611686018427387904 := by
  unfold outNeighboursTo_0
  split
  · have h1 := bestL_len (rowOf a) (rowOf b)
    have h2 : (rowOf a).length = a.size := by unfold rowOf; rw [List.length_map, Array.length_toList]; rfl
    omega
  · simp



end Go.Proofs.Ytkdpjimbhpclaaa
