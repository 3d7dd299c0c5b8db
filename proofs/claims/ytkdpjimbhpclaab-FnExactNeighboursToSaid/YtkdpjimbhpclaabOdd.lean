/- Chapter 7, the model: odWindows; CanByWindows, WindowsTo, CountByWindows. -/
import Derived.Test.YtkdpjimbhpclaabOdb
namespace Go.Proofs.Ytkdpjimbhpclaab
open Go.ChangeShapes Go.WideShapes Go.ChangeAt Go.RowKit
open Rx Od

namespace Od
/-- the row and the windows behind the first i places -/
def wiTo (l m : List Bool) (wd : Nat) : Nat → List Bool × List Int
  | 0 => (l, [])
  | i + 1 => if ((wiTo l m wd i).1.getD i false != m.getD i false) then (turnTo (wiTo l m wd i).1 i (i + wd), (wiTo l m wd i).2 ++ [(i : Int)]) else wiTo l m wd i
theorem wiTo_len (l m : List Bool) (wd : Nat) : ∀ i, (wiTo l m wd i).1.length = l.length ∧ (wiTo l m wd i).2.length ≤ i
  | 0 => ⟨rfl, Nat.le_refl _⟩
  | i + 1 => by
    have h := wiTo_len l m wd i
    rw [wiTo]
    split
    · exact ⟨by rw [length_turnTo]; exact h.1, by rw [List.length_append, List.length_singleton]; omega⟩
    · exact ⟨h.1, by omega⟩
def winL (l m : List Bool) (wd : Nat) : List Int := (wiTo l m wd (l.length - wd + 1)).2
def winB (l m : List Bool) (wd : Nat) : Bool := decide ((wiTo l m wd (l.length - wd + 1)).1 = m)
theorem str_eqB {s t : ByteArray} {l m : List Bool} (hs : s = Rw.str l) (ht : t = Rw.str m) : (s.toList == t.toList) = decide (l = m) := by
  subst hs ht
  by_cases h : l = m
  · subst h; simp
  · rw [decide_eq_false h, beq_eq_false_iff_ne]
    intro e
    apply h
    rw [ByteArray.toList_eq, ByteArray.toList_eq] at e
    exact Rw.str_inj (ByteArray.ext (Array.toList_inj.1 e))
def wideB (a b : ByteArray) (wd : Int) : Bool := twoB a b && inB wd 1 (a.size : Int)
end Od


def canB (a b : ByteArray) (wd : Int) : Bool := wideB a b wd && winB (rowOf a) (rowOf b) wd.toNat
def outCanByWindows_0 (a b : ByteArray) (wd : Int) : Bool := canB a b wd
def outCanByWindows_1 (a b : ByteArray) (wd : Int) : Bool := wideB a b wd
def outWindowsTo_0 (a b : ByteArray) (wd : Int) : List Int := if canB a b wd then winL (rowOf a) (rowOf b) wd.toNat else []
def outWindowsTo_1 (a b : ByteArray) (wd : Int) : Bool := canB a b wd
theorem lenWindowsTo_0 (a b : ByteArray) (wd : Int) (ha : a.size ≤ 1048576) (_hb : b.size ≤ 1048576) : (outWindowsTo_0 a b wd).length ≤ 4611686018427387904 := by
  unfold outWindowsTo_0
  split
  · have h1 := (wiTo_len (rowOf a) (rowOf b) wd.toNat ((rowOf a).length - wd.toNat + 1)).2
    have h2 : (rowOf a).length = a.size := by unfold rowOf; rw [List.length_map, Array.length_toList]; rfl
    unfold winL
    omega
  · simp






end Go.Proofs.Ytkdpjimbhpclaab
