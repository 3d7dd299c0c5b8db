/- Chapter 7, the model: odPlay, PlayNeighbours, PlayWindows. -/
import Derived.Test.YtkdpjimbhpclaaaOda
namespace Go.Proofs.Ytkdpjimbhpclaaa
open Go.ChangeShapes Go.WideShapes Go.ChangeAt Go.RowKit
open Rx Od

namespace Od
def plNb (l : List Bool) (zs : List Int) : Nat → List Bool
  | 0 => l
  | k + 1 => aroundL (plNb l zs k) (zs.getD k 0).toNat
def plWi (l : List Bool) (wd : Nat) (zs : List Int) : Nat → List Bool
  | 0 => l
  | k + 1 => turnTo (plWi l wd zs k) (zs.getD k 0).toNat ((zs.getD k 0).toNat + wd)
theorem plNb_len (l : List Bool) (zs : List Int) : ∀ k, (plNb l zs k).length = l.length
  | 0 => rfl
  | k + 1 => by rw [plNb, length_aroundL, plNb_len l zs k]
theorem plWi_len (l : List Bool) (wd : Nat) (zs : List Int) : ∀ k, (plWi l wd zs k).length = l.length
  | 0 => rfl
  | k + 1 => by rw [plWi, length_turnTo, plWi_len l wd zs k]
theorem allB_getO {zs : List Int} {lo hi : Int} (h : allB zs lo hi = true) (j : Nat) (hj : j < zs.length) : lo ≤ zs.getD j 0 ∧ zs.getD j 0 ≤ hi := by
  unfold allB at h
  rw [List.all_eq_true] at h
  refine inB_yes (h _ ?_)
  simp only [List.getD_eq_getElem?_getD, List.getElem?_eq_getElem hj, Option.getD_some]
  exact List.getElem_mem hj
def pnB (s : ByteArray) (zs : List Int) : Bool := ordB s && (decide (zs.length ≤ 100) && allB zs 0 ((s.size : Int) - 1))
def pwB (s : ByteArray) (wd : Int) (zs : List Int) : Bool := ordB s && (inB wd 1 (s.size : Int) && (decide (zs.length ≤ 100) && allB zs 0 ((s.size : Int) - wd)))
end Od
def outPlayNeighbours_0 (s : ByteArray) (zs : List Int) : ByteArray := if pnB s zs then Rw.str (plNb (rowOf s) zs zs.length) else ByteArray.empty
def outPlayNeighbours_1 (s : ByteArray) (zs : List Int) : Bool := pnB s zs
def outPlayWindows_0 (s : ByteArray) (wd : Int) (zs : List Int) : ByteArray := if pwB s wd zs then Rw.str (plWi (rowOf s) wd.toNat zs zs.length) else ByteArray.empty
def outPlayWindows_1 (s : ByteArray) (wd : Int) (zs : List Int) : Bool := pwB s wd zs




end Go.Proofs.Ytkdpjimbhpclaaa
