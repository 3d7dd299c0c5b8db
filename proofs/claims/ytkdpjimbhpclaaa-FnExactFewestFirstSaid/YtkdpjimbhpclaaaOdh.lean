/- Chapter 7, the model: PlayRuns. -/
import Derived.Test.YtkdpjimbhpclaaaOda
import Derived.Test.YtkdpjimbhpclaaaCa
namespace Go.Proofs.Ytkdpjimbhpclaaa
open Go.ChangeShapes Go.WideShapes Go.ChangeAt Go.RowKit
open Rx Od

namespace Od
def runOk (n : Nat) (r : List Int) : Bool := decide (r.length = 2) && (inB (r.getD 0 0) 0 ((n : Int) - 1) && inB (r.getD 1 0) (r.getD 0 0) ((n : Int) - 1))
def prB (s : ByteArray) (zss : List (List Int)) : Bool := ordB s && (decide (zss.length ≤ 100) && zss.all (runOk s.size))
def plRu (l : List Bool) (zss : List (List Int)) : Nat → List Bool
  | 0 => l
  | k + 1 => turnTo (plRu l zss k) ((zss.getD k []).getD 0 0).toNat (((zss.getD k []).getD 1 0).toNat + 1)
theorem plRu_len (l : List Bool) (zss : List (List Int)) : ∀ k, (plRu l zss k).length = l.length
  | 0 => rfl
  | k + 1 => by rw [plRu, length_turnTo, plRu_len l zss k]
end Od
def outPlayRuns_0 (s : ByteArray) (zss : List (List Int)) : ByteArray := if prB s zss then Rw.str (plRu (rowOf s) zss zss.length) else ByteArray.empty
def outPlayRuns_1 (s : ByteArray) (zss : List (List Int)) : Bool := prB s zss


end Go.Proofs.Ytkdpjimbhpclaaa
