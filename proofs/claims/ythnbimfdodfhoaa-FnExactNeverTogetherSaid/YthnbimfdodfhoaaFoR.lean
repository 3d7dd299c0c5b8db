/- Chapter 3, roots and triangles: the model's foRoot, foTriangle, SquareOf, TriangleOf. -/
import Derived.Test.YthnbimfdodfhoaaFo
import Derived.Test.YthnbimfdodfhoaaFoM
namespace Go.Proofs.Ythnbimfdodfhoaa
open Go.ChangeShapes Go.WideShapes Go.ChangeAt Go.RowKit
open Fo

def soldB (n : Int) : Bool := inB n 1 1000000
theorem sold_nat {n : Int} (h : soldB n = true) : ∃ m : Nat, n = (m : Int) ∧ 1 ≤ m ∧ m ≤ 1000000 := by
  have := inB_yes h
  exact ⟨n.toNat, by omega, by omega, by omega⟩
def outSquareOf_0 (n : Int) : Int := if soldB n then (root n.toNat : Nat) else 0
def outSquareOf_1 (n : Int) : Int := if soldB n then n - ((root n.toNat * root n.toNat : Nat) : Int) else 0
def outSquareOf_2 (n : Int) : Bool := soldB n
def outTriangleOf_0 (n : Int) : Int := if soldB n then (tri n.toNat : Nat) else 0
def outTriangleOf_1 (n : Int) : Int := if soldB n then (triLeft n.toNat : Nat) else 0
def outTriangleOf_2 (n : Int) : Bool := soldB n
theorem root_bd {n : Nat} (h : n ≤ 1000000) : root n ≤ 1000 := root_le (by omega)
theorem sq_bd {r b : Nat} (h : r ≤ b) : r * r ≤ b * b := Nat.mul_self_le_mul_self h





end Go.Proofs.Ythnbimfdodfhoaa
