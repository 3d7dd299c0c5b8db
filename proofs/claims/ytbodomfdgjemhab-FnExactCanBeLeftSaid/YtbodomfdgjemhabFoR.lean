/- Chapter 3, roots and triangles: the model's foRoot, foTriangle, SquareOf, TriangleOf. -/
import Derived.Test.YtbodomfdgjemhabFo
import Derived.Test.YtbodomfdgjemhabFoM
namespace Go.Proofs.Ytbodomfdgjemhab
open Go.ChangeShapes Go.WideShapes Go.ChangeAt Go.RowKit
open Fo

def soldB (n : Int) : Bool := inB n 1 1000000
theorem sold_nat {n : Int} (h : soldB n = true) : ∃ m : Nat, n = (m : Int) ∧ 1 ≤ m ∧ m ≤ 1000000 := by
  have := inB_yes h
  exact ⟨n.toNat, by omega, by omega, by omega⟩
def outSquareOf_0 (n : Int) : Int := if soldB n then (root n.toNat : Nat) else 0
def outSquareOf_1 (n : Int) : Int := if soldB n then n - ((root n.toNat * root n.toNat : Nat) : Int) else 0
def outSquareOf_2 (n : Int) : Bool := soldB n
def outTriangleOf_0 (n : Int) : Int := if soldB n then (tri n.toNat : Nat) else 0
def outTriangleOf_1 (n : Int) : Int := if soldB n then (triLeft n.toNat : Nat) else 0
def outTriangleOf_2 (n : Int) : Bool := soldB n
theorem root_bd {n : Nat} (h : n ≤ 1000000) : root n ≤ 1000 := root_le (by omega)
theorem sq_bd {r b : Nat} (h : r ≤ b) : r * r ≤ b * b := Nat.mul_self_le_mul_self h

set_option maxHeartbeats 400000 in
theorem foRoot_any (n : Nat) (hn : n ≤ 1000000) (w : World) :
    Calls Try.prog 41 #[.int .i64 n] w fun e w' => e = .returned (.int .i64 (root n : Nat)) ∧ w = w' := by
  go_enter Try.func41, Try.ntmps41
  go_wp2
  go_loop [3] (fun r => ∃ k : Nat, k ≤ 1000 ∧ r = .int .i64 (k : Int) ∧ Hid (k * k ≤ n)) (fun r => 1001 - (intOf r).toNat)
  case atStart => exact ⟨0, by omega, rfl, Lib.hid (Nat.zero_le _)⟩
  case round =>
    obtain ⟨k, hk, rfl, HK⟩ := hrel
    have hb := sq_bd (show k + 1 ≤ 1001 by omega)
    obtain ⟨p, hp⟩ : ∃ p, p = (k + 1) * (k + 1) := ⟨_, rfl⟩
    have e1 : ((k : Int) + 1) * ((k : Int) + 1) = (p : Int) := by rw [hp]; simp
    rw [← hp] at hb
    have HP := Lib.hid hp
    clear hp
    by_cases hlt : p ≤ n
    · have hk2 : k + 1 ≤ 1000 := by
        rcases Nat.lt_or_ge 1000 (k + 1) with h | h
        · have := sq_bd (show 1001 ≤ k + 1 from h); rw [← HP.out] at this; omega
        · exact h
      go_wp2
      go_round
      case rel => exact ⟨k + 1, hk2, by go_num, Lib.hid (by rw [← HP.out]; exact hlt)⟩
      case measure => simp [intOf]; omega
    · have HR : Hid (k = root n) := Lib.hid (root_unique HK.out (by rw [← HP.out]; omega))
      go_wp2
      go_ret
      exact ⟨ret_int (by rw [HR.out]), rfl⟩

set_option maxHeartbeats 400000 in
theorem foTriangle_any (n : Nat) (hn : n ≤ 1000000) (w : World) :
    Calls Try.prog 44 #[.int .i64 n] w fun e w' => e = .returned (.tuple #[.int .i64 (tri n : Nat), .int .i64 (triLeft n : Nat)]) ∧ Below w.heap.size w w' := by
  go_enter Try.func44, Try.ntmps44
  go_wp2
  go_loop [0, 4] (fun c r => ∃ k m : Nat, k ≤ 1000000 ∧ m ≤ 1000000 ∧ k + m ≤ 1000000 ∧ r = .int .i64 (k : Int) ∧ c = .int .i64 (m : Int) ∧ Hid (2 * m + k * (k + 1) = 2 * n)) (fun c _ => (intOf c).toNat)
  case atStart => exact ⟨0, n, by omega, by omega, by omega, rfl, rfl, Lib.hid (by omega)⟩
  case round =>
    obtain ⟨k, m, hk, hm, hkm, rfl, rfl, HK⟩ := hrel
    by_cases hlt : k < m
    · have HK2 : Hid (2 * (m - (k + 1)) + (k + 1) * (k + 2) = 2 * n) := Lib.hid (by have := HK.out; have := tri_succ k; omega)
      go_wp2
      go_round
      case rel => exact ⟨k + 1, m - (k + 1), by omega, by omega, by omega, by go_num, int_eq (by omega), HK2⟩
      case measure => simp [intOf]; omega
    · have HR := Lib.hid (triLeft_of HK.out (by omega))
      go_wp2
      go_ret2
      exact ⟨by rw [← HR.out.1, ← HR.out.2]; exact rfl, Below.refl _ _⟩



end Go.Proofs.Ytbodomfdgjemhab
