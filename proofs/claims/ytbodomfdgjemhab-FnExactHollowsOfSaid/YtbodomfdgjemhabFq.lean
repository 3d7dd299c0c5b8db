/- Chapter 3, the program's greatestOf with its two sizes; SquareOf, TriangleOf. -/
import Derived.Test.YtbodomfdgjemhabFp
namespace Go.Proofs.Ytbodomfdgjemhab
open Go.ChangeShapes Go.WideShapes Go.ChangeAt Go.RowKit
open Fo

set_option maxHeartbeats 400000 in
theorem triangleSize_any (r p : Nat) (hp : r * (r + 1) = p) (h : p ≤ 1000000000000) (hr : r ≤ 1000000) (w : World) :
    Calls Try.prog 45 #[.int .i64 r] w fun e w' => e = .returned (.int .i64 ((p / 2 : Nat) : Int)) ∧ w = w' := by
  have e1 : (r : Int) * ((r : Int) + 1) = (p : Int) := by rw [← hp]; simp
  have HP : Hid (((p / 2 : Nat) : Int) = (p : Int) / 2) := Lib.hid (by omega)
  clear hp
  go_enter Try.func45, Try.ntmps45
  go_wp2
  go_ret
  exact ⟨ret_int (by rw [HP.out]), rfl⟩
theorem tri_prod_bd {k b : Nat} (h : k ≤ b) : k * (k + 1) ≤ b * (b + 1) := Nat.mul_le_mul h (by omega)

theorem squareNat_any (k p : Nat) (hp : k * k = p) (h : p ≤ 1000000000000) (w : World) :
    Calls Try.prog 42 #[.int .i64 k] w fun e w' => e = .returned (.int .i64 (p : Int)) ∧ w = w' := by
  have e1 : (k : Int) * (k : Int) = (p : Int) := by rw [← hp]; simp
  have := squareSize_any (k : Int) (by rw [e1]; omega) (by rw [e1]; omega) w
  rw [e1] at this
  exact this
set_option maxHeartbeats 1000000 in
theorem greatestSq_any (n : Nat) (hn : n ≤ 1000000) (w : World) :
    Calls Try.prog 43 #[.int .i64 n, .func (.func 42) #[] #[]] w fun e w' => e = .returned (.tuple #[.int .i64 (root n : Nat), .int .i64 ((n : Int) - ((root n * root n : Nat) : Int))]) ∧ w = w' := by
  go_enter Try.func43, Try.ntmps43
  go_wp2
  go_loop [6] (fun r => ∃ k : Nat, k ≤ 1000 ∧ r = .int .i64 (k : Int) ∧ Hid (k * k ≤ n)) (fun r => 1001 - (intOf r).toNat)
  case atStart => exact ⟨0, by omega, rfl, Lib.hid (Nat.zero_le _)⟩
  case round =>
    obtain ⟨k, hk, rfl, HK⟩ := hrel
    have hb := sq_bd (show k + 1 ≤ 1001 by omega)
    obtain ⟨p, hp⟩ : ∃ p, p = (k + 1) * (k + 1) := ⟨_, rfl⟩
    rw [← hp] at hb
    have HS := squareNat_any (k + 1) p hp.symm (by omega) w
    have HP := Lib.hid hp
    rw [show (((k + 1 : Nat) : Int)) = (k : Int) + 1 by omega] at HS
    have HS := Lib.hid HS
    clear hp
    by_cases hlt : p ≤ n
    · have hk2 : k + 1 ≤ 1000 := by
        rcases Nat.lt_or_ge 1000 (k + 1) with h | h
        · have := sq_bd (show 1001 ≤ k + 1 from h); rw [← HP.out] at this; omega
        · exact h
      go_wp2_with fail
      go_at_call 42
      refine HS.out.mono ?_
      rintro e w' ⟨rfl, rfl⟩
      go_wp2
      go_round
      case rel => exact ⟨k + 1, hk2, by go_num, Lib.hid (by rw [← HP.out]; exact hlt)⟩
      case measure => simp [intOf]; omega
    · have HR : Hid (k = root n) := Lib.hid (root_unique HK.out (by rw [← HP.out]; omega))
      have hkk := HK.out
      obtain ⟨q, hq⟩ : ∃ q, q = k * k := ⟨_, rfl⟩
      have HT := Lib.hid (squareNat_any k q hq.symm (by rw [hq]; omega) w)
      have HQ : Hid (root n * root n = q) := Lib.hid (by rw [← HR.out]; exact hq.symm)
      rw [← hq] at hkk
      clear hq HK
      go_wp2_with fail
      go_at_call 42
      refine HS.out.mono ?_
      rintro e w' ⟨rfl, rfl⟩
      go_wp2_with fail
      go_at_call 42
      refine HT.out.mono ?_
      rintro e w' ⟨rfl, rfl⟩
      go_wp2
      go_ret2
      exact ⟨by rw [HQ.out, ← HR.out]; exact rfl, rfl⟩



end Go.Proofs.Ytbodomfdgjemhab
