/- Chapter 3, roots and triangles: the model's foRoot, foTriangle, SquareOf, TriangleOf. -/
import Derived.Test.YtjdbmkphakpmbaaFo
import Derived.Test.YtjdbmkphakpmbaaFoM
namespace Go.Proofs.Ytjdbmkphakpmbaa
open Go.ChangeShapes Go.WideShapes Go.ChangeAt Go.RowKit
open Fo

def soldB (n : Int) : Bool := inB n 1 1000000
theorem sold_nat {n : Int} (h : soldB n = true) : ∃ m : Nat, n = (m : Int) ∧ 1 ≤ m ∧ m ≤ 1000000 := by
  have := inB_yes h
  exact ⟨n.toNat, by omega, by omega, by omega⟩
def outSquareOf_0 (n : Int) : Int := if soldB n then (root n.toNat : Nat) else 0
def outSquareOf_1 (n : Int) : Int := if soldB n then n - ((root n.toNat * root n.toNat : Nat) : Int) else 0
def outSquareOf_2 (n : Int) : Bool := soldB n
def outTriangleOf_0 (n : Int) : Int := if soldB n then (tri n.toNat : Nat) else 0
def outTriangleOf_1 (n : Int) : Int := if soldB n then (triLeft n.toNat : Nat) else 0
def outTriangleOf_2 (n : Int) : Bool := soldB n
theorem root_bd {n : Nat} (h : n ≤ 1000000) : root n ≤ 1000 := root_le (by omega)
theorem sq_bd {r b : Nat} (h : r ≤ b) : r * r ≤ b * b := Nat.mul_self_le_mul_self h

set_option maxRecDepth 20000 in
set_option maxHeartbeats 400000 in
theorem foRoot_any (n : Nat) (hn : n ≤ 1000000) (w : World) :
    Calls Try.prog 67 #[.int .i64 n] w fun e w' => e = .returned (.int .i64 (root n : Nat)) ∧ w = w' := by
  go_enter Try.func67, Try.ntmps67
  go_wp2
  go_loop [3] (fun r => ∃ k : Nat, k ≤ 1000 ∧ r = .int .i64 (k : Int) ∧ Hid (k * k ≤ n)) (fun r => 1001 - (intOf r).toNat)
  case atStart => exact ⟨0, by omega, rfl, Lib.hid (Nat.zero_le _)⟩
  case round =>
    obtain ⟨k, hk, rfl, HK⟩ := hrel
    have hb := sq_bd (show k + 1 ≤ 1001 by omega)
    obtain ⟨p, hp⟩ : ∃ p, p = (k + 1) * (k + 1) := ⟨_, rfl⟩
    have e1 : ((k : Int) + 1) * ((k : Int) + 1) = (p : Int) := by rw [hp]; simp
    rw [← hp] at hb
    have HP := Lib.hid hp
    clear hp
    by_cases hlt : p ≤ n
    · have hk2 : k + 1 ≤ 1000 := by
        rcases Nat.lt_or_ge 1000 (k + 1) with h | h
        · have := sq_bd (show 1001 ≤ k + 1 from h); rw [← HP.out] at this; omega
        · exact h
      go_wp2
      go_round
      case rel => exact ⟨k + 1, hk2, by go_num, Lib.hid (by rw [← HP.out]; exact hlt)⟩
      case measure => simp [intOf]; omega
    · have HR : Hid (k = root n) := Lib.hid (root_unique HK.out (by rw [← HP.out]; omega))
      go_wp2
      go_ret
      exact ⟨ret_int (by rw [HR.out]), rfl⟩

set_option maxRecDepth 20000 in
set_option maxHeartbeats 400000 in
theorem foTriangle_any (n : Nat) (hn : n ≤ 1000000) (w : World) :
    Calls Try.prog 69 #[.int .i64 n] w fun e w' => e = .returned (.tuple #[.int .i64 (tri n : Nat), .int .i64 (triLeft n : Nat)]) ∧ Below w.heap.size w w' := by
  go_enter Try.func69, Try.ntmps69
  go_wp2
  go_loop [0, 4] (fun c r => ∃ k m : Nat, k ≤ 1000000 ∧ m ≤ 1000000 ∧ k + m ≤ 1000000 ∧ r = .int .i64 (k : Int) ∧ c = .int .i64 (m : Int) ∧ Hid (2 * m + k * (k + 1) = 2 * n)) (fun c _ => (intOf c).toNat)
  case atStart => exact ⟨0, n, by omega, by omega, by omega, rfl, rfl, Lib.hid (by omega)⟩
  case round =>
    obtain ⟨k, m, hk, hm, hkm, rfl, rfl, HK⟩ := hrel
    by_cases hlt : k < m
    · have HK2 : Hid (2 * (m - (k + 1)) + (k + 1) * (k + 2) = 2 * n) := Lib.hid (by have := HK.out; have := tri_succ k; omega)
      go_wp2
      go_round
      case rel => exact ⟨k + 1, m - (k + 1), by omega, by omega, by omega, by go_num, int_eq (by omega), HK2⟩
      case measure => simp [intOf]; omega
    · have HR := Lib.hid (triLeft_of HK.out (by omega))
      go_wp2
      go_ret2
      exact ⟨by rw [← HR.out.1, ← HR.out.2]; exact rfl, Below.refl _ _⟩

set_option maxRecDepth 20000 in
set_option maxHeartbeats 400000 in
theorem specSquareOf_any (w : World) (n : Int) (_wn : (Lit.int .i64 n).wf = true) :
    Calls Try.prog 14 #[.int .i64 n] w fun e w' => e = .returned (.tuple #[.int .i64 (outSquareOf_0 n), .int .i64 (outSquareOf_1 n), .bool (outSquareOf_2 n)]) ∧ Below w.heap.size w w' := by
  have HH := Lib.hid (foSoldiers_any n w)
  clear _wn
  rcases hb : soldB n with _ | _
  · have H0 : Hid (outSquareOf_0 n = 0 ∧ outSquareOf_1 n = 0 ∧ outSquareOf_2 n = false) := Lib.hid (by unfold outSquareOf_0 outSquareOf_1 outSquareOf_2; rw [hb]; exact ⟨rfl, rfl, rfl⟩)
    rw [show inB n 1 1000000 = false from hb] at HH
    clear hb
    go_enter Try.func14, Try.ntmps14
    go_wp2_with (go_at_call 63; refine HH.out.mono ?_; rintro e w' ⟨rfl, rfl⟩)
    go_ret3
    exact ⟨by rw [H0.out.1, H0.out.2.1, H0.out.2.2]; exact rfl, Below.refl _ _⟩
  · obtain ⟨m, rfl, h1, h2⟩ := sold_nat hb
    have H0 : Hid (outSquareOf_0 m = (root m : Nat) ∧ outSquareOf_1 m = (m : Int) - ((root m * root m : Nat) : Int) ∧ outSquareOf_2 m = true) := Lib.hid (by unfold outSquareOf_0 outSquareOf_1 outSquareOf_2; rw [hb]; exact ⟨rfl, rfl, rfl⟩)
    rw [show inB m 1 1000000 = true from hb] at HH
    have HR := Lib.hid (foRoot_any m h2 w)
    have hrb := root_bd h2
    have hrs := (root_spec m).1
    obtain ⟨r, hr⟩ : ∃ r, r = root m := ⟨_, rfl⟩
    rw [← hr] at H0 HR hrb hrs
    obtain ⟨p, hp⟩ : ∃ p, p = r * r := ⟨_, rfl⟩
    have e1 : (r : Int) * (r : Int) = (p : Int) := by rw [hp]; simp
    rw [← hp] at H0 hrs
    clear hb hr hp
    go_enter Try.func14, Try.ntmps14
    go_wp2_with (first | (go_at_call 63; refine HH.out.mono ?_; rintro e w' ⟨rfl, rfl⟩) | (go_at_call 67; refine HR.out.mono ?_; rintro e w' ⟨rfl, rfl⟩))
    go_ret3
    exact ⟨by rw [H0.out.1, H0.out.2.1, H0.out.2.2]; exact rfl, Below.refl _ _⟩

set_option maxRecDepth 20000 in
set_option maxHeartbeats 400000 in
theorem specTriangleOf_any (w : World) (n : Int) (_wn : (Lit.int .i64 n).wf = true) :
    Calls Try.prog 16 #[.int .i64 n] w fun e w' => e = .returned (.tuple #[.int .i64 (outTriangleOf_0 n), .int .i64 (outTriangleOf_1 n), .bool (outTriangleOf_2 n)]) ∧ Below w.heap.size w w' := by
  have HH := Lib.hid (foSoldiers_any n w)
  clear _wn
  rcases hb : soldB n with _ | _
  · have H0 : Hid (outTriangleOf_0 n = 0 ∧ outTriangleOf_1 n = 0 ∧ outTriangleOf_2 n = false) := Lib.hid (by unfold outTriangleOf_0 outTriangleOf_1 outTriangleOf_2; rw [hb]; exact ⟨rfl, rfl, rfl⟩)
    rw [show inB n 1 1000000 = false from hb] at HH
    clear hb
    go_enter Try.func16, Try.ntmps16
    go_wp2_with (go_at_call 63; refine HH.out.mono ?_; rintro e w' ⟨rfl, rfl⟩)
    go_ret3
    exact ⟨by rw [H0.out.1, H0.out.2.1, H0.out.2.2]; exact rfl, Below.refl _ _⟩
  · obtain ⟨m, rfl, h1, h2⟩ := sold_nat hb
    have H0 : Hid (outTriangleOf_0 m = (tri m : Nat) ∧ outTriangleOf_1 m = (triLeft m : Nat) ∧ outTriangleOf_2 m = true) := Lib.hid (by unfold outTriangleOf_0 outTriangleOf_1 outTriangleOf_2; rw [hb]; exact ⟨rfl, rfl, rfl⟩)
    rw [show inB m 1 1000000 = true from hb] at HH
    have HR := Lib.hid (foTriangle_any m h2 w)
    obtain ⟨r, hr⟩ : ∃ r, r = tri m := ⟨_, rfl⟩
    obtain ⟨l, hl⟩ : ∃ r, r = triLeft m := ⟨_, rfl⟩
    rw [← hr, ← hl] at H0 HR
    clear hb hr hl
    go_enter Try.func16, Try.ntmps16
    go_wp2_with fail
    go_at_call 63
    refine HH.out.mono ?_
    rintro e w' ⟨rfl, rfl⟩
    go_wp2_with fail
    go_at_call 69
    refine HR.out.mono ?_
    rintro e w2 ⟨rfl, b2⟩
    have B2 := Lib.hid b2
    clear b2
    go_wp2
    go_ret3
    exact ⟨by rw [H0.out.1, H0.out.2.1, H0.out.2.2]; exact rfl, B2.out⟩

end Go.Proofs.Ytjdbmkphakpmbaa
