/- Chapter 3, the program's greatestOf with its two sizes; SquareOf, TriangleOf. -/
import Derived.Test.YtjdbmkphakpmbaaFp
namespace Go.Proofs.Ytjdbmkphakpmbaa
open Go.ChangeShapes Go.WideShapes Go.ChangeAt Go.RowKit
open Fo

set_option maxRecDepth 20000 in
set_option maxHeartbeats 400000 in
theorem triangleSize_any (r p : Nat) (hp : r * (r + 1) = p) (h : p ≤ 1000000000000) (hr : r ≤ 1000000) (w : World) :
    Calls Try.prog 68 #[.int .i64 r] w fun e w' => e = .returned (.int .i64 ((p / 2 : Nat) : Int)) ∧ w = w' := by
  have e1 : (r : Int) * ((r : Int) + 1) = (p : Int) := by rw [← hp]; simp
  have HP : Hid (((p / 2 : Nat) : Int) = (p : Int) / 2) := Lib.hid (by omega)
  clear hp
  go_enter Try.func68, Try.ntmps68
  go_wp2
  go_ret
  exact ⟨ret_int (by rw [HP.out]), rfl⟩
set_option maxRecDepth 20000 in
theorem tri_prod_bd {k b : Nat} (h : k ≤ b) : k * (k + 1) ≤ b * (b + 1) := Nat.mul_le_mul h (by omega)

set_option maxRecDepth 20000 in
theorem squareNat_any (k p : Nat) (hp : k * k = p) (h : p ≤ 1000000000000) (w : World) :
    Calls Try.prog 66 #[.int .i64 k] w fun e w' => e = .returned (.int .i64 (p : Int)) ∧ w = w' := by
  have e1 : (k : Int) * (k : Int) = (p : Int) := by rw [← hp]; simp
  have := squareSize_any (k : Int) (by rw [e1]; omega) (by rw [e1]; omega) w
  rw [e1] at this
  exact this
set_option maxRecDepth 20000 in
set_option maxHeartbeats 1000000 in
theorem greatestSq_any (n : Nat) (hn : n ≤ 1000000) (w : World) :
    Calls Try.prog 65 #[.int .i64 n, .func (.func 66) #[] #[]] w fun e w' => e = .returned (.tuple #[.int .i64 (root n : Nat), .int .i64 ((n : Int) - ((root n * root n : Nat) : Int))]) ∧ w = w' := by
  go_enter Try.func65, Try.ntmps65
  go_wp2
  go_loop [6] (fun r => ∃ k : Nat, k ≤ 1000 ∧ r = .int .i64 (k : Int) ∧ Hid (k * k ≤ n)) (fun r => 1001 - (intOf r).toNat)
  case atStart => exact ⟨0, by omega, rfl, Lib.hid (Nat.zero_le _)⟩
  case round =>
    obtain ⟨k, hk, rfl, HK⟩ := hrel
    have hb := sq_bd (show k + 1 ≤ 1001 by omega)
    obtain ⟨p, hp⟩ : ∃ p, p = (k + 1) * (k + 1) := ⟨_, rfl⟩
    rw [← hp] at hb
    have HS := squareNat_any (k + 1) p hp.symm (by omega) w
    have HP := Lib.hid hp
    rw [show (((k + 1 : Nat) : Int)) = (k : Int) + 1 by omega] at HS
    have HS := Lib.hid HS
    clear hp
    by_cases hlt : p ≤ n
    · have hk2 : k + 1 ≤ 1000 := by
        rcases Nat.lt_or_ge 1000 (k + 1) with h | h
        · have := sq_bd (show 1001 ≤ k + 1 from h); rw [← HP.out] at this; omega
        · exact h
      go_wp2_with fail
      go_at_call 66
      refine HS.out.mono ?_
      rintro e w' ⟨rfl, rfl⟩
      go_wp2
      go_round
      case rel => exact ⟨k + 1, hk2, by go_num, Lib.hid (by rw [← HP.out]; exact hlt)⟩
      case measure => simp [intOf]; omega
    · have HR : Hid (k = root n) := Lib.hid (root_unique HK.out (by rw [← HP.out]; omega))
      have hkk := HK.out
      obtain ⟨q, hq⟩ : ∃ q, q = k * k := ⟨_, rfl⟩
      have HT := Lib.hid (squareNat_any k q hq.symm (by rw [hq]; omega) w)
      have HQ : Hid (root n * root n = q) := Lib.hid (by rw [← HR.out]; exact hq.symm)
      rw [← hq] at hkk
      clear hq HK
      go_wp2_with fail
      go_at_call 66
      refine HS.out.mono ?_
      rintro e w' ⟨rfl, rfl⟩
      go_wp2_with fail
      go_at_call 66
      refine HT.out.mono ?_
      rintro e w' ⟨rfl, rfl⟩
      go_wp2
      go_ret2
      exact ⟨by rw [HQ.out, ← HR.out]; exact rfl, rfl⟩
set_option maxRecDepth 20000 in
set_option maxHeartbeats 1000000 in
theorem greatestTri_any (n : Nat) (hn : n ≤ 1000000) (w : World) :
    Calls Try.prog 65 #[.int .i64 n, .func (.func 68) #[] #[]] w fun e w' => e = .returned (.tuple #[.int .i64 (tri n : Nat), .int .i64 (triLeft n : Nat)]) ∧ w = w' := by
  go_enter Try.func65, Try.ntmps65
  go_wp2
  go_loop [6] (fun r => ∃ k : Nat, k ≤ 2000 ∧ r = .int .i64 (k : Int) ∧ Hid (k * (k + 1) ≤ 2 * n)) (fun r => 2001 - (intOf r).toNat)
  case atStart => exact ⟨0, by omega, rfl, Lib.hid (Nat.zero_le _)⟩
  case round =>
    obtain ⟨k, hk, rfl, HK⟩ := hrel
    have hb := tri_prod_bd (show k + 1 ≤ 2001 by omega)
    obtain ⟨p, hp⟩ : ∃ p, p = (k + 1) * (k + 1 + 1) := ⟨_, rfl⟩
    have hev := tri_even (k + 1)
    rw [← hp] at hb hev
    have HS := triangleSize_any (k + 1) p hp.symm (by omega) (by omega) w
    have HP := Lib.hid hp
    rw [show (((k + 1 : Nat) : Int)) = (k : Int) + 1 by omega] at HS
    obtain ⟨q, hq⟩ : ∃ q, q = p / 2 := ⟨_, rfl⟩
    rw [← hq] at HS
    have HQ : Hid (2 * q = p) := Lib.hid (by omega)
    have hqb : q ≤ 1000000000000 := by omega
    have HS := Lib.hid HS
    clear hp hq hev hb
    by_cases hlt : q ≤ n
    · have hk2 : k + 1 ≤ 2000 := by
        rcases Nat.lt_or_ge 2000 (k + 1) with h | h
        · have := tri_prod_bd (show 2001 ≤ k + 1 from h); rw [← HP.out] at this; have := HQ.out; omega
        · exact h
      go_wp2_with fail
      go_at_call 68
      refine HS.out.mono ?_
      rintro e w' ⟨rfl, rfl⟩
      go_wp2
      go_round
      case rel => exact ⟨k + 1, hk2, by go_num, Lib.hid (by rw [← HP.out, ← HQ.out]; omega)⟩
      case measure => simp [intOf]; omega
    · have HR : Hid (k = tri n) := Lib.hid (tri_unique HK.out (by have := HP.out; have := HQ.out; rw [show k + 1 + 1 = k + 2 from rfl] at *; omega))
      have hkk := HK.out
      have hev := tri_even k
      obtain ⟨p2, hp2⟩ : ∃ q, q = k * (k + 1) := ⟨_, rfl⟩
      have HT := triangleSize_any k p2 hp2.symm (by rw [hp2]; omega) (by omega) w
      obtain ⟨q2, hq2⟩ : ∃ q, q = p2 / 2 := ⟨_, rfl⟩
      rw [← hq2] at HT
      have HT := Lib.hid HT
      have HL : Hid (((triLeft n : Nat) : Int) = (n : Int) - (q2 : Int)) := Lib.hid (by
        unfold triLeft
        rw [← HR.out, ← hp2, ← hq2]
        rw [← hp2] at hkk
        omega)
      rw [← hp2] at hkk
      have hq2b : q2 ≤ n := by omega
      clear hp2 hq2 HK hkk hev
      go_wp2_with fail
      go_at_call 68
      refine HS.out.mono ?_
      rintro e w' ⟨rfl, rfl⟩
      go_wp2_with fail
      go_at_call 68
      refine HT.out.mono ?_
      rintro e w' ⟨rfl, rfl⟩
      go_wp2
      go_ret2
      exact ⟨by rw [HL.out, ← HR.out]; exact rfl, rfl⟩

set_option maxRecDepth 20000 in
set_option maxHeartbeats 400000 in
theorem implSquareOf_any (w : World) (n : Int) (_wn : (Lit.int .i64 n).wf = true) :
    Calls Try.prog 13 #[.int .i64 n] w fun e w' => e = .returned (.tuple #[.int .i64 (outSquareOf_0 n), .int .i64 (outSquareOf_1 n), .bool (outSquareOf_2 n)]) ∧ Below w.heap.size w w' := by
  have HH := Lib.hid (areSoldiers_any n w)
  clear _wn
  rcases hb : soldB n with _ | _
  · have H0 : Hid (outSquareOf_0 n = 0 ∧ outSquareOf_1 n = 0 ∧ outSquareOf_2 n = false) := Lib.hid (by unfold outSquareOf_0 outSquareOf_1 outSquareOf_2; rw [hb]; exact ⟨rfl, rfl, rfl⟩)
    rw [show inB n 1 1000000 = false from hb] at HH
    clear hb
    go_enter Try.func13, Try.ntmps13
    go_wp2_with (go_at_call 61; refine HH.out.mono ?_; rintro e w' ⟨rfl, rfl⟩)
    go_ret3
    exact ⟨by rw [H0.out.1, H0.out.2.1, H0.out.2.2]; exact rfl, Below.refl _ _⟩
  · obtain ⟨m, rfl, h1, h2⟩ := sold_nat hb
    have H0 : Hid (outSquareOf_0 m = (root m : Nat) ∧ outSquareOf_1 m = (m : Int) - ((root m * root m : Nat) : Int) ∧ outSquareOf_2 m = true) := Lib.hid (by unfold outSquareOf_0 outSquareOf_1 outSquareOf_2; rw [hb]; exact ⟨rfl, rfl, rfl⟩)
    rw [show inB m 1 1000000 = true from hb] at HH
    have HR := Lib.hid (greatestSq_any m h2 w)
    obtain ⟨r, hr⟩ : ∃ r, r = root m := ⟨_, rfl⟩
    rw [← hr] at H0 HR
    obtain ⟨p, hp⟩ : ∃ p : Int, p = (m : Int) - ((r * r : Nat) : Int) := ⟨_, rfl⟩
    rw [← hp] at H0 HR
    clear hb hr hp
    go_enter Try.func13, Try.ntmps13
    go_wp2_with (first | (go_at_call 61; refine HH.out.mono ?_; rintro e w' ⟨rfl, rfl⟩) | (go_at_call 65; refine HR.out.mono ?_; rintro e w' ⟨rfl, rfl⟩))
    go_ret3
    exact ⟨by rw [H0.out.1, H0.out.2.1, H0.out.2.2]; exact rfl, Below.refl _ _⟩

set_option maxRecDepth 20000 in
set_option maxHeartbeats 400000 in
theorem implTriangleOf_any (w : World) (n : Int) (_wn : (Lit.int .i64 n).wf = true) :
    Calls Try.prog 15 #[.int .i64 n] w fun e w' => e = .returned (.tuple #[.int .i64 (outTriangleOf_0 n), .int .i64 (outTriangleOf_1 n), .bool (outTriangleOf_2 n)]) ∧ Below w.heap.size w w' := by
  have HH := Lib.hid (areSoldiers_any n w)
  clear _wn
  rcases hb : soldB n with _ | _
  · have H0 : Hid (outTriangleOf_0 n = 0 ∧ outTriangleOf_1 n = 0 ∧ outTriangleOf_2 n = false) := Lib.hid (by unfold outTriangleOf_0 outTriangleOf_1 outTriangleOf_2; rw [hb]; exact ⟨rfl, rfl, rfl⟩)
    rw [show inB n 1 1000000 = false from hb] at HH
    clear hb
    go_enter Try.func15, Try.ntmps15
    go_wp2_with (go_at_call 61; refine HH.out.mono ?_; rintro e w' ⟨rfl, rfl⟩)
    go_ret3
    exact ⟨by rw [H0.out.1, H0.out.2.1, H0.out.2.2]; exact rfl, Below.refl _ _⟩
  · obtain ⟨m, rfl, h1, h2⟩ := sold_nat hb
    have H0 : Hid (outTriangleOf_0 m = (tri m : Nat) ∧ outTriangleOf_1 m = (triLeft m : Nat) ∧ outTriangleOf_2 m = true) := Lib.hid (by unfold outTriangleOf_0 outTriangleOf_1 outTriangleOf_2; rw [hb]; exact ⟨rfl, rfl, rfl⟩)
    rw [show inB m 1 1000000 = true from hb] at HH
    have HR := Lib.hid (greatestTri_any m h2 w)
    obtain ⟨r, hr⟩ : ∃ r, r = tri m := ⟨_, rfl⟩
    obtain ⟨l, hl⟩ : ∃ r, r = triLeft m := ⟨_, rfl⟩
    rw [← hr, ← hl] at H0 HR
    clear hb hr hl
    go_enter Try.func15, Try.ntmps15
    go_wp2_with (first | (go_at_call 61; refine HH.out.mono ?_; rintro e w' ⟨rfl, rfl⟩) | (go_at_call 65; refine HR.out.mono ?_; rintro e w' ⟨rfl, rfl⟩))
    go_ret3
    exact ⟨by rw [H0.out.1, H0.out.2.1, H0.out.2.2]; exact rfl, Below.refl _ _⟩

end Go.Proofs.Ytjdbmkphakpmbaa
