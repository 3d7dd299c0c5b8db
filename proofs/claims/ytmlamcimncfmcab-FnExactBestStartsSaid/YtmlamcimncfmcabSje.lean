/- Chapter 8, the program: reachIn, LeastTimeWith. -/
import Derived.Test.YtmlamcimncfmcabSie
namespace Go.Proofs.Ytmlamcimncfmcab
open Go.ChangeShapes Go.WideShapes Go.ChangeAt Go.RowKit
open Si

set_option maxHeartbeats 1000000 in
theorem reachIn_any (t : Nat) (h : t ≤ 1000) (w : World) :
    Calls Try.prog 23 #[.int .i64 t] w fun e w' => e = .returned (.int .i64 ((2 * t + 1 : Nat) : Int)) ∧ w = w' := by
  go_enter Try.func23, Try.ntmps23
  go_wp2
  go_ret
  exact ⟨ret_int (by omega), rfl⟩

set_option maxHeartbeats 2000000 in
theorem implLeastTimeWith_any (w : World) (n : Int) (m : Int) (_wn : (Lit.int .i64 n).wf = true) (_wm : (Lit.int .i64 m).wf = true) :
    Calls Try.prog 22 #[.int .i64 n, .int .i64 m] w fun e w' => e = .returned (.tuple #[.int .i64 (outLeastTimeWith_0 n m), .bool (outLeastTimeWith_1 n m)]) ∧ Below w.heap.size w w' := by
  clear _wn _wm
  have H00 : ¬ (1 ≤ m ∧ m ≤ n ∧ n ≤ 100) → outLeastTimeWith_0 n m = 0 ∧ outLeastTimeWith_1 n m = false := fun h => by
    unfold outLeastTimeWith_0 outLeastTimeWith_1
    by_cases e : 1 ≤ n ∧ n ≤ 100
    · rw [inB_no (n := m) (by omega), Bool.and_false]; exact ⟨rfl, rfl⟩
    · rw [inB_no (n := n) (by omega), Bool.false_and]; exact ⟨rfl, rfl⟩
  by_cases h1 : m < 1
  · have H0 := Lib.hid (H00 (by omega))
    clear H00
    go_enter Try.func22, Try.ntmps22
    go_wp2
    go_ret2
    exact ⟨by rw [H0.out.1, H0.out.2]; exact rfl, Below.refl _ _⟩
  by_cases h2 : n < m
  · have H0 := Lib.hid (H00 (by omega))
    clear H00
    go_enter Try.func22, Try.ntmps22
    go_wp2
    go_ret2
    exact ⟨by rw [H0.out.1, H0.out.2]; exact rfl, Below.refl _ _⟩
  by_cases h3 : 100 < n
  · have H0 := Lib.hid (H00 (by omega))
    clear H00
    go_enter Try.func22, Try.ntmps22
    go_wp2
    go_ret2
    exact ⟨by rw [H0.out.1, H0.out.2]; exact rfl, Below.refl _ _⟩
  obtain ⟨N, rfl⟩ : ∃ N : Nat, n = (N : Int) := ⟨n.toNat, by omega⟩
  obtain ⟨M, rfl⟩ : ∃ N : Nat, m = (N : Int) := ⟨m.toNat, by omega⟩
  have H0 : Hid (outLeastTimeWith_0 N M = (leastT N M : Nat) ∧ outLeastTimeWith_1 N M = true) := Lib.hid (by unfold outLeastTimeWith_0 outLeastTimeWith_1; rw [inB_of (n := (N : Int)) (by omega), inB_of (n := (M : Int)) (by omega)]; exact ⟨rfl, rfl⟩)
  have HM := Lib.hid (fun t => @leastT_more N M t (by omega))
  have HD := Lib.hid (fun t => @leastT_done N M t (by omega))
  have HL : Hid (leastT N M ≤ 200) := Lib.hid (by have := @leastT_le N M; omega)
  obtain ⟨T, hT⟩ : ∃ T, T = leastT N M := ⟨_, rfl⟩
  rw [← hT] at HM HD HL H0
  clear hT H00
  go_enter Try.func22, Try.ntmps22
  go_wp2
  go_loop [6] (fun i => ∃ k : Nat, k ≤ T ∧ i = .int .i64 (k : Int)) (fun i => T - (intOf i).toNat)
  case atStart => exact ⟨0, Nat.zero_le _, rfl⟩
  case round =>
    obtain ⟨k, hk, rfl⟩ := hrel
    have hk2 : k ≤ 200 := Nat.le_trans hk HL.out
    have HRI := Lib.hid (reachIn_any k (by omega) w)
    obtain ⟨q, hq⟩ : ∃ q, q = 2 * k + 1 := ⟨_, rfl⟩
    obtain ⟨p, hp⟩ : ∃ p, p = M * q := ⟨_, rfl⟩
    have ep : (M : Int) * (q : Int) = (p : Int) := by rw [hp]; push_cast; rfl
    have hqb : q ≤ 401 := by omega
    have hpb : p ≤ 100 * 401 := by rw [hp]; exact Nat.mul_le_mul (by omega) hqb
    have HMk := Lib.hid (HM.out k)
    have HDk := Lib.hid (HD.out k)
    rw [← hq] at HRI HMk HDk
    rw [← hp] at HMk HDk
    clear hp hq
    by_cases hlt : p < N
    · have h4 := HMk.out hlt
      have i2 : (p : Int) < (N : Int) := by omega
      go_wp2_with fail
      go_at_call 23
      refine HRI.out.mono ?_
      rintro e w' ⟨rfl, rfl⟩
      go_wp2
      go_round
      case rel => exact ⟨k + 1, by omega, by go_num⟩
      case measure => simp [intOf]; omega
    · have HE : Hid (k = T) := Lib.hid (by have := HDk.out hlt; omega)
      have i2 : ¬ (p : Int) < (N : Int) := by omega
      go_wp2_with fail
      go_at_call 23
      refine HRI.out.mono ?_
      rintro e w' ⟨rfl, rfl⟩
      go_wp2
      go_ret2
      exact ⟨by rw [H0.out.1, H0.out.2, HE.out]; exact rfl, Below.refl _ _⟩

end Go.Proofs.Ytmlamcimncfmcab
