/- The walks of the laws FnExactIsRow and FnExactCountAtRest. -/
import Derived.Test.YtejlllmbcakacaaGood
namespace Go.Proofs.Ytejlllmbcakacaa
open Go.ChangeShapes Go.WideShapes Go.ChangeAt Go.RowKit

set_option maxHeartbeats 400000 in
theorem walkFnExactIsRow (s : ByteArray) (hs : s.size ≤ maxLen) (w : World) :
    Calls Try.prog 3 #[.string s] w fun e w' => e = .returned (.bool true) ∧ Below w.heap.size w w' := by
  have hs' := hs
  unfold maxLen at hs'
  by_cases hbig : s.size ≤ 1048576
  · go_enter Try.func3, Try.ntmps3
    go_wp2_with (first | (go_at_call 13; refine (specIsRow_any _ _ hs).mono ?_; rintro e w' ⟨rfl, rfl⟩) | (go_at_call 14; refine (isRow_any _ _ hs).mono ?_; rintro e w' ⟨rfl, rfl⟩))
    go_ret
    exact ⟨rfl, Below.refl _ _⟩
  · go_enter Try.func3, Try.ntmps3
    go_wp2
    go_ret
    exact ⟨rfl, Below.refl _ _⟩

set_option maxHeartbeats 1000000 in
theorem walkFnExactCountAtRest (n : Int) (_wn : (Lit.int .i64 n).wf = true) (w : World) :
    Calls Try.prog 4 #[.int .i64 n] w fun e w' => e = .returned (.bool true) ∧ Below w.heap.size w w' := by
  by_cases h1 : 1 ≤ n
  · by_cases h2 : n ≤ 60
    · have b1 : decide (n < 1) = false := by simp; omega
      have b2 : decide (60 < n) = false := by simp; omega
      have b3 : inB n 1 60 = true := by unfold inB; simp only [decide_eq_true_eq]; omega
      go_enter Try.func4, Try.ntmps4
      go_wp2_with (first | (go_at_call 37; refine (l1In_any _ _ _ _).mono ?_; rintro e w' ⟨rfl, rfl⟩) | go_in)
      go_ret
      exact ⟨rfl, Below.refl _ _⟩
    · have b1 : decide (n < 1) = false := by simp; omega
      have b2 : decide (60 < n) = true := by simp; omega
      have b3 : inB n 1 60 = false := by unfold inB; simp only [decide_eq_false_iff_not]; omega
      go_enter Try.func4, Try.ntmps4
      go_wp2_with (first | (go_at_call 37; refine (l1In_any _ _ _ _).mono ?_; rintro e w' ⟨rfl, rfl⟩) | go_in)
      go_ret
      exact ⟨rfl, Below.refl _ _⟩
  · have b1 : decide (n < 1) = true := by simp; omega
    have b3 : inB n 1 60 = false := by unfold inB; simp only [decide_eq_false_iff_not]; omega
    go_enter Try.func4, Try.ntmps4
    go_wp2_with (first | (go_at_call 37; refine (l1In_any _ _ _ _).mono ?_; rintro e w' ⟨rfl, rfl⟩) | go_in)
    go_ret
    exact ⟨rfl, Below.refl _ _⟩
end Go.Proofs.Ytejlllmbcakacaa
