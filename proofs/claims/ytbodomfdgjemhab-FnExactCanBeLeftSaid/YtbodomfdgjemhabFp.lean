/- Chapter 3, the program's functions of numbers: who may stand where, hollow squares, places. -/
import Derived.Test.YtbodomfdgjemhabFo
import Derived.Test.YtbodomfdgjemhabFoR
namespace Go.Proofs.Ytbodomfdgjemhab
open Go.ChangeShapes Go.WideShapes Go.ChangeAt Go.RowKit
open Fo

set_option maxHeartbeats 400000 in
theorem areSoldiers_any (n : Int) (w : World) :
    Calls Try.prog 38 #[.int .i64 n] w fun e w' => e = .returned (.bool (inB n 1 1000000)) ∧ w = w' := by
  by_cases h1 : 1 ≤ n
  · by_cases h2 : n ≤ 1000000
    · have HE : Hid (inB n 1 1000000 = true) := Lib.hid (inB_of ⟨h1, h2⟩)
      go_enter Try.func38, Try.ntmps38
      go_wp2
      go_ret
      exact ⟨ret_bool (by rw [HE.out]), rfl⟩
    · have HE : Hid (inB n 1 1000000 = false) := Lib.hid (inB_no (by omega))
      go_enter Try.func38, Try.ntmps38
      go_wp2
      go_ret
      exact ⟨ret_bool (by rw [HE.out]), rfl⟩
  · have HE : Hid (inB n 1 1000000 = false) := Lib.hid (inB_no (by omega))
    go_enter Try.func38, Try.ntmps38
    go_wp2
    go_ret
    exact ⟨ret_bool (by rw [HE.out]), rfl⟩



set_option maxHeartbeats 400000 in
theorem squareSize_any (s : Int) (h1 : 0 ≤ s * s) (h2 : s * s ≤ 1000000000000000000) (w : World) :
    Calls Try.prog 42 #[.int .i64 s] w fun e w' => e = .returned (.int .i64 (s * s)) ∧ w = w' := by
  go_enter Try.func42, Try.ntmps42
  go_wp2
  go_ret
  exact ⟨rfl, rfl⟩
theorem sq_in {s b : Int} (h1 : 0 ≤ s) (h2 : s ≤ b) : 0 ≤ s * s ∧ s * s ≤ b * b := ⟨Int.mul_nonneg h1 h1, Int.mul_le_mul h2 h2 h1 (by omega)⟩









end Go.Proofs.Ytbodomfdgjemhab
