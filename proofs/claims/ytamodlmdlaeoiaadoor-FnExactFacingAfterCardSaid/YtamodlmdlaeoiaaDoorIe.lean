/- Chapter 4, the program: wayOf, isWay, AreFacing, countFacing: what reads no table. -/
import Derived.Test.YtamodlmdlaeoiaaDoorDrC
import Derived.Test.YtamodlmdlaeoiaaDoorIn
namespace Go.Proofs.YtamodlmdlaeoiaaDoor
open Go.ChangeShapes Go.WideShapes Go.ChangeAt Go.RowKit
open Dr

set_option maxHeartbeats 400000 in
theorem wayOf_any (b : Int) (w : World) (h0 : 0 ≤ b) (h1 : b ≤ 255) :
    Calls Tryd.prog 56 #[.int .u8 b] w fun e w' => e = .returned (.int .i64 (b - 48)) ∧ w = w' := by
  go_enter Tryd.func56, Tryd.ntmps56
  go_wp2
  go_ret
  exact ⟨rfl, rfl⟩

set_option maxHeartbeats 400000 in
theorem isWay_any (x : Int) (w : World) :
    Calls Tryd.prog 55 #[.int .i64 x] w fun e w' => e = .returned (.bool (inB x 0 3)) ∧ w = w' := by
  by_cases h : 0 ≤ x
  · by_cases h2 : x < 4
    · have HF := Lib.hid (inB_of (n := x) (lo := 0) (hi := 3) ⟨h, by omega⟩)
      go_enter Tryd.func55, Tryd.ntmps55
      go_wp2
      go_ret
      exact ⟨ret_bool (by rw [HF.out]), rfl⟩
    · have HF := Lib.hid (inB_no (n := x) (lo := 0) (hi := 3) (by omega))
      go_enter Tryd.func55, Tryd.ntmps55
      go_wp2
      go_ret
      exact ⟨ret_bool (by rw [HF.out]), rfl⟩
  · have HF := Lib.hid (inB_no (n := x) (lo := 0) (hi := 3) (by omega))
    go_enter Tryd.func55, Tryd.ntmps55
    go_wp2
    go_ret
    exact ⟨ret_bool (by rw [HF.out]), rfl⟩

set_option maxHeartbeats 2000000 in
theorem areFacing_any (s : ByteArray) (w : World) (hs : s.size ≤ 1048576) :
    Calls Tryd.prog 49 #[.string s] w fun e w' => e = .returned (.bool (faceB s)) ∧ w = w' := by
  by_cases hin : 1 ≤ s.size ∧ s.size ≤ 30
  · obtain ⟨hb1, hb2⟩ := hin
    have g1 : ¬ (s.size : Int) < 1 := by omega
    have g2 : ¬ 30 < (s.size : Int) := by omega
    go_enter Tryd.func49, Tryd.ntmps49
    go_wp2
    go_loop [14] (fun i => ∃ k : Nat, k ≤ s.size ∧ i = .int .i64 (k : Int) ∧ Hid (eachTo (fun b => decide (48 ≤ (b.toNat : Int) ∧ (b.toNat : Int) ≤ 51)) s k)) (fun i => s.size - (intOf i).toNat)
    case atStart => exact ⟨0, Nat.zero_le _, rfl, Lib.hid (fun _ _ h => absurd h (Nat.not_lt_zero _))⟩
    case round =>
      obtain ⟨k, hk, rfl, HK⟩ := hrel
      by_cases hlt : k < s.size
      · obtain ⟨hb0, hb3⟩ := byte_bd s[k]
        have HT := Lib.hid (fun w2 => wayOf_any (s[k].toNat : Int) w2 hb0 hb3)
        have HI := Lib.hid (fun w2 => isWay_any ((s[k].toNat : Int) - 48) w2)
        by_cases hp : 48 ≤ (s[k].toNat : Int) ∧ (s[k].toNat : Int) ≤ 51
        · have HK2 := Lib.hid (eachTo_succ hlt HK.out (decide_eq_true hp))
          rw [inB_of (by omega)] at HI
          clear hp
          go_wp2_with (first | (go_at_call 56; refine (HT.out _).mono ?_; rintro e w' ⟨rfl, rfl⟩) | (go_at_call 55; refine (HI.out _).mono ?_; rintro e w' ⟨rfl, rfl⟩))
          go_round
          case rel => exact ⟨k + 1, by omega, by go_num, HK2⟩
          case measure => simp [intOf]; omega
        · have HF : Hid (faceB s = false) := Lib.hid (by unfold faceB; rw [each_not hlt (decide_eq_false hp), Bool.and_false])
          rw [inB_no (by omega)] at HI
          clear hp
          go_wp2_with (first | (go_at_call 56; refine (HT.out _).mono ?_; rintro e w' ⟨rfl, rfl⟩) | (go_at_call 55; refine (HI.out _).mono ?_; rintro e w' ⟨rfl, rfl⟩))
          go_ret
          exact ⟨ret_bool (by rw [HF.out]), rfl⟩
      · have HF : Hid (faceB s = true) := Lib.hid (by
          unfold faceB
          rw [decide_eq_true ⟨by omega, by omega⟩, Bool.true_and]
          exact each_to (by rw [show s.size = k from by omega]; exact HK.out))
        go_wp2
        go_ret
        exact ⟨ret_bool (by rw [HF.out]), rfl⟩
  · have HF : Hid (faceB s = false) := Lib.hid (by unfold faceB; rw [decide_eq_false (by omega), Bool.false_and])
    by_cases h1 : s.size < 1
    · have g1 : (s.size : Int) < 1 := by omega
      clear hin
      go_enter Tryd.func49, Tryd.ntmps49
      go_wp2
      go_ret
      exact ⟨ret_bool (by rw [HF.out]), rfl⟩
    · have g1 : ¬ (s.size : Int) < 1 := by omega
      have g2 : 30 < (s.size : Int) := by omega
      clear hin h1
      go_enter Tryd.func49, Tryd.ntmps49
      go_wp2
      go_ret
      exact ⟨ret_bool (by rw [HF.out]), rfl⟩



end Go.Proofs.YtamodlmdlaeoiaaDoor
