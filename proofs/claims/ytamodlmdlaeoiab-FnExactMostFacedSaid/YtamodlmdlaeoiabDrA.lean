/- Chapter 4: the model's signs, words and facings. -/
import Derived.Test.YtamodlmdlaeoiabHeSpec
import Derived.Test.YtamodlmdlaeoiabDr
import Derived.Deep.QuietTactic
namespace Go.Proofs.Ytamodlmdlaeoiab
open Go.ChangeShapes Go.WideShapes Go.ChangeAt Go.RowKit
open Dr

theorem byte_bd (b : UInt8) : 0 ≤ (b.toNat : Int) ∧ (b.toNat : Int) ≤ 255 := by have := b.toNat_lt; omega




def outAreCommands_0 (s : ByteArray) : Bool := wordB s
def outAreFacing_0 (s : ByteArray) : Bool := faceB s

set_option maxHeartbeats 1000000 in
theorem drFacing_any (s : ByteArray) (w : World) (hs : s.size ≤ 1048576) :
    Calls Try.prog 6 #[.string s] w fun e w' => e = .returned (.bool (faceB s)) ∧ w = w' := by
  have HI := Lib.hid (l1In_any s.size 1 30 w)
  rcases hin : inB s.size 1 30 with _ | _
  · have HF : Hid (faceB s = false) := Lib.hid (by
      unfold faceB
      unfold inB at hin
      have := of_decide_eq_false hin
      rw [decide_eq_false (by omega), Bool.false_and])
    rw [hin] at HI
    clear hin
    go_enter Try.func6, Try.ntmps6
    go_wp2_with (go_at_call 9; refine HI.out.mono ?_; rintro e w' ⟨rfl, rfl⟩)
    go_ret
    exact ⟨ret_bool (by rw [HF.out]), rfl⟩
  · have hin2 := hin
    unfold inB at hin2
    have hb := of_decide_eq_true hin2
    obtain ⟨hb1, hb2⟩ := hb
    rw [hin] at HI
    clear hin hin2
    go_enter Try.func6, Try.ntmps6
    go_wp2_with (go_at_call 9; refine HI.out.mono ?_; rintro e w' ⟨rfl, rfl⟩)
    go_loop [3] (fun i => ∃ k : Nat, k ≤ s.size ∧ i = .int .i64 (k : Int) ∧ Hid (eachTo (fun b => decide (48 ≤ (b.toNat : Int) ∧ (b.toNat : Int) ≤ 51)) s k)) (fun i => s.size - (intOf i).toNat)
    case atStart => exact ⟨0, Nat.zero_le _, rfl, Lib.hid (fun _ _ h => absurd h (Nat.not_lt_zero _))⟩
    case round =>
      obtain ⟨k, hk, rfl, HK⟩ := hrel
      by_cases hlt : k < s.size
      · obtain ⟨hb0, hb3⟩ := byte_bd s[k]
        have HT := Lib.hid (fun w2 => l1In_any ((s[k].toNat : Int) - 48) 0 3 w2)
        by_cases hp : 48 ≤ (s[k].toNat : Int) ∧ (s[k].toNat : Int) ≤ 51
        · have HK2 := Lib.hid (eachTo_succ hlt HK.out (decide_eq_true hp))
          rw [show inB ((s[k].toNat : Int) - 48) 0 3 = true from by unfold inB; rw [decide_eq_true]; omega] at HT
          clear hp
          go_wp2_with fail
          go_at_call 9
          refine (HT.out _).mono ?_
          rintro e w' ⟨rfl, rfl⟩
          go_wp2
          go_round
          case rel => exact ⟨k + 1, by omega, by go_num, HK2⟩
          case measure => simp [intOf]; omega
        · have HF : Hid (faceB s = false) := Lib.hid (by unfold faceB; rw [each_not hlt (decide_eq_false hp), Bool.and_false])
          rw [show inB ((s[k].toNat : Int) - 48) 0 3 = false from by unfold inB; rw [decide_eq_false]; omega] at HT
          clear hp
          go_wp2_with fail
          go_at_call 9
          refine (HT.out _).mono ?_
          rintro e w' ⟨rfl, rfl⟩
          go_wp2
          go_ret
          exact ⟨ret_bool (by rw [HF.out]), rfl⟩
      · have HF : Hid (faceB s = true) := Lib.hid (by
          unfold faceB
          rw [decide_eq_true ⟨by omega, by omega⟩, Bool.true_and]
          exact each_to (by rw [show s.size = k from by omega]; exact HK.out))
        go_wp2
        go_ret
        exact ⟨ret_bool (by rw [HF.out]), rfl⟩



end Go.Proofs.Ytamodlmdlaeoiab
