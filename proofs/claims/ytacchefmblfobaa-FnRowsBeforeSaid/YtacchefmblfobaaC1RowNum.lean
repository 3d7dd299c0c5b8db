
/- RowOfNumber, the program's and the model's. -/
import Derived.Test.YtacchefmblfobaaC1Make
namespace Go.Proofs.Ytacchefmblfobaa.C1
open Go.ChangeShapes Go.WideShapes Go.ChangeAt Go.RowKit

def noRow (n k : Int) : Prop := ¬ (1 ≤ n ∧ n ≤ 60) ∨ k < 0 ∨ (p2 n.toNat : Int) ≤ k

set_option maxRecDepth 20000 in
set_option maxHeartbeats 1000000 in
theorem specRowOfNumber_yes (n k : Nat) (h1 : 1 ≤ n) (h2 : n ≤ 60) (hk : k < p2 n) (w : World) :
    Calls Try.prog 39 #[.int .i64 (n : Int), .int .i64 (k : Int)] w fun e w' => e = .returned (.tuple #[.string (Rw.str (Rw.make n k)), .bool true]) ∧ w = w' := by
  have hp := p2_le n h2
  have hw := p2_wrap n h2
  have b1 : inB n 1 60 = true := by unfold inB; simp only [decide_eq_true_eq]; omega
  have b2 : inB k 0 ((p2 n : Int) - 1) = true := by unfold inB; simp only [decide_eq_true_eq]; omega
  have HR := Lib.hid (rwMake_any n k h2 (by omega) w)
  go_enter Try.func39, Try.ntmps39
  go_wp2_with (first | (go_at_call 89; refine (l1In_any _ _ _ _).mono ?_; rintro e w' ⟨rfl, rfl⟩) | (go_at_call 92; refine HR.out.mono ?_; rintro e w' ⟨rfl, rfl⟩))
  go_ret2
  exact ⟨rfl, rfl⟩
set_option maxRecDepth 20000 in
set_option maxHeartbeats 1000000 in
theorem specRowOfNumber_no (n k : Int) (h : noRow n k) (w : World) :
    Calls Try.prog 39 #[.int .i64 n, .int .i64 k] w fun e w' => e = .returned (.tuple #[.string ByteArray.empty, .bool false]) ∧ w = w' := by
  by_cases hn : 1 ≤ n ∧ n ≤ 60
  · obtain ⟨n', rfl⟩ : ∃ m : Nat, n = m := ⟨n.toNat, by omega⟩
    have hp := p2_le n' (by omega)
    have hw := p2_wrap n' (by omega)
    have b1 : inB n' 1 60 = true := by unfold inB; simp only [decide_eq_true_eq]; omega
    have b2 : inB k 0 ((p2 n' : Int) - 1) = false := by
      unfold inB; simp only [decide_eq_false_iff_not]
      rcases h with h | h | h
      · exact absurd hn h
      · omega
      · rw [Int.toNat_natCast] at h; omega
    obtain ⟨i1, i2⟩ := hn
    clear h
    go_enter Try.func39, Try.ntmps39
    go_wp2_with (first | (go_at_call 89; refine (l1In_any _ _ _ _).mono ?_; rintro e w' ⟨rfl, rfl⟩))
    go_ret2
    exact ⟨rfl, rfl⟩
  · have b1 : inB n 1 60 = false := by unfold inB; simp only [decide_eq_false_iff_not]; exact hn
    clear h hn
    go_enter Try.func39, Try.ntmps39
    go_wp2_with (first | (go_at_call 89; refine (l1In_any _ _ _ _).mono ?_; rintro e w' ⟨rfl, rfl⟩))
    go_ret2
    exact ⟨rfl, rfl⟩

set_option maxRecDepth 20000 in
set_option maxHeartbeats 1000000 in
theorem implRowOfNumber_yes (n k : Nat) (h1 : 1 ≤ n) (h2 : n ≤ 60) (hk : k < p2 n) (w : World) :
    Calls Try.prog 34 #[.int .i64 (n : Int), .int .i64 (k : Int)] w fun e w' => e = .returned (.tuple #[.string (Rw.str (Rw.make n k)), .bool true]) ∧ Below w.heap.size w w' := by
  have hp := p2_le n h2
  have b1 : decide ((n : Int) < 1) = false := by simp; omega
  have b2 : decide ((60 : Int) < n) = false := by simp; omega
  have b3 : decide ((k : Int) < 0) = false := by simp
  have b4 : decide ((p2 n : Int) ≤ (k : Int)) = false := by simp; omega
  have HR := Lib.hid (troopOf_any n k h1 h2 (by omega) w)
  have HX := Lib.hid (fun w2 c2 h => text_any w.heap.size (Rw.make n k) c2 (by simpa using h1) (by simpa using h2) w2 h)
  rw [Rw.length_make] at HX
  go_enter Try.func34, Try.ntmps34
  go_wp2_with (go_at_call 82; refine (countRows_any n h2 _).mono ?_; rintro e w' ⟨rfl, rfl⟩)
  go_at_call 83
  refine HR.out.mono ?_
  rintro e w2 ⟨rfl, hT, hb⟩
  have HT := Lib.hid hT
  have HB := Lib.hid hb
  have hz := hb.size
  clear hT hb
  go_wp2_with fail
  go_at_call 84
  refine (HX.out _ _ HT.out).mono ?_
  rintro e w3 ⟨rfl, hb3⟩
  have H3 : Hid (Below w.heap.size w w3) := HB.out.trans (hb3.mono hz)
  clear hb3
  go_wp2
  go_ret2
  exact ⟨rfl, H3.out⟩
set_option maxRecDepth 20000 in
set_option maxHeartbeats 1000000 in
theorem implRowOfNumber_no (n k : Int) (h : noRow n k) (w : World) :
    Calls Try.prog 34 #[.int .i64 n, .int .i64 k] w fun e w' => e = .returned (.tuple #[.string ByteArray.empty, .bool false]) ∧ w = w' := by
  by_cases hn1 : n < 1
  · have b1 : decide (n < 1) = true := by simp; omega
    clear h
    go_enter Try.func34, Try.ntmps34
    go_wp2
    go_ret2
    exact ⟨rfl, rfl⟩
  · have b1 : decide (n < 1) = false := by simp; omega
    by_cases hn2 : 60 < n
    · have b2 : decide (60 < n) = true := by simp; omega
      clear h
      go_enter Try.func34, Try.ntmps34
      go_wp2
      go_ret2
      exact ⟨rfl, rfl⟩
    · have b2 : decide (60 < n) = false := by simp; omega
      by_cases hk0 : k < 0
      · have b3 : decide (k < 0) = true := by simp; omega
        clear h
        go_enter Try.func34, Try.ntmps34
        go_wp2
        go_ret2
        exact ⟨rfl, rfl⟩
      · have b3 : decide (k < 0) = false := by simp; omega
        obtain ⟨n', rfl⟩ : ∃ m : Nat, n = m := ⟨n.toNat, by omega⟩
        have b4 : decide ((p2 n' : Int) ≤ k) = true := by
          simp only [decide_eq_true_eq]
          rcases h with h | h | h
          · omega
          · omega
          · rw [Int.toNat_natCast] at h; exact h
        have h60 : n' ≤ 60 := by omega
        clear h
        go_enter Try.func34, Try.ntmps34
        go_wp2_with (go_at_call 82; refine (countRows_any n' h60 _).mono ?_; rintro e w' ⟨rfl, rfl⟩)
        go_ret2
        exact ⟨rfl, rfl⟩


end Go.Proofs.Ytacchefmblfobaa.C1
