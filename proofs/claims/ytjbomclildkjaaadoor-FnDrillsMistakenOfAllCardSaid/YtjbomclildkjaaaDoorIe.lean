/- Chapter 4, the program: wayOf, isWay, AreFacing, countFacing: what reads no table. -/
import Derived.Test.YtjbomclildkjaaaDoorDrC
import Derived.Test.YtjbomclildkjaaaDoorIn
namespace Go.Proofs.YtjbomclildkjaaaDoor
open Go.ChangeShapes Go.WideShapes Go.ChangeAt Go.RowKit
open Dr

set_option maxRecDepth 20000 in
set_option maxHeartbeats 400000 in
theorem wayOf_any (b : Int) (w : World) (h0 : 0 ≤ b) (h1 : b ≤ 255) :
    Calls Tryd.prog 66 #[.int .u8 b] w fun e w' => e = .returned (.int .i64 (b - 48)) ∧ w = w' := by
  go_enter Tryd.func66, Tryd.ntmps66
  go_wp2
  go_ret
  exact ⟨rfl, rfl⟩

set_option maxRecDepth 20000 in
set_option maxHeartbeats 400000 in
theorem isWay_any (x : Int) (w : World) :
    Calls Tryd.prog 65 #[.int .i64 x] w fun e w' => e = .returned (.bool (inB x 0 3)) ∧ w = w' := by
  by_cases h : 0 ≤ x
  · by_cases h2 : x < 4
    · have HF := Lib.hid (inB_of (n := x) (lo := 0) (hi := 3) ⟨h, by omega⟩)
      go_enter Tryd.func65, Tryd.ntmps65
      go_wp2
      go_ret
      exact ⟨ret_bool (by rw [HF.out]), rfl⟩
    · have HF := Lib.hid (inB_no (n := x) (lo := 0) (hi := 3) (by omega))
      go_enter Tryd.func65, Tryd.ntmps65
      go_wp2
      go_ret
      exact ⟨ret_bool (by rw [HF.out]), rfl⟩
  · have HF := Lib.hid (inB_no (n := x) (lo := 0) (hi := 3) (by omega))
    go_enter Tryd.func65, Tryd.ntmps65
    go_wp2
    go_ret
    exact ⟨ret_bool (by rw [HF.out]), rfl⟩

set_option maxRecDepth 20000 in
set_option maxHeartbeats 2000000 in
theorem areFacing_any (s : ByteArray) (w : World) (hs : s.size ≤ 1048576) :
    Calls Tryd.prog 23 #[.string s] w fun e w' => e = .returned (.bool (faceB s)) ∧ w = w' := by
  by_cases hin : 1 ≤ s.size ∧ s.size ≤ 30
  · obtain ⟨hb1, hb2⟩ := hin
    have g1 : ¬ (s.size : Int) < 1 := by omega
    have g2 : ¬ 30 < (s.size : Int) := by omega
    go_enter Tryd.func23, Tryd.ntmps23
    go_wp2
    go_loop [14] (fun i => ∃ k : Nat, k ≤ s.size ∧ i = .int .i64 (k : Int) ∧ Hid (eachTo (fun b => decide (48 ≤ (b.toNat : Int) ∧ (b.toNat : Int) ≤ 51)) s k)) (fun i => s.size - (intOf i).toNat)
    case atStart => exact ⟨0, Nat.zero_le _, rfl, Lib.hid (fun _ _ h => absurd h (Nat.not_lt_zero _))⟩
    case round =>
      obtain ⟨k, hk, rfl, HK⟩ := hrel
      by_cases hlt : k < s.size
      · obtain ⟨hb0, hb3⟩ := byte_bd s[k]
        have HT := Lib.hid (fun w2 => wayOf_any (s[k].toNat : Int) w2 hb0 hb3)
        have HI := Lib.hid (fun w2 => isWay_any ((s[k].toNat : Int) - 48) w2)
        by_cases hp : 48 ≤ (s[k].toNat : Int) ∧ (s[k].toNat : Int) ≤ 51
        · have HK2 := Lib.hid (eachTo_succ hlt HK.out (decide_eq_true hp))
          rw [inB_of (by omega)] at HI
          clear hp
          go_wp2_with (first | (go_at_call 66; refine (HT.out _).mono ?_; rintro e w' ⟨rfl, rfl⟩) | (go_at_call 65; refine (HI.out _).mono ?_; rintro e w' ⟨rfl, rfl⟩))
          go_round
          case rel => exact ⟨k + 1, by omega, by go_num, HK2⟩
          case measure => simp [intOf]; omega
        · have HF : Hid (faceB s = false) := Lib.hid (by unfold faceB; rw [each_not hlt (decide_eq_false hp), Bool.and_false])
          rw [inB_no (by omega)] at HI
          clear hp
          go_wp2_with (first | (go_at_call 66; refine (HT.out _).mono ?_; rintro e w' ⟨rfl, rfl⟩) | (go_at_call 65; refine (HI.out _).mono ?_; rintro e w' ⟨rfl, rfl⟩))
          go_ret
          exact ⟨ret_bool (by rw [HF.out]), rfl⟩
      · have HF : Hid (faceB s = true) := Lib.hid (by
          unfold faceB
          rw [decide_eq_true ⟨by omega, by omega⟩, Bool.true_and]
          exact each_to (by rw [show s.size = k from by omega]; exact HK.out))
        go_wp2
        go_ret
        exact ⟨ret_bool (by rw [HF.out]), rfl⟩
  · have HF : Hid (faceB s = false) := Lib.hid (by unfold faceB; rw [decide_eq_false (by omega), Bool.false_and])
    by_cases h1 : s.size < 1
    · have g1 : (s.size : Int) < 1 := by omega
      clear hin
      go_enter Tryd.func23, Tryd.ntmps23
      go_wp2
      go_ret
      exact ⟨ret_bool (by rw [HF.out]), rfl⟩
    · have g1 : ¬ (s.size : Int) < 1 := by omega
      have g2 : 30 < (s.size : Int) := by omega
      clear hin h1
      go_enter Tryd.func23, Tryd.ntmps23
      go_wp2
      go_ret
      exact ⟨ret_bool (by rw [HF.out]), rfl⟩

set_option maxRecDepth 20000 in
theorem implAreFacing_any (w : World) (s : ByteArray) (_ws : s.size ≤ maxLen) (hs : s.size ≤ 1048576) :
    Calls Tryd.prog 23 #[.string s] w fun e w' => e = .returned (.bool (outAreFacing_0 s)) ∧ Below w.heap.size w w' := by
  refine (areFacing_any s w hs).mono ?_
  rintro e w' ⟨rfl, rfl⟩
  exact ⟨rfl, Below.refl _ _⟩

def cntE (fs : List Nat) (v : Nat) : Nat → Nat
  | 0 => 0
  | k + 1 => if fs.getD k 0 = v then cntE fs v k + 1 else cntE fs v k
theorem cntE_le (fs : List Nat) (v : Nat) : ∀ k, cntE fs v k ≤ k
  | 0 => Nat.le_refl _
  | k + 1 => by have := cntE_le fs v k; rw [cntE]; split <;> omega
theorem cntE_yes {fs : List Nat} {v k : Nat} (h : fs.getD k 0 = v) : cntE fs v (k + 1) = cntE fs v k + 1 := by rw [cntE, if_pos h]
theorem cntE_no {fs : List Nat} {v k : Nat} (h : ¬ fs.getD k 0 = v) : cntE fs v (k + 1) = cntE fs v k := by rw [cntE, if_neg h]
set_option maxRecDepth 20000 in
set_option maxHeartbeats 2000000 in
theorem countFacing_any (fs : List Nat) (v : Nat) (w : World) (h2 : fs.length ≤ 30) (h3 : ∀ t ∈ fs, t < 4) :
    Calls Tryd.prog 72 #[.string (face fs), .int .i64 (v : Int)] w fun e w' => e = .returned (.int .i64 (cntE fs v fs.length : Nat)) ∧ w = w' := by
  have HFB := Lib.hid (face_byte fs h3)
  have hz : (face fs).size ≤ 30 := by rw [size_face]; exact h2
  have HZ : Hid (fs.length = (face fs).size) := Lib.hid (size_face fs).symm
  rw [HZ.out]
  obtain ⟨f, hf⟩ : ∃ g, g = face fs := ⟨_, rfl⟩
  rw [← hf] at HZ hz ⊢
  have HFB2 : Hid (∀ k, (hk : k < f.size) → ((f[k]).toNat : Int) = 48 + ((fs.getD k 0 : Nat) : Int)) := Lib.hid (by subst hf; exact HFB.out)
  clear hf h3 h2 HFB
  go_enter Tryd.func72, Tryd.ntmps72
  go_wp2
  go_loop [5, 9] (fun c i => ∃ k : Nat, k ≤ f.size ∧ i = .int .i64 (k : Int) ∧ c = .int .i64 (cntE fs v k : Nat)) (fun _ i => f.size - (intOf i).toNat)
  case atStart => exact ⟨0, Nat.zero_le _, rfl, rfl⟩
  case round =>
    obtain ⟨k, hk, rfl, rfl⟩ := hrel
    have hle := cntE_le fs v k
    by_cases hlt : k < f.size
    · obtain ⟨hb0, hb3⟩ := byte_bd f[k]
      have HT := Lib.hid (fun w2 => wayOf_any (f[k].toNat : Int) w2 hb0 hb3)
      have e1 := HFB2.out k hlt
      rw [e1] at HT
      rw [show (48 + ((fs.getD k 0 : Nat) : Int) - 48) = ((fs.getD k 0 : Nat) : Int) from by omega] at HT
      by_cases hx : fs.getD k 0 = v
      · have HC := Lib.hid (cntE_yes hx)
        obtain ⟨c, hc⟩ : ∃ c, c = cntE fs v k := ⟨_, rfl⟩
        rw [← hc] at HC hle ⊢
        rw [hx] at HT e1
        clear hx hc
        go_wp2_with (go_at_call 66; refine (HT.out _).mono ?_; rintro e w' ⟨rfl, rfl⟩)
        go_round
        case rel => exact ⟨k + 1, by omega, by go_num, int_eq (by rw [HC.out]; simp)⟩
        case measure => simp [intOf]; omega
      · have HC := Lib.hid (cntE_no hx)
        obtain ⟨c, hc⟩ : ∃ c, c = cntE fs v k := ⟨_, rfl⟩
        rw [← hc] at HC hle ⊢
        obtain ⟨x, hxx⟩ : ∃ x, x = fs.getD k 0 := ⟨_, rfl⟩
        rw [← hxx] at HT e1 hx
        have bx : ((x : Int) == (v : Int)) = false := by rw [beq_eq_false_iff_ne]; omega
        clear hx hc hxx
        go_wp2_with (go_at_call 66; refine (HT.out _).mono ?_; rintro e w' ⟨rfl, rfl⟩)
        go_round
        case rel => exact ⟨k + 1, by omega, by go_num, int_eq (by rw [HC.out])⟩
        case measure => simp [intOf]; omega
    · obtain rfl : k = f.size := by omega
      go_wp2
      go_ret
      exact ⟨rfl, rfl⟩

end Go.Proofs.YtjbomclildkjaaaDoor
