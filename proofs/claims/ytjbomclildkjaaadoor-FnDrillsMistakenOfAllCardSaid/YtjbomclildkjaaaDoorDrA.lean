/- Chapter 4: the model's signs, words and facings. -/
import Derived.Test.YtjbomclildkjaaaDoorHeSpec
import Derived.Test.YtjbomclildkjaaaDoorDr
import Derived.Deep.QuietTactic
namespace Go.Proofs.YtjbomclildkjaaaDoor
open Go.ChangeShapes Go.WideShapes Go.ChangeAt Go.RowKit
open Dr

theorem byte_bd (b : UInt8) : 0 ≤ (b.toNat : Int) ∧ (b.toNat : Int) ≤ 255 := by have := b.toNat_lt; omega

set_option maxRecDepth 20000 in
set_option maxHeartbeats 400000 in
theorem drTurn_any (z : Int) (w : World) (h0 : 0 ≤ z) (h1 : z ≤ 255) :
    Calls Tryd.prog 73 #[.int .u8 z] w fun e w' => e = .returned (.int .i64 (turnI z)) ∧ w = w' := by
  by_cases hS : z = 83
  · subst hS
    go_enter Tryd.func73, Tryd.ntmps73
    go_wp2
    go_ret
    exact ⟨rfl, rfl⟩
  · have bS : (z == 83) = false := by rw [beq_eq_false_iff_ne]; exact hS
    by_cases hR : z = 82
    · subst hR
      clear bS
      go_enter Tryd.func73, Tryd.ntmps73
      go_wp2
      go_ret
      exact ⟨rfl, rfl⟩
    · have bR : (z == 82) = false := by rw [beq_eq_false_iff_ne]; exact hR
      by_cases hA : z = 65
      · subst hA
        clear bS bR
        go_enter Tryd.func73, Tryd.ntmps73
        go_wp2
        go_ret
        exact ⟨rfl, rfl⟩
      · have bA : (z == 65) = false := by rw [beq_eq_false_iff_ne]; exact hA
        by_cases hL : z = 76
        · subst hL
          clear bS bR bA
          go_enter Tryd.func73, Tryd.ntmps73
          go_wp2
          go_ret
          exact ⟨rfl, rfl⟩
        · have bL : (z == 76) = false := by rw [beq_eq_false_iff_ne]; exact hL
          have HE : Hid (turnI z = -1) := Lib.hid (by unfold turnI; rw [if_neg hS, if_neg hR, if_neg hA, if_neg hL])
          clear hS hR hA hL
          go_enter Tryd.func73, Tryd.ntmps73
          go_wp2
          go_ret
          exact ⟨ret_int (by rw [HE.out]), rfl⟩

set_option maxRecDepth 20000 in
set_option maxHeartbeats 400000 in
theorem drSign_any (t : Nat) (ht : t < 4) (w : World) :
    Calls Tryd.prog 60 #[.int .i64 (t : Int)] w fun e w' => e = .returned (.string (word [t])) ∧ w = w' := by
  match t, ht with
  | 0, _ =>
    go_enter Tryd.func60, Tryd.ntmps60
    go_wp2
    go_ret
    exact ⟨ret_str (by decide), rfl⟩
  | 1, _ =>
    go_enter Tryd.func60, Tryd.ntmps60
    go_wp2
    go_ret
    exact ⟨ret_str (by decide), rfl⟩
  | 2, _ =>
    go_enter Tryd.func60, Tryd.ntmps60
    go_wp2
    go_ret
    exact ⟨ret_str (by decide), rfl⟩
  | 3, _ =>
    go_enter Tryd.func60, Tryd.ntmps60
    go_wp2
    go_ret
    exact ⟨ret_str (by decide), rfl⟩

set_option maxRecDepth 20000 in
set_option maxHeartbeats 1000000 in
theorem drWord_any (s : ByteArray) (w : World) (hs : s.size ≤ 1048576) :
    Calls Tryd.prog 56 #[.string s] w fun e w' => e = .returned (.bool (wordB s)) ∧ w = w' := by
  by_cases h60 : s.size ≤ 60
  · have hgt : ¬ 60 < (s.size : Int) := by omega
    go_enter Tryd.func56, Tryd.ntmps56
    go_wp2
    go_loop [3] (fun i => ∃ k : Nat, k ≤ s.size ∧ i = .int .i64 (k : Int) ∧ Hid (eachTo (fun b => decide (0 ≤ turnI (b.toNat : Int))) s k)) (fun i => s.size - (intOf i).toNat)
    case atStart => exact ⟨0, Nat.zero_le _, rfl, Lib.hid (fun _ _ h => absurd h (Nat.not_lt_zero _))⟩
    case round =>
      obtain ⟨k, hk, rfl, HK⟩ := hrel
      by_cases hlt : k < s.size
      · obtain ⟨hb0, hb1⟩ := byte_bd s[k]
        have HT := Lib.hid (fun w2 => drTurn_any (s[k].toNat : Int) w2 hb0 hb1)
        by_cases hp : 0 ≤ turnI (s[k].toNat : Int)
        · have HK2 := Lib.hid (eachTo_succ hlt HK.out (decide_eq_true hp))
          have hneg : ¬ turnI (s[k].toNat : Int) < 0 := by omega
          obtain ⟨z, hz⟩ : ∃ z, z = turnI (s[k].toNat : Int) := ⟨_, rfl⟩
          rw [← hz] at HT hp hneg
          clear hz
          go_wp2_with (go_at_call 73; refine (HT.out _).mono ?_; rintro e w' ⟨rfl, rfl⟩)
          go_round
          case rel => exact ⟨k + 1, by omega, by go_num, HK2⟩
          case measure => simp [intOf]; omega
        · have HF : Hid (wordB s = false) := Lib.hid (by unfold wordB; rw [each_not hlt (decide_eq_false hp), Bool.and_false])
          have hneg : turnI (s[k].toNat : Int) < 0 := by omega
          obtain ⟨z, hz⟩ : ∃ z, z = turnI (s[k].toNat : Int) := ⟨_, rfl⟩
          rw [← hz] at HT hp hneg
          clear hz
          go_wp2_with (go_at_call 73; refine (HT.out _).mono ?_; rintro e w' ⟨rfl, rfl⟩)
          go_ret
          exact ⟨ret_bool (by rw [HF.out]), rfl⟩
      · have HF : Hid (wordB s = true) := Lib.hid (by
          unfold wordB
          rw [decide_eq_true h60, Bool.true_and]
          exact each_to (by rw [show s.size = k from by omega]; exact HK.out))
        go_wp2
        go_ret
        exact ⟨ret_bool (by rw [HF.out]), rfl⟩
  · have hgt : 60 < (s.size : Int) := by omega
    have HF : Hid (wordB s = false) := Lib.hid (by unfold wordB; rw [decide_eq_false h60, Bool.false_and])
    go_enter Tryd.func56, Tryd.ntmps56
    go_wp2
    go_ret
    exact ⟨ret_bool (by rw [HF.out]), rfl⟩

def outAreCommands_0 (s : ByteArray) : Bool := wordB s
def outAreFacing_0 (s : ByteArray) : Bool := faceB s
set_option maxRecDepth 20000 in
set_option maxHeartbeats 400000 in
theorem specAreCommands_any (w : World) (s : ByteArray) (_ws : s.size ≤ maxLen) (hs : s.size ≤ 1048576) :
    Calls Tryd.prog 22 #[.string s] w fun e w' => e = .returned (.bool (outAreCommands_0 s)) ∧ Below w.heap.size w w' := by
  have HW := Lib.hid (drWord_any s w hs)
  clear _ws
  go_enter Tryd.func22, Tryd.ntmps22
  go_wp2_with (go_at_call 56; refine HW.out.mono ?_; rintro e w' ⟨rfl, rfl⟩)
  go_ret
  exact ⟨rfl, Below.refl _ _⟩

set_option maxRecDepth 20000 in
set_option maxHeartbeats 1000000 in
theorem drFacing_any (s : ByteArray) (w : World) (hs : s.size ≤ 1048576) :
    Calls Tryd.prog 55 #[.string s] w fun e w' => e = .returned (.bool (faceB s)) ∧ w = w' := by
  have HI := Lib.hid (l1In_any s.size 1 30 w)
  rcases hin : inB s.size 1 30 with _ | _
  · have HF : Hid (faceB s = false) := Lib.hid (by
      unfold faceB
      unfold inB at hin
      have := of_decide_eq_false hin
      rw [decide_eq_false (by omega), Bool.false_and])
    rw [hin] at HI
    clear hin
    go_enter Tryd.func55, Tryd.ntmps55
    go_wp2_with (go_at_call 69; refine HI.out.mono ?_; rintro e w' ⟨rfl, rfl⟩)
    go_ret
    exact ⟨ret_bool (by rw [HF.out]), rfl⟩
  · have hin2 := hin
    unfold inB at hin2
    have hb := of_decide_eq_true hin2
    obtain ⟨hb1, hb2⟩ := hb
    rw [hin] at HI
    clear hin hin2
    go_enter Tryd.func55, Tryd.ntmps55
    go_wp2_with (go_at_call 69; refine HI.out.mono ?_; rintro e w' ⟨rfl, rfl⟩)
    go_loop [3] (fun i => ∃ k : Nat, k ≤ s.size ∧ i = .int .i64 (k : Int) ∧ Hid (eachTo (fun b => decide (48 ≤ (b.toNat : Int) ∧ (b.toNat : Int) ≤ 51)) s k)) (fun i => s.size - (intOf i).toNat)
    case atStart => exact ⟨0, Nat.zero_le _, rfl, Lib.hid (fun _ _ h => absurd h (Nat.not_lt_zero _))⟩
    case round =>
      obtain ⟨k, hk, rfl, HK⟩ := hrel
      by_cases hlt : k < s.size
      · obtain ⟨hb0, hb3⟩ := byte_bd s[k]
        have HT := Lib.hid (fun w2 => l1In_any ((s[k].toNat : Int) - 48) 0 3 w2)
        by_cases hp : 48 ≤ (s[k].toNat : Int) ∧ (s[k].toNat : Int) ≤ 51
        · have HK2 := Lib.hid (eachTo_succ hlt HK.out (decide_eq_true hp))
          rw [show inB ((s[k].toNat : Int) - 48) 0 3 = true from by unfold inB; rw [decide_eq_true]; omega] at HT
          clear hp
          go_wp2_with fail
          go_at_call 69
          refine (HT.out _).mono ?_
          rintro e w' ⟨rfl, rfl⟩
          go_wp2
          go_round
          case rel => exact ⟨k + 1, by omega, by go_num, HK2⟩
          case measure => simp [intOf]; omega
        · have HF : Hid (faceB s = false) := Lib.hid (by unfold faceB; rw [each_not hlt (decide_eq_false hp), Bool.and_false])
          rw [show inB ((s[k].toNat : Int) - 48) 0 3 = false from by unfold inB; rw [decide_eq_false]; omega] at HT
          clear hp
          go_wp2_with fail
          go_at_call 69
          refine (HT.out _).mono ?_
          rintro e w' ⟨rfl, rfl⟩
          go_wp2
          go_ret
          exact ⟨ret_bool (by rw [HF.out]), rfl⟩
      · have HF : Hid (faceB s = true) := Lib.hid (by
          unfold faceB
          rw [decide_eq_true ⟨by omega, by omega⟩, Bool.true_and]
          exact each_to (by rw [show s.size = k from by omega]; exact HK.out))
        go_wp2
        go_ret
        exact ⟨ret_bool (by rw [HF.out]), rfl⟩

set_option maxRecDepth 20000 in
set_option maxHeartbeats 400000 in
theorem specAreFacing_any (w : World) (s : ByteArray) (_ws : s.size ≤ maxLen) (hs : s.size ≤ 1048576) :
    Calls Tryd.prog 24 #[.string s] w fun e w' => e = .returned (.bool (outAreFacing_0 s)) ∧ Below w.heap.size w w' := by
  have HW := Lib.hid (drFacing_any s w hs)
  clear _ws
  go_enter Tryd.func24, Tryd.ntmps24
  go_wp2_with (go_at_call 55; refine HW.out.mono ?_; rintro e w' ⟨rfl, rfl⟩)
  go_ret
  exact ⟨rfl, Below.refl _ _⟩

theorem word_byte (ts : List Nat) (h : ∀ t ∈ ts, t < 4) (k : Nat) (hk : k < (word ts).size) : turnI (((word ts)[k]).toNat : Int) = ((ts.getD k 0 : Nat) : Int) := by
  have hk' : k < ts.length := by rw [size_word] at hk; exact hk
  have e : (word ts)[k] = sg (ts.getD k 0) := by
    have := txt_get (ts.map sg) k hk
    rw [getD_mapZ _ _ _ hk'] at this
    exact this
  rw [e]
  exact sg_turn (getD_lt h (by omega) k)
set_option maxRecDepth 20000 in
set_option maxHeartbeats 1000000 in
theorem drNet_any (ts : List Nat) (w : World) (hl : ts.length ≤ 60) (h : ∀ t ∈ ts, t < 4) :
    Calls Tryd.prog 58 #[.string (word ts)] w fun e w' => e = .returned (.int .i64 (net ts : Nat)) ∧ w = w' := by
  have HB := Lib.hid (word_byte ts h)
  have HL := Lib.hid (sumTo_le ts h)
  have HZ := Lib.hid (size_word ts)
  have hz : (word ts).size ≤ 60 := by rw [size_word]; exact hl
  have HG := Lib.hid (getD_lt h (by omega))
  have HN : Hid (net ts = sumTo ts (word ts).size % 4) := Lib.hid (by unfold net; rw [size_word])
  obtain ⟨s, hs⟩ : ∃ s, s = word ts := ⟨_, rfl⟩
  rw [← hs] at HZ hz HN ⊢
  have HBS : Hid (∀ k, (hk : k < s.size) → turnI ((s[k]).toNat : Int) = ((ts.getD k 0 : Nat) : Int)) := Lib.hid (by subst hs; exact HB.out)
  clear hs h hl HB
  go_enter Tryd.func58, Tryd.ntmps58
  go_wp2
  go_loop [3, 4] (fun t i => ∃ k : Nat, k ≤ s.size ∧ i = .int .i64 (k : Int) ∧ t = .int .i64 (sumTo ts k : Nat)) (fun _ i => s.size - (intOf i).toNat)
  case atStart => exact ⟨0, Nat.zero_le _, rfl, rfl⟩
  case round =>
    obtain ⟨k, hk, rfl, rfl⟩ := hrel
    have hle := HL.out k
    by_cases hlt : k < s.size
    · obtain ⟨hb0, hb1⟩ := byte_bd s[k]
      have HT := Lib.hid (fun w2 => drTurn_any (s[k].toNat : Int) w2 hb0 hb1)
      rw [HBS.out k hlt] at HT
      have HSK : Hid (sumTo ts (k + 1) = sumTo ts k + ts.getD k 0) := rfl
      have hg := HG.out k
      obtain ⟨x, hx⟩ : ∃ x, x = ts.getD k 0 := ⟨_, rfl⟩
      obtain ⟨m, hm⟩ : ∃ x, x = sumTo ts k := ⟨_, rfl⟩
      rw [← hx] at HT HSK hg
      rw [← hm] at HSK hle ⊢
      clear hx hm
      go_wp2_with (go_at_call 73; refine (HT.out _).mono ?_; rintro e w' ⟨rfl, rfl⟩)
      go_round
      case rel => exact ⟨k + 1, by omega, by go_num, int_eq (by rw [HSK.out]; simp)⟩
      case measure => simp [intOf]; omega
    · obtain rfl : k = s.size := by omega
      go_wp2
      go_ret
      exact ⟨ret_int (by rw [HN.out]; simp), rfl⟩

end Go.Proofs.YtjbomclildkjaaaDoor
