/- Numbers in texts: the model's l1Read. -/
import Derived.Test.YtodlpdbmiicdfabDoorIn
namespace Go.Proofs.YtodlpdbmiicdfabDoor
open Go.ChangeShapes Go.WideShapes Go.ChangeAt Go.RowKit

namespace Rd
def byteN (s : ByteArray) (k : Nat) : Nat := if h : k < s.size then (s[k]).toNat else 0
theorem byteN_at {s : ByteArray} {k : Nat} (h : k < s.size) : ((s[k]).toNat : Int) = (byteN s k : Nat) := by unfold byteN; rw [dif_pos h]
theorem byteN_lt (s : ByteArray) (k : Nat) : byteN s k < 256 := by
  unfold byteN
  split
  · exact UInt8.toNat_lt _
  · omega
def digB (s : ByteArray) (k : Nat) : Bool := decide (48 ≤ byteN s k) && decide (byteN s k ≤ 57)
/-- what the first k digits say -/
def readTo (s : ByteArray) : Nat → Nat
  | 0 => 0
  | k + 1 => 10 * readTo s k + (byteN s k - 48)
def readB (s : ByteArray) : Bool := inB s.size 1 6 && (!(decide (byteN s 0 = 48) && decide (1 < s.size)) && (List.range s.size).all (digB s))
def readZ (s : ByteArray) : Int := if readB s then (readTo s s.size : Nat) else -1
theorem readTo_le {s : ByteArray} {k : Nat} (h : ∀ j, j < k → digB s j = true) : readTo s k < 10 ^ k := by
  induction k with
  | zero => simp [readTo]
  | succ k ih =>
    have h1 := ih (fun j hj => h j (by omega))
    have h2 := h k (Nat.lt_succ_self _)
    unfold digB at h2
    rw [Bool.and_eq_true] at h2
    have := of_decide_eq_true h2.2
    rw [readTo, Nat.pow_succ]; omega
end Rd
open Rd

set_option maxHeartbeats 2000000 in
theorem l1Read_any (s : ByteArray) (w : World) (hls : s.size ≤ 1048576) :
    Calls Tryd.prog 42 #[.string s] w fun e w' => e = .returned (.int .i64 (readZ s)) ∧ w = w' := by
  have HI := Lib.hid (fun w2 => l1In_any s.size 1 6 w2)
  rcases hb : inB s.size 1 6 with _ | _
  · have H0 : Hid (readZ s = -1) := Lib.hid (by unfold readZ readB; rw [hb]; rfl)
    rw [hb] at HI
    clear hb
    go_enter Tryd.func42, Tryd.ntmps42
    go_wp2_with (go_at_call 47; refine (HI.out _).mono ?_; rintro e w' ⟨rfl, rfl⟩)
    go_ret
    exact ⟨ret_int (by rw [H0.out]), rfl⟩
  · obtain ⟨hs1, hs2⟩ := inB_yes hb
    have HIB := Lib.hid hb
    rw [hb] at HI
    clear hb
    have h0 : 0 < s.size := by omega
    have e0 := byteN_at h0
    have hz256 := byteN_lt s 0
    obtain ⟨z0, hz0⟩ : ∃ z, z = byteN s 0 := ⟨_, rfl⟩
    rw [← hz0] at e0 hz256
    have HZ0 := Lib.hid hz0
    clear hz0
    by_cases hlead : z0 = 48 ∧ 1 < s.size
    · obtain ⟨hz, hsz⟩ := hlead
      have H0 : Hid (readZ s = -1) := Lib.hid (by unfold readZ readB; rw [← HZ0.out, decide_eq_true hz, decide_eq_true hsz]; simp)
      subst hz
      have hsz2 : (1 : Int) < (s.size : Int) := by omega
      go_enter Tryd.func42, Tryd.ntmps42
      go_wp2_with (go_at_call 47; refine (HI.out _).mono ?_; rintro e w' ⟨rfl, rfl⟩)
      go_ret
      exact ⟨ret_int (by rw [H0.out]), rfl⟩
    · have HB0 : Hid (readB s = (List.range s.size).all (digB s)) := Lib.hid (by
        unfold readB; rw [HIB.out, ← HZ0.out, Bool.true_and]
        have : (decide (z0 = 48) && decide (1 < s.size)) = false := by rw [Bool.and_eq_false_iff]; by_cases h : z0 = 48
                                                                       · exact .inr (decide_eq_false (fun h2 => hlead ⟨h, h2⟩))
                                                                       · exact .inl (decide_eq_false h)
        rw [this]; rfl)
      by_cases hz : z0 = 48
      · have hsz2 : ¬ (1 : Int) < (s.size : Int) := fun h => hlead ⟨hz, by omega⟩
        subst hz
        clear hlead
        go_enter Tryd.func42, Tryd.ntmps42
        go_wp2_with (go_at_call 47; refine (HI.out _).mono ?_; rintro e w' ⟨rfl, rfl⟩)
        go_loop [3, 4] (fun c i => ∃ k n : Nat, k ≤ s.size ∧ n ≤ 1000000 ∧ i = .int .i64 (k : Int) ∧ c = .int .i64 (n : Int) ∧ Hid (n = readTo s k) ∧ Hid (∀ j, j < k → digB s j = true)) (fun _ i => s.size - (intOf i).toNat)
        case atStart => exact ⟨0, 0, Nat.zero_le _, Nat.zero_le _, rfl, rfl, Lib.hid rfl, Lib.hid (fun j h => absurd h (Nat.not_lt_zero _))⟩
        case round =>
          obtain ⟨k, n, hk, hn, rfl, rfl, HN, HD⟩ := hrel
          by_cases hlt : k < s.size
          · have ek := byteN_at hlt
            have hx256 := byteN_lt s k
            have HDK : Hid (digB s k = (decide (48 ≤ byteN s k) && decide (byteN s k ≤ 57))) := Lib.hid rfl
            have HNK : Hid (readTo s (k + 1) = 10 * n + (byteN s k - 48)) := Lib.hid (by rw [readTo, ← HN.out])
            obtain ⟨x, hx⟩ : ∃ x, x = byteN s k := ⟨_, rfl⟩
            rw [← hx] at ek hx256 HDK HNK
            clear hx
            have HNO : Hid (digB s k = false → readZ s = -1) := Lib.hid (fun h => by
              unfold readZ
              rw [HB0.out, if_neg]
              intro h2
              rw [List.all_eq_true] at h2
              rw [h2 k (List.mem_range.2 hlt)] at h
              cases h)
            by_cases h1 : x < 48
            · have HR := Lib.hid (HNO.out (by rw [HDK.out, decide_eq_false (by omega)]; rfl))
              have h1i : (x : Int) < 48 := by omega
              clear HNO
              go_wp2
              go_ret
              exact ⟨ret_int (by rw [HR.out]), rfl⟩
            · have h1i : ¬ (x : Int) < 48 := by omega
              by_cases h2 : 57 < x
              · have HR := Lib.hid (HNO.out (by rw [HDK.out, decide_eq_false (show ¬ x ≤ 57 by omega), Bool.and_false]))
                have h2i : (57 : Int) < (x : Int) := by omega
                clear HNO
                go_wp2
                go_ret
                exact ⟨ret_int (by rw [HR.out]), rfl⟩
              · have h2i : ¬ (57 : Int) < (x : Int) := by omega
                have HD2 : Hid (∀ j, j < k + 1 → digB s j = true) := Lib.hid (fun j hj => by
                  by_cases e : j = k
                  · subst e; rw [HDK.out, decide_eq_true (show 48 ≤ x by omega), decide_eq_true (show x ≤ 57 by omega)]; rfl
                  · exact HD.out j (by omega))
                have hn9 : 10 * n + (x - 48) ≤ 1000000 := by
                  have h3 := readTo_le HD2.out
                  rw [HNK.out] at h3
                  have h4 : 10 ^ (k + 1) ≤ 10 ^ 6 := Nat.pow_le_pow_right (by omega) (by omega)
                  omega
                obtain ⟨n2, hn2⟩ : ∃ n2, n2 = 10 * n + (x - 48) := ⟨_, rfl⟩
                have en2 : 10 * (n : Int) + ((x : Int) - 48) = (n2 : Int) := by omega
                rw [← hn2] at HNK hn9
                clear HNO hn2
                go_wp2
                go_round
                case rel => exact ⟨k + 1, n2, by omega, hn9, by go_num, by first | rfl | (simp only [en2]) | exact int_eq (by omega), Lib.hid HNK.out.symm, HD2⟩
                case measure => simp [intOf]; omega
          · have HR : Hid (readZ s = n) := Lib.hid (by
              unfold readZ
              rw [HB0.out, if_pos, HN.out, show k = s.size by omega]
              rw [List.all_eq_true]
              intro j hj
              exact HD.out j (by have := List.mem_range.1 hj; omega))
            go_wp2
            go_ret
            exact ⟨ret_int (by rw [HR.out]), rfl⟩
      · have hq0 : ((z0 : Int) == 48) = false := by rw [beq_eq_false_iff_ne]; omega
        clear hlead
        go_enter Tryd.func42, Tryd.ntmps42
        go_wp2_with (go_at_call 47; refine (HI.out _).mono ?_; rintro e w' ⟨rfl, rfl⟩)
        go_loop [3, 4] (fun c i => ∃ k n : Nat, k ≤ s.size ∧ n ≤ 1000000 ∧ i = .int .i64 (k : Int) ∧ c = .int .i64 (n : Int) ∧ Hid (n = readTo s k) ∧ Hid (∀ j, j < k → digB s j = true)) (fun _ i => s.size - (intOf i).toNat)
        case atStart => exact ⟨0, 0, Nat.zero_le _, Nat.zero_le _, rfl, rfl, Lib.hid rfl, Lib.hid (fun j h => absurd h (Nat.not_lt_zero _))⟩
        case round =>
          obtain ⟨k, n, hk, hn, rfl, rfl, HN, HD⟩ := hrel
          by_cases hlt : k < s.size
          · have ek := byteN_at hlt
            have hx256 := byteN_lt s k
            have HDK : Hid (digB s k = (decide (48 ≤ byteN s k) && decide (byteN s k ≤ 57))) := Lib.hid rfl
            have HNK : Hid (readTo s (k + 1) = 10 * n + (byteN s k - 48)) := Lib.hid (by rw [readTo, ← HN.out])
            obtain ⟨x, hx⟩ : ∃ x, x = byteN s k := ⟨_, rfl⟩
            rw [← hx] at ek hx256 HDK HNK
            clear hx
            have HNO : Hid (digB s k = false → readZ s = -1) := Lib.hid (fun h => by
              unfold readZ
              rw [HB0.out, if_neg]
              intro h2
              rw [List.all_eq_true] at h2
              rw [h2 k (List.mem_range.2 hlt)] at h
              cases h)
            by_cases h1 : x < 48
            · have HR := Lib.hid (HNO.out (by rw [HDK.out, decide_eq_false (by omega)]; rfl))
              have h1i : (x : Int) < 48 := by omega
              clear HNO
              go_wp2
              go_ret
              exact ⟨ret_int (by rw [HR.out]), rfl⟩
            · have h1i : ¬ (x : Int) < 48 := by omega
              by_cases h2 : 57 < x
              · have HR := Lib.hid (HNO.out (by rw [HDK.out, decide_eq_false (show ¬ x ≤ 57 by omega), Bool.and_false]))
                have h2i : (57 : Int) < (x : Int) := by omega
                clear HNO
                go_wp2
                go_ret
                exact ⟨ret_int (by rw [HR.out]), rfl⟩
              · have h2i : ¬ (57 : Int) < (x : Int) := by omega
                have HD2 : Hid (∀ j, j < k + 1 → digB s j = true) := Lib.hid (fun j hj => by
                  by_cases e : j = k
                  · subst e; rw [HDK.out, decide_eq_true (show 48 ≤ x by omega), decide_eq_true (show x ≤ 57 by omega)]; rfl
                  · exact HD.out j (by omega))
                have hn9 : 10 * n + (x - 48) ≤ 1000000 := by
                  have h3 := readTo_le HD2.out
                  rw [HNK.out] at h3
                  have h4 : 10 ^ (k + 1) ≤ 10 ^ 6 := Nat.pow_le_pow_right (by omega) (by omega)
                  omega
                obtain ⟨n2, hn2⟩ : ∃ n2, n2 = 10 * n + (x - 48) := ⟨_, rfl⟩
                have en2 : 10 * (n : Int) + ((x : Int) - 48) = (n2 : Int) := by omega
                rw [← hn2] at HNK hn9
                clear HNO hn2
                go_wp2
                go_round
                case rel => exact ⟨k + 1, n2, by omega, hn9, by go_num, by first | rfl | (simp only [en2]) | exact int_eq (by omega), Lib.hid HNK.out.symm, HD2⟩
                case measure => simp [intOf]; omega
          · have HR : Hid (readZ s = n) := Lib.hid (by
              unfold readZ
              rw [HB0.out, if_pos, HN.out, show k = s.size by omega]
              rw [List.all_eq_true]
              intro j hj
              exact HD.out j (by have := List.mem_range.1 hj; omega))
            go_wp2
            go_ret
            exact ⟨ret_int (by rw [HR.out]), rfl⟩

end Go.Proofs.YtodlpdbmiicdfabDoor
