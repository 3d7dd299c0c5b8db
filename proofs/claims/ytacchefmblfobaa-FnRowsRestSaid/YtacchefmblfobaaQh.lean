/- The composite laws' own helpers: mHas and mSum. -/
import Derived.Test.YtacchefmblfobaaOwn
import Derived.Test.YtacchefmblfobaaDrew
namespace Go.Proofs.Ytacchefmblfobaa
open Go.ChangeShapes Go.WideShapes Go.ChangeAt Go.RowKit

namespace Qs
def hasL (xs : List Int) (n : Int) : Bool := decide (n ∈ xs)
theorem hasL_yes {xs : List Int} {n : Int} {k : Nat} (hk : k < xs.length) (h : xs.getD k 0 = n) : hasL xs n = true := by
  refine decide_eq_true ?_
  rw [← h, List.getD_eq_getElem?_getD, List.getElem?_eq_getElem hk]
  exact List.getElem_mem _
theorem hasL_no {xs : List Int} {n : Int} (h : ∀ j, j < xs.length → xs.getD j 0 ≠ n) : hasL xs n = false := by
  refine decide_eq_false fun hm => ?_
  obtain ⟨j, hj, e⟩ := List.getElem_of_mem hm
  refine h j hj ?_
  rw [List.getD_eq_getElem?_getD, List.getElem?_eq_getElem hj]; exact e
def sumTo (xs : List Int) (k : Nat) : Int := (xs.take k).sum
theorem sumTo_succ (xs : List Int) (k : Nat) (hk : k < xs.length) : sumTo xs (k + 1) = sumTo xs k + xs.getD k 0 := by
  unfold sumTo
  rw [List.take_succ_eq_append_getElem hk, List.sum_append]
  simp [List.getD_eq_getElem?_getD, hk]
theorem sumTo_all (xs : List Int) : sumTo xs xs.length = xs.sum := by unfold sumTo; rw [List.take_length]
theorem sumTo_bd (xs : List Int) (h : ∀ j, j < xs.length → 0 ≤ xs.getD j 0) : ∀ k, k ≤ xs.length → 0 ≤ sumTo xs k ∧ sumTo xs k ≤ xs.sum := by
  have h1 : ∀ d k, k + d = xs.length → sumTo xs k ≤ xs.sum := by
    intro d
    induction d with
    | zero => intro k hk; rw [show k = xs.length by omega, sumTo_all]; exact Int.le_refl _
    | succ d ih => intro k hk; have := ih (k + 1) (by omega); rw [sumTo_succ xs k (by omega)] at this; have := h k (by omega); omega
  have h2 : ∀ k, k ≤ xs.length → 0 ≤ sumTo xs k := by
    intro k
    induction k with
    | zero => intro _; exact Int.le_refl _
    | succ k ih => intro hk; rw [sumTo_succ xs k (by omega)]; have := ih (by omega); have := h k (by omega); omega
  exact fun k hk => ⟨h2 k hk, h1 (xs.length - k) k (by omega)⟩
end Qs
open Qs

set_option maxRecDepth 20000 in
set_option maxHeartbeats 2000000 in
theorem mHas_q (w : World) (a : Option Addr) (la ca : Nat) (xs : List Int) (n : Int) (h1 : la ≤ 4611686018427387904) (ha : Came w a la xs) :
    Calls Try.prog 32 #[.slice a la ca, .int .i64 n] w fun e w' => e = .returned (.bool (hasL xs n)) ∧ w = w' := by
  have HA := Lib.hid ha
  have HZ : Hid (xs.length = la) := Lib.hid ha.1
  clear ha
  go_enter Try.func32, Try.ntmps32
  go_wp2
  go_loop [9] (fun i => ∃ k : Nat, k ≤ la ∧ i = .int .i64 (k : Int) ∧ Hid (∀ j, j < k → xs.getD j 0 ≠ n)) (fun i => la - (intOf i).toNat)
  case atStart => exact ⟨0, Nat.zero_le _, rfl, Lib.hid (fun j h => absurd h (Nat.not_lt_zero _))⟩
  case round =>
    obtain ⟨k, hk, rfl, HK⟩ := hrel
    by_cases hlt : k < la
    · obtain ⟨g1, o1, rfl, hc1⟩ := HA.out.2 (by omega)
      have e3 := hc1 k hlt
      have i1 : (0 : Int) ≤ (k : Int) := by omega
      have i2 : (k : Int) < (la : Int) := by omega
      obtain ⟨x, hx⟩ : ∃ x, x = xs.getD k 0 := ⟨_, rfl⟩
      rw [← hx] at e3
      have HX := Lib.hid hx
      clear hx hc1
      by_cases hxn : x = n
      · subst hxn
        have HE := Lib.hid (hasL_yes (n := x) (show k < xs.length by have := HZ.out; omega) HX.out.symm)
        go_wp2
        go_ret
        exact ⟨ret_bool (by rw [HE.out]), rfl⟩
      · have HK2 : Hid (∀ j, j < k + 1 → xs.getD j 0 ≠ n) := Lib.hid (fun j hj => by
          by_cases e : j = k
          · rw [e, ← HX.out]; exact hxn
          · exact HK.out j (by omega))
        go_wp2
        go_round
        case rel => exact ⟨k + 1, by omega, by go_num, HK2⟩
        case measure => simp [intOf]; omega
    · have HE := Lib.hid (hasL_no (n := n) (xs := xs) (fun j hj => HK.out j (by have := HZ.out; omega)))
      have i2 : ¬ (k : Int) < (la : Int) := by omega
      go_wp2
      go_ret
      exact ⟨ret_bool (by rw [HE.out]), rfl⟩

set_option maxRecDepth 20000 in
set_option maxHeartbeats 2000000 in
theorem mSum_q (w : World) (a : Option Addr) (la ca : Nat) (xs : List Int) (h1 : la ≤ 4611686018427387904) (ha : Came w a la xs) (h0 : ∀ j, j < xs.length → 0 ≤ xs.getD j 0) (hs : xs.sum ≤ 1000000000000) :
    Calls Try.prog 30 #[.slice a la ca] w fun e w' => e = .returned (.int .i64 xs.sum) ∧ w = w' := by
  have HA := Lib.hid ha
  have HZ : Hid (xs.length = la) := Lib.hid ha.1
  have HB := Lib.hid (sumTo_bd xs h0)
  obtain ⟨T, hT⟩ : ∃ z, z = xs.sum := ⟨_, rfl⟩
  rw [← hT] at HB hs ⊢
  have HT := Lib.hid hT
  clear ha h0 hT
  go_enter Try.func30, Try.ntmps30
  go_wp2
  go_loop [3, 8] (fun t i => ∃ k : Nat, k ≤ la ∧ i = .int .i64 (k : Int) ∧ t = .int .i64 (sumTo xs k)) (fun _ i => la - (intOf i).toNat)
  case atStart => exact ⟨0, Nat.zero_le _, rfl, rfl⟩
  case round =>
    obtain ⟨k, hk, rfl, rfl⟩ := hrel
    by_cases hlt : k < la
    · obtain ⟨g1, o1, rfl, hc1⟩ := HA.out.2 (by omega)
      have e3 := hc1 k hlt
      have i1 : (0 : Int) ≤ (k : Int) := by omega
      have i2 : (k : Int) < (la : Int) := by omega
      obtain ⟨b1, b2⟩ := HB.out k (by have := HZ.out; omega)
      obtain ⟨b3, b4⟩ := HB.out (k + 1) (by have := HZ.out; omega)
      have HS := Lib.hid (sumTo_succ xs k (by have := HZ.out; omega))
      rw [HS.out] at b3 b4
      obtain ⟨x, hx⟩ : ∃ x, x = xs.getD k 0 := ⟨_, rfl⟩
      rw [← hx] at e3 b3 b4 HS
      obtain ⟨t, ht⟩ : ∃ x, x = sumTo xs k := ⟨_, rfl⟩
      rw [← ht] at b1 b2 b3 b4 HS ⊢
      clear hx hc1 ht
      go_wp2
      go_round
      case rel => exact ⟨k + 1, by omega, by go_num, by rw [HS.out]⟩
      case measure => simp [intOf]; omega
    · have i2 : ¬ (k : Int) < (la : Int) := by omega
      obtain rfl : k = la := by omega
      go_wp2
      go_ret
      exact ⟨ret_int (by rw [← HZ.out, sumTo_all, HT.out]), rfl⟩

end Go.Proofs.Ytacchefmblfobaa
