
/- The walks of the laws FnExactCountByTicks and FnExactSumOfTicks. -/
import Derived.Test.YtacchefmblfobaaC1RwCounts
namespace Go.Proofs.Ytacchefmblfobaa.C1
open Go.ChangeShapes Go.WideShapes Go.ChangeAt Go.RowKit

theorem ret_ib2 {a b : Int} {x : Bool} (h : a = b) : Ending.returned (.tuple #[.int .i64 a, .bool x]) = .returned (.tuple #[.int .i64 b, .bool x]) := by rw [h]
def noCount (n t : Int) : Prop := ¬ (1 ≤ n ∧ n ≤ 12) ∨ ¬ (0 ≤ t ∧ t ≤ 1000)
def countTicks (n t : Nat) : Nat := (Rw.ticksAll n).count t
theorem ticks_pow (n : Nat) (h2 : n ≤ 12) : (Rw.ticksAll n).length ≤ 4096 := by rw [Rw.length_ticksAll]; exact p2_12 n h2

set_option maxRecDepth 20000 in
set_option maxHeartbeats 1000000 in
theorem specCountByTicks_no (n t : Int) (h : noCount n t) (w : World) :
    Calls Try.prog 58 #[.int .i64 n, .int .i64 t] w fun e w' => e = .returned (.tuple #[.int .i64 0, .bool false]) ∧ w = w' := by
  by_cases hn : 1 ≤ n ∧ n ≤ 12
  · have b1 : inB n 1 12 = true := by unfold inB; simp only [decide_eq_true_eq]; exact hn
    have b2 : inB t 0 1000 = false := by
      unfold inB; simp only [decide_eq_false_iff_not]
      rcases h with h | h
      · exact absurd hn h
      · exact h
    clear h hn
    go_enter Try.func58, Try.ntmps58
    go_wp2_with (first | (go_at_call 96; refine (few_any _ _).mono ?_; rintro e w' ⟨rfl, rfl⟩) | (go_at_call 89; refine (l1In_any _ _ _ _).mono ?_; rintro e w' ⟨rfl, rfl⟩))
    go_ret2
    exact ⟨rfl, rfl⟩
  · have b1 : inB n 1 12 = false := by unfold inB; simp only [decide_eq_false_iff_not]; exact hn
    clear h hn
    go_enter Try.func58, Try.ntmps58
    go_wp2_with (first | (go_at_call 96; refine (few_any _ _).mono ?_; rintro e w' ⟨rfl, rfl⟩))
    go_ret2
    exact ⟨rfl, rfl⟩
set_option maxRecDepth 20000 in
set_option maxHeartbeats 2000000 in
theorem specCountByTicks_yes (n t : Nat) (h1 : 1 ≤ n) (h2 : n ≤ 12) (ht : t ≤ 1000) (w : World) :
    Calls Try.prog 58 #[.int .i64 (n : Int), .int .i64 (t : Int)] w fun e w' => e = .returned (.tuple #[.int .i64 (countTicks n t : Nat), .bool true]) ∧ Below w.heap.size w w' := by
  have b1 : inB n 1 12 = true := by unfold inB; simp only [decide_eq_true_eq]; omega
  have b2 : inB t 0 1000 = true := by unfold inB; simp only [decide_eq_true_eq]; omega
  have HC := Lib.hid (rwCounts_any n h1 h2 w)
  go_enter Try.func58, Try.ntmps58
  go_wp2_with (first | (go_at_call 96; refine (few_any _ _).mono ?_; rintro e w' ⟨rfl, rfl⟩) | (go_at_call 89; refine (l1In_any _ _ _ _).mono ?_; rintro e w' ⟨rfl, rfl⟩))
  go_at_call 102
  refine HC.out.mono ?_
  rintro e w2 ⟨v, out, rfl, ho, hH, _, ho1, ho2, hb⟩
  obtain ⟨g2, c2, rfl, hg2, _⟩ := ho.point (by rw [asInts_len]; omega)
  rw [asInts_len] at ho ⊢
  obtain ⟨L, hL⟩ : ∃ L, L = out.length := ⟨_, rfl⟩
  rw [← hL] at ho ho1 ho2 ⊢
  have HB := Lib.hid hb
  by_cases hlt : t < L
  · have e1 := ho.cell (by rw [asInts_len]; exact hL) t (by rw [asInts_len]; omega)
    rw [getD_asInts] at e1
    have HE : Hid (out.getD t 0 = countTicks n t) := hH.1 t (by omega)
    obtain ⟨x, hx⟩ : ∃ x, x = out.getD t 0 := ⟨_, rfl⟩
    rw [← hx] at e1 HE
    clear ho hH hb hL hx
    go_wp2
    go_ret2
    exact ⟨ret_ib2 (by rw [HE.out]), HB.out⟩
  · have HE : Hid (countTicks n t = 0) := List.count_eq_zero.2 (fun hm => by have := hH.2 t hm; omega)
    clear ho hH hb hL
    go_wp2
    go_ret2
    exact ⟨ret_ib2 (by rw [HE.out]; rfl), HB.out⟩

set_option maxRecDepth 20000 in
set_option maxHeartbeats 1000000 in
theorem implCountByTicks_no (n t : Int) (h : noCount n t) (w : World) :
    Calls Try.prog 57 #[.int .i64 n, .int .i64 t] w fun e w' => e = .returned (.tuple #[.int .i64 0, .bool false]) ∧ Below w.heap.size w w' := by
  by_cases hn : 1 ≤ n ∧ n ≤ 12
  · have b2 : ¬ (0 ≤ t ∧ t ≤ 1000) := by
      rcases h with h | h
      · exact absurd hn h
      · exact h
    obtain ⟨n', rfl⟩ : ∃ m : Nat, n = m := ⟨n.toNat, by omega⟩
    have HC := Lib.hid (ticksOfAll_yes n' (by omega) (by omega) w)
    by_cases h0 : t < 0
    · have b3 : decide (t < 0) = true := by simp; omega
      clear h hn b2
      go_enter Try.func57, Try.ntmps57
      go_wp2_with (go_at_call 100; refine HC.out.mono ?_; rintro e w2 ⟨v, rfl, _, hb⟩)
      go_ret2
      exact ⟨rfl, hb⟩
    · have b3 : decide (t < 0) = false := by simp; omega
      have b4 : decide (1000 < t) = true := by simp; omega
      clear h hn b2
      go_enter Try.func57, Try.ntmps57
      go_wp2_with (go_at_call 100; refine HC.out.mono ?_; rintro e w2 ⟨v, rfl, _, hb⟩)
      go_ret2
      exact ⟨rfl, hb⟩
  · have HN := Lib.hid hn
    clear h hn
    go_enter Try.func57, Try.ntmps57
    go_wp2_with (go_at_call 100; refine (ticksOfAll_no _ HN.out _).mono ?_; rintro e w' ⟨rfl, rfl⟩)
    go_ret2
    exact ⟨rfl, Below.refl _ _⟩
set_option maxRecDepth 20000 in
set_option maxHeartbeats 2000000 in
theorem implCountByTicks_yes (n t : Nat) (h1 : 1 ≤ n) (h2 : n ≤ 12) (ht : t ≤ 1000) (w : World) :
    Calls Try.prog 57 #[.int .i64 (n : Int), .int .i64 (t : Int)] w fun e w' => e = .returned (.tuple #[.int .i64 (countTicks n t : Nat), .bool true]) ∧ Below w.heap.size w w' := by
  have b3 : decide ((t : Int) < 0) = false := by simp
  have b4 : decide ((1000 : Int) < t) = false := by simp; omega
  have HC := Lib.hid (ticksOfAll_yes n h1 h2 w)
  have hlen := ticks_pow n h2
  have hne := List.length_pos_iff.2 (Rw.ticksAll_ne n)
  have HE : Hid (countTicks n t = (Rw.ticksAll n).count t) := rfl
  obtain ⟨xs, hxs⟩ : ∃ xs, xs = Rw.ticksAll n := ⟨_, rfl⟩
  rw [← hxs] at HC hlen hne HE
  clear hxs
  go_enter Try.func57, Try.ntmps57
  go_wp2_with fail
  go_at_call 100
  refine HC.out.mono ?_
  rintro e w2 ⟨v, rfl, ho, hb⟩
  obtain ⟨g2, c2, rfl, hg2, _⟩ := ho.point (by rw [asInts_len]; exact hne)
  rw [asInts_len] at ho ⊢
  obtain ⟨L, hL⟩ : ∃ L, L = xs.length := ⟨_, rfl⟩
  rw [← hL] at ho hlen hne ⊢
  have HL : Hid (L = (asInts xs).length) := Lib.hid (by rw [asInts_len]; exact hL)
  have HXL := Lib.hid hL
  have HO := Lib.hid ho
  have HB := Lib.hid hb
  clear ho hb hL
  go_wp2
  go_loop [8, 28] (fun c i => ∃ j : Nat, j ≤ L ∧ i = .int .i64 (j : Int) ∧ c = .int .i64 ((xs.take j).count t : Nat)) (fun _ i => L - (intOf i).toNat)
  case atStart => exact ⟨0, Nat.zero_le _, rfl, rfl⟩
  case round =>
    obtain ⟨j, hj, rfl, rfl⟩ := hrel
    by_cases hlt : j < L
    · have e1 := HO.out.cell HL.out j (by have := HL.out; omega)
      rw [getD_asInts] at e1
      have HS := Lib.hid (Rw.countTo_succ xs t j (by have := HXL.out; omega))
      have hcl := Rw.count_le (xs.take j) t
      have hcl2 := List.length_take_le j xs
      have hcl3 : (xs.take j).count t ≤ 4096 := by omega
      obtain ⟨x, hx⟩ : ∃ x, x = xs.getD j 0 := ⟨_, rfl⟩
      obtain ⟨c, hc⟩ : ∃ c, c = (xs.take j).count t := ⟨_, rfl⟩
      rw [← hx] at e1 HS
      rw [← hc] at HS hcl3 ⊢
      clear hx hc hcl hcl2
      by_cases hxt : x = t
      · have t1 : ((x : Int) == (t : Int)) = true := by rw [beq_iff_eq]; omega
        have HS2 : Hid ((xs.take (j + 1)).count t = c + 1) := by rw [HS.out, if_pos hxt]; exact rfl
        clear hxt
        go_wp2
        go_round
        case rel => exact ⟨j + 1, by omega, by go_num, int_eq (by rw [HS2.out]; omega)⟩
        case measure => simp [intOf]; omega
      · have t1 : ((x : Int) == (t : Int)) = false := by rw [beq_eq_false_iff_ne]; omega
        have HS2 : Hid ((xs.take (j + 1)).count t = c) := by rw [HS.out, if_neg hxt]; exact rfl
        clear hxt
        go_wp2
        go_round
        case rel => exact ⟨j + 1, by omega, by go_num, int_eq (by rw [HS2.out])⟩
        case measure => simp [intOf]; omega
    · have HJ : Hid ((xs.take j).count t = countTicks n t) := by rw [show j = xs.length from by have := HXL.out; omega, List.take_length]; exact HE.out.symm
      go_wp2
      go_ret2
      exact ⟨ret_ib2 (by rw [HJ.out]), HB.out⟩


def sumTicks (n : Nat) : Nat := (Rw.ticksAll n).sum
theorem sumTicks_le (n : Nat) (h2 : n ≤ 12) : sumTicks n ≤ 14745600 := by
  have h := Rw.sum_le (Rw.ticksAll n) 3600 (fun x hx => Rw.mem_ticksAll_le (by omega) hx)
  have h3 := ticks_pow n h2
  unfold sumTicks; omega
theorem sumTo_succ' (c : List Nat) (k : Nat) (hk : k < c.length) : (c.take (k + 1)).sum = (c.take k).sum + c.getD k 0 := by
  rw [List.take_succ_eq_append_getElem hk, List.sum_append]; simp [List.getD_eq_getElem?_getD, hk]
theorem sumTo_le' (c : List Nat) (k : Nat) : (c.take k).sum ≤ c.sum := by
  have h : (c.take k ++ c.drop k).sum = c.sum := by rw [List.take_append_drop]
  rw [List.sum_append] at h
  omega
set_option maxRecDepth 20000 in
set_option maxHeartbeats 1000000 in
theorem specSumOfTicks_no (n : Int) (h : ¬ (1 ≤ n ∧ n ≤ 12)) (w : World) :
    Calls Try.prog 55 #[.int .i64 n] w fun e w' => e = .returned (.tuple #[.int .i64 0, .bool false]) ∧ w = w' := by
  have b1 : inB n 1 12 = false := by unfold inB; simp only [decide_eq_false_iff_not]; exact h
  clear h
  go_enter Try.func55, Try.ntmps55
  go_wp2_with (go_at_call 96; refine (few_any _ _).mono ?_; rintro e w' ⟨rfl, rfl⟩)
  go_ret2
  exact ⟨rfl, rfl⟩
set_option maxRecDepth 20000 in
set_option maxHeartbeats 2000000 in
theorem specSumOfTicks_yes (n : Nat) (h1 : 1 ≤ n) (h2 : n ≤ 12) (w : World) :
    Calls Try.prog 55 #[.int .i64 (n : Int)] w fun e w' => e = .returned (.tuple #[.int .i64 (sumTicks n : Nat), .bool true]) ∧ Below w.heap.size w w' := by
  have b1 : inB n 1 12 = true := by unfold inB; simp only [decide_eq_true_eq]; omega
  have HC := Lib.hid (rwCounts_any n h1 h2 w)
  have hsum := sumTicks_le n h2
  obtain ⟨S, hS⟩ : ∃ S, S = sumTicks n := ⟨_, rfl⟩
  rw [← hS] at hsum ⊢
  have HSS := Lib.hid hS
  clear hS
  go_enter Try.func55, Try.ntmps55
  go_wp2_with (go_at_call 96; refine (few_any _ _).mono ?_; rintro e w' ⟨rfl, rfl⟩)
  go_at_call 102
  refine HC.out.mono ?_
  rintro e w2 ⟨v, out, rfl, ho, _, hW, ho1, ho2, hb⟩
  have HW : Hid (Rw.wsum 0 out = S) := by rw [HSS.out]; exact hW
  obtain ⟨g2, c2, rfl, hg2, _⟩ := ho.point (by rw [asInts_len]; omega)
  rw [asInts_len] at ho ⊢
  obtain ⟨L, hL⟩ : ∃ L, L = out.length := ⟨_, rfl⟩
  rw [← hL] at ho ho1 ho2 ⊢
  have HL : Hid (L = (asInts out).length) := Lib.hid (by rw [asInts_len]; exact hL)
  have HXL := Lib.hid hL
  have HO := Lib.hid ho
  have HB := Lib.hid hb
  clear ho hW hb hL
  go_wp2
  go_loop [4, 13] (fun m i => ∃ j : Nat, j ≤ L ∧ i = .int .i64 (j : Int) ∧ m = .int .i64 (Rw.wsum 0 (out.take j) : Nat)) (fun _ i => L - (intOf i).toNat)
  case atStart => exact ⟨0, Nat.zero_le _, rfl, rfl⟩
  case round =>
    obtain ⟨j, hj, rfl, rfl⟩ := hrel
    by_cases hlt : j < L
    · have e1 := HO.out.cell HL.out j (by have := HL.out; omega)
      rw [getD_asInts] at e1
      have hs1 := Rw.wsumTo_succ out j (by have := HXL.out; omega)
      have hs2 := Rw.wsumTo_le out (j + 1)
      rw [HW.out] at hs2
      obtain ⟨x, hx⟩ : ∃ x, x = out.getD j 0 := ⟨_, rfl⟩
      obtain ⟨s, hs⟩ : ∃ s, s = Rw.wsum 0 (out.take j) := ⟨_, rfl⟩
      rw [← hx] at e1 hs1
      rw [← hs] at hs1 ⊢
      have hprod : ((j * x : Nat) : Int) = (j : Int) * (x : Int) := by push_cast; rfl
      have m1 : (j : Int) * (x : Int) ≤ 14745600 := by rw [← hprod]; omega
      have m2 : 0 ≤ (j : Int) * (x : Int) := by rw [← hprod]; omega
      have m3 : s ≤ 14745600 := by omega
      have HS : Hid (((Rw.wsum 0 (out.take (j + 1)) : Nat) : Int) = (s : Int) + (j : Int) * (x : Int)) := by rw [hs1]; push_cast; exact rfl
      clear hx hs hs1 hs2 hprod
      go_wp2
      go_round
      case rel => exact ⟨j + 1, by omega, by go_num, int_eq (by rw [HS.out])⟩
      case measure => simp [intOf]; omega
    · have HJ : Hid (Rw.wsum 0 (out.take j) = S) := by rw [show j = out.length from by have := HXL.out; omega, List.take_length]; exact HW.out
      go_wp2
      go_ret2
      exact ⟨ret_ib2 (by rw [HJ.out]), HB.out⟩
set_option maxRecDepth 20000 in
set_option maxHeartbeats 1000000 in
theorem implSumOfTicks_no (n : Int) (h : ¬ (1 ≤ n ∧ n ≤ 12)) (w : World) :
    Calls Try.prog 54 #[.int .i64 n] w fun e w' => e = .returned (.tuple #[.int .i64 0, .bool false]) ∧ w = w' := by
  have H := Lib.hid h
  clear h
  go_enter Try.func54, Try.ntmps54
  go_wp2_with (go_at_call 100; refine (ticksOfAll_no _ H.out _).mono ?_; rintro e w' ⟨rfl, rfl⟩)
  go_loop [6, 16] (fun s i => s = .int .i64 0 ∧ i = .int .i64 0) (fun _ _ => 0)
  case atStart => exact ⟨rfl, rfl⟩
  case round =>
    obtain ⟨rfl, rfl⟩ := hrel
    go_wp2
    go_ret2
    exact ⟨rfl, rfl⟩
set_option maxRecDepth 20000 in
set_option maxHeartbeats 2000000 in
theorem implSumOfTicks_yes (n : Nat) (h1 : 1 ≤ n) (h2 : n ≤ 12) (w : World) :
    Calls Try.prog 54 #[.int .i64 (n : Int)] w fun e w' => e = .returned (.tuple #[.int .i64 (sumTicks n : Nat), .bool true]) ∧ Below w.heap.size w w' := by
  have HC := Lib.hid (ticksOfAll_yes n h1 h2 w)
  have hlen := ticks_pow n h2
  have hne := List.length_pos_iff.2 (Rw.ticksAll_ne n)
  have hsum := sumTicks_le n h2
  have HE : Hid (sumTicks n = (Rw.ticksAll n).sum) := rfl
  obtain ⟨xs, hxs⟩ : ∃ xs, xs = Rw.ticksAll n := ⟨_, rfl⟩
  rw [← hxs] at HC hlen hne HE
  obtain ⟨S, hS⟩ : ∃ S, S = sumTicks n := ⟨_, rfl⟩
  rw [← hS] at hsum HE ⊢
  clear hxs hS
  go_enter Try.func54, Try.ntmps54
  go_wp2_with fail
  go_at_call 100
  refine HC.out.mono ?_
  rintro e w2 ⟨v, rfl, ho, hb⟩
  obtain ⟨g2, c2, rfl, hg2, _⟩ := ho.point (by rw [asInts_len]; exact hne)
  rw [asInts_len] at ho ⊢
  obtain ⟨L, hL⟩ : ∃ L, L = xs.length := ⟨_, rfl⟩
  rw [← hL] at ho hlen hne ⊢
  have HL : Hid (L = (asInts xs).length) := Lib.hid (by rw [asInts_len]; exact hL)
  have HXL := Lib.hid hL
  have HO := Lib.hid ho
  have HB := Lib.hid hb
  clear ho hb hL
  go_wp2
  go_loop [6, 16] (fun c i => ∃ j : Nat, j ≤ L ∧ i = .int .i64 (j : Int) ∧ c = .int .i64 ((xs.take j).sum : Nat)) (fun _ i => L - (intOf i).toNat)
  case atStart => exact ⟨0, Nat.zero_le _, rfl, rfl⟩
  case round =>
    obtain ⟨j, hj, rfl, rfl⟩ := hrel
    by_cases hlt : j < L
    · have e1 := HO.out.cell HL.out j (by have := HL.out; omega)
      rw [getD_asInts] at e1
      have hs1 := sumTo_succ' xs j (by have := HXL.out; omega)
      have hs2 := sumTo_le' xs (j + 1)
      rw [← HE.out] at hs2
      obtain ⟨x, hx⟩ : ∃ x, x = xs.getD j 0 := ⟨_, rfl⟩
      obtain ⟨s, hs⟩ : ∃ s, s = (xs.take j).sum := ⟨_, rfl⟩
      rw [← hx] at e1 hs1
      rw [← hs] at hs1 ⊢
      have m1 : s + x ≤ 14745600 := by omega
      have HS := Lib.hid hs1
      clear hx hs hs1 hs2
      go_wp2
      go_round
      case rel => exact ⟨j + 1, by omega, by go_num, int_eq (by rw [HS.out]; omega)⟩
      case measure => simp [intOf]; omega
    · have HJ : Hid ((xs.take j).sum = S) := by rw [show j = xs.length from by have := HXL.out; omega, List.take_length]; exact HE.out.symm
      go_wp2
      go_ret2
      exact ⟨ret_ib2 (by rw [HJ.out]), HB.out⟩


end Go.Proofs.Ytacchefmblfobaa.C1
