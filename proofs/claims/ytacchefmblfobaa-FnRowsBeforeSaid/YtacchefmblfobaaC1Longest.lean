
/- The walks of the laws FnExactLongestTicks and FnExactFirstLongest. -/
import Derived.Test.YtacchefmblfobaaC1RwCounts
import Derived.Test.YtacchefmblfobaaC1RowNum
namespace Go.Proofs.Ytacchefmblfobaa.C1
open Go.ChangeShapes Go.WideShapes Go.ChangeAt Go.RowKit

/-- the greatest number of ticks of a row of so many soldiers -/
def longest (n : Nat) : Nat := Rw.maxTo (Rw.ticksAll n) ((Rw.ticksAll n).length - 1)
theorem longest_max (n : Nat) : Rw.IsMax (Rw.ticksAll n) (longest n) := Rw.maxTo_max _ (List.length_pos_iff.2 (Rw.ticksAll_ne n))
theorem ticks_len (n : Nat) (h2 : n ≤ 12) : (Rw.ticksAll n).length ≤ 4611686018427387904 := by
  rw [Rw.length_ticksAll]; have := p2_12 n h2; unfold p2 at this; omega
set_option maxRecDepth 20000 in
theorem max_ticks (n : Nat) (h2 : n ≤ 12) (w : World) (B : Nat) (v : Value) (o1 : Own w B v (asInts (Rw.ticksAll n))) :
    Calls Try.prog 101 #[v] w fun e w' => e = .returned (.int .i64 (longest n : Nat)) ∧ w = w' :=
  max_any w B v _ (List.length_pos_iff.2 (Rw.ticksAll_ne n)) (ticks_len n h2) o1
theorem ret_ib2_Longest {a b : Int} {x : Bool} (h : a = b) : Ending.returned (.tuple #[.int .i64 a, .bool x]) = .returned (.tuple #[.int .i64 b, .bool x]) := by rw [h]
theorem lastTo_ge0 (out : List Nat) (j : Nat) (h : 0 < out.getD j 0) : Rw.lastTo out (j + 1) = j := by rw [Rw.lastTo, if_pos h]
theorem lastTo_ge1 (out : List Nat) (j : Nat) (h : ¬ 0 < out.getD j 0) : Rw.lastTo out (j + 1) = Rw.lastTo out j := by rw [Rw.lastTo, if_neg h]

set_option maxRecDepth 20000 in
set_option maxHeartbeats 1000000 in
theorem specLongestTicks_no (n : Int) (h : ¬ (1 ≤ n ∧ n ≤ 12)) (w : World) :
    Calls Try.prog 51 #[.int .i64 n] w fun e w' => e = .returned (.tuple #[.int .i64 0, .bool false]) ∧ w = w' := by
  have b1 : inB n 1 12 = false := by unfold inB; simp only [decide_eq_false_iff_not]; exact h
  clear h
  go_enter Try.func51, Try.ntmps51
  go_wp2_with (go_at_call 96; refine (few_any _ _).mono ?_; rintro e w' ⟨rfl, rfl⟩)
  go_ret2
  exact ⟨rfl, rfl⟩
set_option maxRecDepth 20000 in
set_option maxHeartbeats 2000000 in
theorem specLongestTicks_yes (n : Nat) (h1 : 1 ≤ n) (h2 : n ≤ 12) (w : World) :
    Calls Try.prog 51 #[.int .i64 (n : Int)] w fun e w' => e = .returned (.tuple #[.int .i64 (longest n : Nat), .bool true]) ∧ Below w.heap.size w w' := by
  have b1 : inB n 1 12 = true := by unfold inB; simp only [decide_eq_true_eq]; omega
  have HC := Lib.hid (rwCounts_any n h1 h2 w)
  go_enter Try.func51, Try.ntmps51
  go_wp2_with (go_at_call 96; refine (few_any _ _).mono ?_; rintro e w' ⟨rfl, rfl⟩)
  go_at_call 102
  refine HC.out.mono ?_
  rintro e w2 ⟨v, out, rfl, ho, hH, _, ho1, ho2, hb⟩
  have HE : Hid (Rw.lastTo out out.length = longest n) := (Rw.lastTo_max hH (Rw.ticksAll_ne n)).unique (longest_max n)
  obtain ⟨g2, c2, rfl, hg2, _⟩ := ho.point (by rw [asInts_len]; omega)
  rw [asInts_len] at ho ⊢
  obtain ⟨L, hL⟩ : ∃ L, L = out.length := ⟨_, rfl⟩
  rw [← hL] at ho ho1 ho2 HE ⊢
  have HL : Hid (L = (asInts out).length) := Lib.hid (by rw [asInts_len]; exact hL)
  have HO := Lib.hid ho
  have HB := Lib.hid hb
  clear ho hH hb hL
  go_wp2
  go_loop [4, 13] (fun m i => ∃ j : Nat, j ≤ L ∧ i = .int .i64 (j : Int) ∧ m = .int .i64 (Rw.lastTo out j : Nat)) (fun _ i => L - (intOf i).toNat)
  case atStart => exact ⟨0, Nat.zero_le _, rfl, rfl⟩
  case round =>
    obtain ⟨j, hj, rfl, rfl⟩ := hrel
    by_cases hlt : j < L
    · have e1 := HO.out.cell HL.out j (by have := HL.out; omega)
      rw [getD_asInts] at e1
      by_cases hx : 0 < out.getD j 0
      · have HS := Lib.hid (lastTo_ge0 out j hx)
        obtain ⟨x, hxx⟩ : ∃ x, x = out.getD j 0 := ⟨_, rfl⟩
        rw [← hxx] at e1 hx
        clear hxx
        go_wp2
        go_round
        case rel => exact ⟨j + 1, by omega, by go_num, by rw [HS.out]⟩
        case measure => simp [intOf]; omega
      · have HS := Lib.hid (lastTo_ge1 out j hx)
        obtain ⟨x, hxx⟩ : ∃ x, x = out.getD j 0 := ⟨_, rfl⟩
        rw [← hxx] at e1 hx
        clear hxx
        go_wp2
        go_round
        case rel => exact ⟨j + 1, by omega, by go_num, by rw [HS.out]⟩
        case measure => simp [intOf]; omega
    · have HJ : Hid (Rw.lastTo out j = longest n) := by rw [show j = L from by omega]; exact HE.out
      go_wp2
      go_ret2
      exact ⟨ret_ib2_Longest (by rw [HJ.out]), HB.out⟩
set_option maxRecDepth 20000 in
set_option maxHeartbeats 1000000 in
theorem implLongestTicks_no (n : Int) (h : ¬ (1 ≤ n ∧ n ≤ 12)) (w : World) :
    Calls Try.prog 50 #[.int .i64 n] w fun e w' => e = .returned (.tuple #[.int .i64 0, .bool false]) ∧ w = w' := by
  have H := Lib.hid h
  clear h
  go_enter Try.func50, Try.ntmps50
  go_wp2_with (go_at_call 100; refine (ticksOfAll_no _ H.out _).mono ?_; rintro e w' ⟨rfl, rfl⟩)
  go_ret2
  exact ⟨rfl, rfl⟩
set_option maxRecDepth 20000 in
set_option maxHeartbeats 1000000 in
theorem implLongestTicks_yes (n : Nat) (h1 : 1 ≤ n) (h2 : n ≤ 12) (w : World) :
    Calls Try.prog 50 #[.int .i64 (n : Int)] w fun e w' => e = .returned (.tuple #[.int .i64 (longest n : Nat), .bool true]) ∧ Below w.heap.size w w' := by
  have HC := Lib.hid (ticksOfAll_yes n h1 h2 w)
  go_enter Try.func50, Try.ntmps50
  go_wp2_with fail
  go_at_call 100
  refine HC.out.mono ?_
  rintro e w2 ⟨v, rfl, ho, hb⟩
  have HM := Lib.hid (max_ticks n h2 w2 _ v ho)
  have HB := Lib.hid hb
  clear ho hb
  go_wp2_with fail
  go_at_call 101
  refine HM.out.mono ?_
  rintro e w3 ⟨rfl, rfl⟩
  go_wp2
  go_ret2
  exact ⟨rfl, HB.out⟩


theorem first_longest (n : Nat) : ∃ K, K < 2 ^ n ∧ (Rw.ticksAll n).getD K 0 = longest n ∧ ∀ j, j < K → ¬ (Rw.ticksAll n).getD j 0 = longest n := by
  obtain ⟨K, h1, h2, h3⟩ := Rw.first_place _ _ (longest_max n).1
  exact ⟨K, by rwa [Rw.length_ticksAll] at h1, h2, h3⟩
set_option maxRecDepth 20000 in
set_option maxHeartbeats 1000000 in
theorem specFirstLongest_no (n : Int) (h : ¬ (1 ≤ n ∧ n ≤ 12)) (w : World) :
    Calls Try.prog 53 #[.int .i64 n] w fun e w' => e = .returned (.tuple #[.string ByteArray.empty, .bool false]) ∧ w = w' := by
  have H := Lib.hid h
  clear h
  go_enter Try.func53, Try.ntmps53
  go_wp2_with (go_at_call 51; refine (specLongestTicks_no _ H.out _).mono ?_; rintro e w' ⟨rfl, rfl⟩)
  go_ret2
  exact ⟨rfl, rfl⟩
set_option maxRecDepth 20000 in
set_option maxHeartbeats 2000000 in
theorem specFirstLongest_yes (n K : Nat) (h1 : 1 ≤ n) (h2 : n ≤ 12) (hK : K < 2 ^ n) (hM : (Rw.ticksAll n).getD K 0 = longest n) (hB : ∀ j, j < K → ¬ (Rw.ticksAll n).getD j 0 = longest n) (w : World) :
    Calls Try.prog 53 #[.int .i64 (n : Int)] w fun e w' => e = .returned (.tuple #[.string (Rw.str (Rw.make n K)), .bool true]) ∧ Below w.heap.size w w' := by
  have hp := p2_12 n h2
  have hw := p2_wrap n (by omega)
  obtain ⟨N, hN⟩ : ∃ N, N = p2 n := ⟨_, rfl⟩
  rw [← hN] at hp hw
  have hKN : K < N := by rw [hN]; exact hK
  have HNP : Hid (N = 2 ^ n) := Lib.hid hN
  have HMK := Lib.hid (fun k (hk : k ≤ 4611686018427387904) w2 => rwMake_any n k (by omega) hk w2)
  have HRS := Lib.hid (fun k w2 => rwRest_any (Rw.make n k) (by simpa using h1) (by simp; omega) w2)
  have HC := Lib.hid (specLongestTicks_yes n h1 h2 w)
  have HM := Lib.hid hM
  have HB := Lib.hid hB
  obtain ⟨M, hMM⟩ : ∃ M, M = longest n := ⟨_, rfl⟩
  rw [← hMM] at HC HM HB
  clear hN hK hM hB hMM
  go_enter Try.func53, Try.ntmps53
  go_wp2_with fail
  go_at_call 51
  refine HC.out.mono ?_
  rintro e w2 ⟨rfl, hb⟩
  have HB2 := Lib.hid hb
  clear hb
  go_wp2
  go_loopw [6] (fun i wr => ∃ j : Nat, j ≤ K ∧ i = .int .i64 (j : Int) ∧ Below w.heap.size w wr) (fun i _ => N - (intOf i).toNat)
  case atStart => exact ⟨0, Nat.zero_le _, rfl, HB2.out⟩
  case round =>
    obtain ⟨j, hj, rfl, hb⟩ := hrel
    have hjN : j < N := by omega
    have hwz := hb.size
    have HBB := Lib.hid hb
    have HT := Lib.hid (Rw.getD_ticksAll n j (by have := HNP.out; omega))
    have HR := Lib.hid (HRS.out j)
    obtain ⟨T, hTT⟩ : ∃ T, T = Rw.ticksOf (Rw.make n j) := ⟨_, rfl⟩
    rw [← hTT] at HT HR
    clear hb hTT
    go_wp2_with fail
    go_at_call 92
    refine (HMK.out j (by omega) _).mono ?_
    rintro e w' ⟨rfl, rfl⟩
    go_wp2_with fail
    go_at_call 66
    refine (HR.out _).mono ?_
    rintro e w3 ⟨rfl, hb2⟩
    have HB3 : Hid (Below w.heap.size w w3) := HBB.out.trans (hb2.mono hwz)
    clear hb2
    by_cases hjK : j < K
    · have hne : ¬ T = M := by rw [← HT.out]; exact HB.out j hjK
      have t1 : ((T : Int) == (M : Int)) = false := by rw [beq_eq_false_iff_ne]; omega
      clear hne
      go_wp2
      go_roundw
      case rel => exact ⟨j + 1, by omega, by go_num, HB3.out⟩
      case measure => simp [intOf]; omega
    · have heq : j = K := by omega
      subst heq
      have hTM : T = M := by rw [← HT.out]; exact HM.out
      subst hTM
      go_wp2_with fail
      go_at_call 92
      refine (HMK.out j (by omega) _).mono ?_
      rintro e w' ⟨rfl, rfl⟩
      go_wp2
      go_ret2
      exact ⟨rfl, HB3.out⟩
set_option maxRecDepth 20000 in
set_option maxHeartbeats 1000000 in
theorem implFirstLongest_no (n : Int) (h : ¬ (1 ≤ n ∧ n ≤ 12)) (w : World) :
    Calls Try.prog 52 #[.int .i64 n] w fun e w' => e = .returned (.tuple #[.string ByteArray.empty, .bool false]) ∧ w = w' := by
  have H := Lib.hid h
  clear h
  go_enter Try.func52, Try.ntmps52
  go_wp2_with (go_at_call 100; refine (ticksOfAll_no _ H.out _).mono ?_; rintro e w' ⟨rfl, rfl⟩)
  go_ret2
  exact ⟨rfl, rfl⟩
set_option maxRecDepth 20000 in
set_option maxHeartbeats 1000000 in
theorem implFirstLongest_yes (n K : Nat) (h1 : 1 ≤ n) (h2 : n ≤ 12) (hK : K < 2 ^ n) (hM : (Rw.ticksAll n).getD K 0 = longest n) (hB : ∀ j, j < K → ¬ (Rw.ticksAll n).getD j 0 = longest n) (w : World) :
    Calls Try.prog 52 #[.int .i64 (n : Int)] w fun e w' => e = .returned (.tuple #[.string (Rw.str (Rw.make n K)), .bool true]) ∧ Below w.heap.size w w' := by
  have HC := Lib.hid (ticksOfAll_yes n h1 h2 w)
  have hl := Lib.hid (ticks_len n h2)
  have HI := Lib.hid (fun w2 B v o => index_any w2 B v (Rw.ticksAll n) (longest n) K hl.out (by rw [Rw.length_ticksAll]; exact hK) hM hB o)
  have HR := Lib.hid (fun w2 => implRowOfNumber_yes n K h1 (by omega) hK w2)
  have hkn : K < 4611686018427387904 := by have := p2_12 n h2; unfold p2 at this; omega
  clear hK hM hB
  go_enter Try.func52, Try.ntmps52
  go_wp2_with fail
  go_at_call 100
  refine HC.out.mono ?_
  rintro e w2 ⟨v, rfl, ho, hb⟩
  have HX := Lib.hid (max_ticks n h2 w2 _ v ho)
  have HY := Lib.hid (HI.out w2 _ v ho)
  have HB2 := Lib.hid hb
  have hz := hb.size
  clear ho hb
  go_wp2_with fail
  go_at_call 101
  refine HX.out.mono ?_
  rintro e w3 ⟨rfl, rfl⟩
  go_wp2_with fail
  go_at_call 103
  refine HY.out.mono ?_
  rintro e w3 ⟨rfl, rfl⟩
  go_wp2_with fail
  go_at_call 34
  refine (HR.out _).mono ?_
  rintro e w4 ⟨rfl, hb4⟩
  have HB4 : Hid (Below w.heap.size w w4) := HB2.out.trans (hb4.mono hz)
  clear hb4
  go_wp2
  go_ret2
  exact ⟨rfl, HB4.out⟩


end Go.Proofs.Ytacchefmblfobaa.C1
