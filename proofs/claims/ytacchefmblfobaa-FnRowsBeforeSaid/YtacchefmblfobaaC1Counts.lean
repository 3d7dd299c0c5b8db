
/- ticksOfAll, rwCounts, slices.Max, slices.Index: the ticks of all rows. -/
import Derived.Test.YtacchefmblfobaaHist
import Derived.Test.YtacchefmblfobaaC1Make
import Derived.Test.YtacchefmblfobaaC1Settle
import Derived.Test.YtacchefmblfobaaC1Slices
import Derived.Test.YtacchefmblfobaaC1Rested
import Derived.Test.YtacchefmblfobaaC1Spec
namespace Go.Proofs.Ytacchefmblfobaa.C1
open Go.ChangeShapes Go.WideShapes Go.ChangeAt Go.RowKit

theorem p2_12 (n : Nat) (h : n ≤ 12) : p2 n ≤ 4096 := by
  have h1 : 2 ^ n ≤ 2 ^ 12 := Nat.pow_le_pow_right (by omega) h
  have h3 : (2 : Nat) ^ 12 = 4096 := by decide
  unfold p2; omega
theorem own_write {w : World} {B g n : Nat} {zs : List Int} (h : Own w B (.slice (some ⟨g, 0, none⟩) n n) zs) : B ≤ g := (World.ownsRow.lt h g rfl).1

set_option maxRecDepth 20000 in
set_option maxHeartbeats 2000000 in
theorem ticksOfAll_yes (n : Nat) (h1 : 1 ≤ n) (h2 : n ≤ 12) (w : World) :
    Calls Try.prog 100 #[.int .i64 (n : Int)] w fun e w' => ∃ v, e = .returned (.tuple #[v, .bool true]) ∧ Own w' w.heap.size v (asInts (Rw.ticksAll n)) ∧ Below w.heap.size w w' := by
  obtain ⟨i0, hi, hz0, hz1, hz2⟩ := info_parts Try.info_int
  have hp := p2_12 n h2
  have hp1 := p2_pos n
  have b1 : decide ((n : Int) < 1) = false := by simp; omega
  have b2 : decide ((12 : Int) < n) = false := by simp; omega
  have HCR := Lib.hid (countRows_any n (by omega) w)
  obtain ⟨N, hN⟩ : ∃ N, N = p2 n := ⟨_, rfl⟩
  rw [← hN] at hp hp1 HCR
  have HZL : Hid (N = (asInts (Rw.ticksAll n)).length) := Lib.hid (by rw [asInts_len, Rw.length_ticksAll]; exact hN)
  have HNP : Hid (N = 2 ^ n) := Lib.hid hN
  have HOF := Lib.hid (fun k (hk : k ≤ 4611686018427387904) w2 => troopOf_any n k h1 (by omega) hk w2)
  have HST := Lib.hid (fun k g w2 (hT : Trp w2 g (Rw.make n k) (List.replicate n 0)) => settle_any g (Rw.make n k) _ (by simpa using h1) (by simp; omega) (by simp) w2 hT)
  simp only [Rw.length_make] at HST
  clear hN
  go_enter Try.func100, Try.ntmps100
  go_wp2_with (first | (go_at_call 82; refine HCR.out.mono ?_; rintro e w' ⟨rfl, rfl⟩) | (at_make; refine wpList_make_full _ rfl _ _ 29 rfl w.heap.size 3 i0 (.int .i64 0) 1 Try.underlying29 hi hz0 hz1 .i64 .i64 _ _ N rfl rfl rfl rfl (by rw [hz2]; omega) (by unfold maxLen; omega) (Nat.le_refl _) ?_; intro w1 hown hgrow))
  have hO := made_own HZL.out hown
  have hb0 := below_made hgrow
  have hgs : w.heap.size < w1.heap.size := (World.ownsRow.lt hO _ rfl).2
  clear hown hgrow
  go_loopw [17] (fun i wr => ∃ k : Nat, k ≤ N ∧ i = .int .i64 (k : Int) ∧ Own wr w.heap.size (.slice (some ⟨w.heap.size, 0, none⟩) N N) (copyTo (asInts (Rw.ticksAll n)) k) ∧ w.heap.size < wr.heap.size ∧ Below w.heap.size w wr) (fun i _ => N - (intOf i).toNat)
  case atStart => exact ⟨0, Nat.zero_le _, rfl, hO, hgs, hb0⟩
  case round =>
    obtain ⟨k, hk, rfl, ho, hwz, hb⟩ := hrel
    by_cases hlt : k < N
    · have HO := Lib.hid ho
      have HB := Lib.hid hb
      clear ho hb hO hb0
      go_wp2_with fail
      go_at_call 83
      refine (HOF.out k (by omega) _).mono ?_
      rintro e w2 ⟨rfl, hT, hb2⟩
      have HT := Lib.hid hT
      have HO2 := Lib.hid (HO.out.below hb2 (Nat.le_refl _))
      have HB2 : Hid (Below w.heap.size w w2) := HB.out.trans (hb2.mono (by omega))
      have hz2' := hb2.size
      clear hT hb2
      go_wp2_with fail
      go_at_call 64
      refine (HST.out k _ w2 HT.out).mono ?_
      rintro e w3 ⟨rfl, _, hG3⟩
      have ho3 := HO2.out.grown hG3 (fun j hj => .inr (fun e => by cases hj; simp [Value.ownBlock] at e; omega))
      have HB3 : Hid (Below w.heap.size w w3) := grownBy_below HB2.out hG3 (Nat.le_refl _) (by omega)
      have hz3 := hG3.size
      have hcl := length_copyTo (asInts (Rw.ticksAll n)) k (by have := HZL.out; omega)
      have e3 := ho3.cell (by have := HZL.out; omega) k (by have := HZL.out; omega)
      have f3 := ho3.free (by have := HZL.out; omega) k
      have HS := Lib.hid (copyTo_succ (asInts (Rw.ticksAll n)) k (by have := HZL.out; omega) ((Rw.ticksOf (Rw.make n k) : Nat) : Int) (by rw [getD_asInts, Rw.getD_ticksAll n k (by have := HNP.out; omega)]))
      obtain ⟨y, hy⟩ : ∃ y, y = (copyTo (asInts (Rw.ticksAll n)) k).getD k 0 := ⟨_, rfl⟩
      rw [← hy] at e3
      obtain ⟨T, hT⟩ : ∃ T, T = Rw.ticksOf (Rw.make n k) := ⟨_, rfl⟩
      rw [← hT] at HS ⊢
      have HOS : Hid (Own (w3.setCell ⟨w.heap.size, k, none⟩ (.int .i64 (T : Int))) w.heap.size (.slice (some ⟨w.heap.size, 0, none⟩) N N) (copyTo (asInts (Rw.ticksAll n)) (k + 1))) := by
        rw [← HS.out]; exact ho3.set (by have := HZL.out; omega) k _
      have HBS := Lib.hid (HB3.out.setCell (p := ⟨w.heap.size, k, none⟩) (Nat.le_refl _) (.int .i64 (T : Int)))
      clear hy hT hG3 ho3 hcl
      go_wp2
      go_roundw
      case rel => exact ⟨k + 1, by omega, by go_num, HOS.out, by simp; omega, HBS.out⟩
      case measure => simp [intOf]; omega
    · have hkn : k = (asInts (Rw.ticksAll n)).length := by have := HZL.out; omega
      rw [hkn, copyTo_all] at ho
      have HO := Lib.hid ho
      have HB := Lib.hid hb
      clear hkn ho hb hO hb0
      go_wp2
      go_ret2
      exact ⟨_, rfl, HO.out, HB.out⟩

set_option maxRecDepth 20000 in
theorem ticksOfAll_no (n : Int) (h : ¬ (1 ≤ n ∧ n ≤ 12)) (w : World) :
    Calls Try.prog 100 #[.int .i64 n] w fun e w' => e = .returned (.tuple #[.slice none 0 0, .bool false]) ∧ w = w' := by
  by_cases h1 : n < 1
  · have b1 : decide (n < 1) = true := by simp; omega
    clear h
    go_enter Try.func100, Try.ntmps100
    go_wp2
    go_ret2
    exact ⟨rfl, rfl⟩
  · have b1 : decide (n < 1) = false := by simp; omega
    have b2 : decide (12 < n) = true := by simp; omega
    clear h
    go_enter Try.func100, Try.ntmps100
    go_wp2
    go_ret2
    exact ⟨rfl, rfl⟩

set_option maxRecDepth 20000 in
set_option maxHeartbeats 1000000 in
theorem max_any (w : World) (B : Nat) (v : Value) (xs : List Nat) (hn : 0 < xs.length) (hl : xs.length ≤ 4611686018427387904) (o1 : Own w B v (asInts xs)) :
    Calls Try.prog 101 #[v] w fun e w' => e = .returned (.int .i64 (Rw.maxTo xs (xs.length - 1) : Nat)) ∧ w = w' := by
  obtain ⟨g1, c1, rfl, _, l1⟩ := o1.point (by rw [asInts_len]; exact hn)
  obtain ⟨n, hnn⟩ : ∃ n, n = xs.length := ⟨_, rfl⟩
  rw [asInts_len] at o1 ⊢
  rw [← hnn] at o1 hn hl ⊢
  have HN : Hid (n = (asInts xs).length) := Lib.hid (by rw [asInts_len]; exact hnn)
  have HO := Lib.hid o1
  have e0 := o1.cell HN.out 0 (by have := HN.out; omega)
  rw [getD_asInts] at e0
  have HM0 : Hid (Rw.maxTo xs 0 = xs.getD 0 0) := rfl
  obtain ⟨x0, hx0⟩ : ∃ x, x = xs.getD 0 0 := ⟨_, rfl⟩
  rw [← hx0] at e0 HM0
  clear o1 hnn hx0
  go_enter Try.func101, Try.ntmps101
  go_wp2
  go_loop [3, 4] (fun m i => ∃ j : Nat, j + 1 ≤ n ∧ i = .int .i64 ((j : Int) + 1) ∧ m = .int .i64 (Rw.maxTo xs j : Nat)) (fun _ i => n - (intOf i).toNat)
  case atStart => exact ⟨0, by omega, rfl, by rw [HM0.out]⟩
  case round =>
    obtain ⟨j, hj, rfl, rfl⟩ := hrel
    by_cases hlt : j + 1 < n
    · have e1 := HO.out.cell HN.out (j + 1) (by have := HN.out; omega)
      rw [getD_asInts] at e1
      have HS : Hid (Rw.maxTo xs (j + 1) = max (Rw.maxTo xs j) (xs.getD (j + 1) 0)) := rfl
      obtain ⟨M, hM⟩ : ∃ M, M = Rw.maxTo xs j := ⟨_, rfl⟩
      obtain ⟨x, hx⟩ : ∃ x, x = xs.getD (j + 1) 0 := ⟨_, rfl⟩
      rw [← hM, ← hx] at HS
      rw [← hM]
      rw [← hx] at e1
      clear hM hx
      go_wp2
      go_roundw
      case rel => exact ⟨j + 1, by omega, by go_num, int_eq (by rw [HS.out]; omega)⟩
      case measure => simp [intOf]; omega
    · have HE : Hid (Rw.maxTo xs j = Rw.maxTo xs (n - 1)) := by rw [show j = n - 1 from by omega]; exact rfl
      go_wp2
      go_ret
      exact ⟨ret_int (by rw [HE.out]), rfl⟩

def notBefore (xs : List Nat) (M j : Nat) : Prop := ∀ i, i < j → ¬ xs.getD i 0 = M
set_option maxRecDepth 20000 in
set_option maxHeartbeats 1000000 in
theorem index_any (w : World) (B : Nat) (v : Value) (xs : List Nat) (M K : Nat) (hl : xs.length ≤ 4611686018427387904) (hK : K < xs.length) (hM : xs.getD K 0 = M) (hb : ∀ j, j < K → ¬ xs.getD j 0 = M) (o1 : Own w B v (asInts xs)) :
    Calls Try.prog 103 #[v, .int .i64 (M : Int)] w fun e w' => e = .returned (.int .i64 (K : Int)) ∧ w = w' := by
  obtain ⟨g1, c1, rfl, _, l1⟩ := o1.point (by rw [asInts_len]; omega)
  obtain ⟨n, hnn⟩ : ∃ n, n = xs.length := ⟨_, rfl⟩
  rw [asInts_len] at o1 ⊢
  rw [← hnn] at o1 hl hK ⊢
  have HN : Hid (n = (asInts xs).length) := Lib.hid (by rw [asInts_len]; exact hnn)
  have HO := Lib.hid o1
  have HM := Lib.hid hM
  have HB := Lib.hid hb
  clear o1 hnn hM hb
  go_enter Try.func103, Try.ntmps103
  go_wp2
  go_loop [8] (fun i => ∃ j : Nat, j ≤ K ∧ i = .int .i64 (j : Int)) (fun i => n - (intOf i).toNat)
  case atStart => exact ⟨0, Nat.zero_le _, rfl⟩
  case round =>
    obtain ⟨j, hj, rfl⟩ := hrel
    have e1 := HO.out.cell HN.out j (by have := HN.out; omega)
    rw [getD_asInts] at e1
    have hjn : j < n := by omega
    by_cases hlt : j < K
    · have hne := HB.out j hlt
      obtain ⟨x, hx⟩ : ∃ x, x = xs.getD j 0 := ⟨_, rfl⟩
      rw [← hx] at e1 hne
      have t1 : ((M : Int) == (x : Int)) = false := by rw [beq_eq_false_iff_ne]; omega
      clear hx hne
      go_wp2
      go_round
      case rel => exact ⟨j + 1, by omega, by go_num⟩
      case measure => simp [intOf]; omega
    · have hjK : j = K := by omega
      subst hjK
      rw [HM.out] at e1
      go_wp2
      go_ret
      exact ⟨rfl, rfl⟩

end Go.Proofs.Ytacchefmblfobaa.C1
