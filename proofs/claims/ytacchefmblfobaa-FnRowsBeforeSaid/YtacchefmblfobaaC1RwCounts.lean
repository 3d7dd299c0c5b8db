
/- The model's rwCounts: how many rows have each number of ticks. -/
import Derived.Test.YtacchefmblfobaaC1Counts
namespace Go.Proofs.Ytacchefmblfobaa.C1
open Go.ChangeShapes Go.WideShapes Go.ChangeAt Go.RowKit

set_option maxRecDepth 20000 in
theorem few_any (n : Int) (w : World) :
    Calls Try.prog 96 #[.int .i64 n] w fun e w' => e = .returned (.bool (inB n 1 12)) ∧ w = w' := by
  go_enter Try.func96, Try.ntmps96
  go_wp2_with (go_at_call 89; refine (l1In_any _ _ _ _).mono ?_; rintro e w' ⟨rfl, rfl⟩)
  go_ret
  exact ⟨rfl, rfl⟩

/-- the length of a slice -/
def lenOf : Value → Nat | .slice _ n _ => n | _ => 0
theorem asInts_inc' (c : List Nat) (p : Nat) : (asInts c).set p ((c.getD p 0 : Nat) + 1 : Int) = asInts (Rw.inc c p) := by
  unfold asInts Rw.inc
  rw [List.map_set]
  congr 1
theorem asInts_snoc (out : List Nat) : asInts (out ++ [0]) = asInts out ++ [0] := by simp [asInts]
theorem own_of_append {w1 : World} {B L : Nat} {v : Value} {out : List Nat} (hL : L = out.length) (h : w1.ownsRow B 3 1 v (L + 1) ((asInts out).map (Value.int .i64) ++ [.int .i64 0])) : Own w1 B v (asInts (out ++ [0])) := by
  subst hL
  unfold Own
  rw [asInts_snoc, List.length_append, asInts_len, List.map_append]
  exact h
theorem mem_take_all {n j x : Nat} (h : x ∈ (Rw.ticksAll n).take j) : x ∈ Rw.ticksAll n := List.mem_of_mem_take h
theorem take_ticks (n j : Nat) (h : j < 2 ^ n) : (Rw.ticksAll n).take (j + 1) = (Rw.ticksAll n).take j ++ [Rw.ticksOf (Rw.make n j)] := by
  rw [List.take_succ_eq_append_getElem (by simpa using h)]
  congr 2
  have := Rw.getD_ticksAll n j h
  simpa [List.getD_eq_getElem?_getD, h] using this

set_option maxRecDepth 20000 in
set_option maxHeartbeats 4000000 in
theorem rwCounts_any (n : Nat) (h1 : 1 ≤ n) (h2 : n ≤ 12) (w : World) :
    Calls Try.prog 102 #[.int .i64 (n : Int)] w fun e w' => ∃ v out, e = .returned v ∧ Own w' w.heap.size v (asInts out) ∧ Rw.Hist out (Rw.ticksAll n) ∧ Rw.wsum 0 out = (Rw.ticksAll n).sum ∧ 1 ≤ out.length ∧ out.length ≤ 3700 ∧ Below w.heap.size w w' := by
  obtain ⟨i0, hi, hz0, hz1, hz2⟩ := info_parts Try.info_int
  have hp := p2_12 n h2
  have hw := p2_wrap n (by omega)
  obtain ⟨N, hN⟩ : ∃ N, N = p2 n := ⟨_, rfl⟩
  rw [← hN] at hp hw
  have HNP : Hid (N = 2 ^ n) := Lib.hid hN
  have HMK := Lib.hid (fun k (hk : k ≤ 4611686018427387904) w2 => rwMake_any n k (by omega) hk w2)
  have HRS := Lib.hid (fun k w2 => rwRest_any (Rw.make n k) (by simpa using h1) (by simp; omega) w2)
  obtain ⟨L0, hL0⟩ : ∃ L0, L0 = n + 1 := ⟨_, rfl⟩
  have hL1 : (n : Int) + 1 = (L0 : Int) := by omega
  have hL2 : L0 ≤ 13 := by omega
  have hL3 : 1 ≤ L0 := by omega
  clear hN hL0
  go_enter Try.func102, Try.ntmps102
  go_wp2_with (at_make; refine wpList_make_full _ rfl _ _ 29 rfl w.heap.size 3 i0 (.int .i64 0) 1 Try.underlying29 hi hz0 hz1 .i64 .i64 _ _ L0 rfl rfl (by first | exact hL1 | rfl) (by first | exact hL1 | rfl) (by rw [hz2]; omega) (by unfold maxLen; omega) (Nat.le_refl _) ?_; intro w1 hown hgrow)
  have hO : Own w1 w.heap.size (.slice (some ⟨w.heap.size, 0, none⟩) L0 L0) (asInts (List.replicate L0 0)) := by
    unfold Own asInts
    rw [List.length_map, List.length_replicate]
    rw [Nat.mul_one, show (Value.int .i64 0).cells = #[.int .i64 0] from rfl, toList_madeCells_one] at hown
    rw [List.map_replicate, List.map_replicate]; exact hown
  have hb0 := below_made hgrow
  clear hown hgrow
  go_loopw [3, 4] (fun v i wr => ∃ (j : Nat) (out : List Nat), j ≤ N ∧ i = .int .i64 (j : Int) ∧ Own wr w.heap.size v (asInts out) ∧ Rw.Hist out ((Rw.ticksAll n).take j) ∧ Rw.wsum 0 out = ((Rw.ticksAll n).take j).sum ∧ 1 ≤ out.length ∧ out.length ≤ 3700 ∧ Below w.heap.size w wr) (fun _ i _ => N - (intOf i).toNat)
  case atStart => exact ⟨0, _, Nat.zero_le _, rfl, hO, Rw.hist_zero _, Rw.wsum_zeros _ _, by simpa using hL3, by simp; omega, hb0⟩
  case round =>
    obtain ⟨j, out, hj, rfl, ho, hH, hWs, ho1, ho2, hb⟩ := hrel
    have HO := Lib.hid ho
    have HH := Lib.hid hH
    have HW := Lib.hid hWs
    have HB := Lib.hid hb
    have hwz := hb.size
    by_cases hlt : j < N
    · have HT := Lib.hid (take_ticks n j (by have := HNP.out; omega))
      have hTb : Rw.ticksOf (Rw.make n j) ≤ 3600 := by
        have h3 := Rw.ticksOf_le (Rw.make n j)
        have h4 := Rw.mw_row (Rw.make n j) (by simp; omega)
        omega
      have HR := Lib.hid (HRS.out j)
      obtain ⟨T, hTT⟩ : ∃ T, T = Rw.ticksOf (Rw.make n j) := ⟨_, rfl⟩
      rw [← hTT] at HT hTb HR
      clear ho hH hWs hb hO hb0 hTT
      go_wp2_with fail
      go_at_call 92
      refine (HMK.out j (by omega) _).mono ?_
      rintro e w' ⟨rfl, rfl⟩
      go_wp2_with fail
      go_at_call 66
      refine (HR.out _).mono ?_
      rintro e w2 ⟨rfl, hb2⟩
      have HO2 := Lib.hid (HO.out.below hb2 (Nat.le_refl _))
      have HB2 : Hid (Below w.heap.size w w2) := HB.out.trans (hb2.mono hwz)
      have hz2' := hb2.size
      clear hb2
      go_wp2
      go_loopw [3] (fun v wr2 => ∃ out2 : List Nat, Own wr2 w.heap.size v (asInts out2) ∧ Rw.Hist out2 ((Rw.ticksAll n).take j) ∧ Rw.wsum 0 out2 = ((Rw.ticksAll n).take j).sum ∧ 1 ≤ out2.length ∧ out2.length ≤ 3700 ∧ Below w.heap.size w wr2) (fun v _ => 4000 - lenOf v)
      case atStart => exact ⟨out, HO2.out, HH.out, HW.out, ho1, ho2, HB2.out⟩
      case round =>
        obtain ⟨out2, ho, hH, hWs, hq1, hq2, hb⟩ := hrel
        have HO3 := Lib.hid ho
        have hwz3 := hb.size
        obtain ⟨g2, c2, rfl, hg2, _⟩ := ho.point (by rw [asInts_len]; omega)
        rw [asInts_len] at HO3 ho ⊢
        obtain ⟨L, hL⟩ : ∃ L, L = out2.length := ⟨_, rfl⟩
        have HLL := Lib.hid hL
        rw [← hL] at HO3 ho hq1 hq2 ⊢
        by_cases hlt2 : L ≤ T
        · have HH3 := Lib.hid (Rw.hist_grow hH)
          have HW3 : Hid (Rw.wsum 0 (out2 ++ [0]) = ((Rw.ticksAll n).take j).sum) := by rw [Rw.wsum_grow]; exact hWs
          have HB3 := Lib.hid hb
          have hown3 : wr.ownsRow w.heap.size 3 1 (.slice (some ⟨g2, 0, none⟩) L c2) L ((asInts out2).map (Value.int .i64)) := by
            have h := ho; unfold Own at h; rw [asInts_len, ← hL] at h; exact h
          clear ho hH hWs hb hL
          go_wp2_with (at_builtin; refine wpList_append_own _ rfl _ _ 29 rfl w.heap.size 3 i0 (.int .i64 0) 1 8 Try.underlying29 hi hz0 hz1 hz2 rfl (by decide) _ _ _ rfl (hown3.alloc _) ⟨wr.heap.size, 0, none⟩ 1 1 [.int .i64 0] rfl rfl ?c1 ?c2 ?c3 ?c4 ?c5 ?_)
          case c1 =>
            intro q u hq
            match q, hq with
            | 0, hq => simp at hq; subst hq; simp [Addr.add]
          case c2 => intro u hu; simp at hu; subst hu; rfl
          case c3 => unfold maxLen; omega
          case c4 => omega
          case c5 => simp; omega
          intro v' w4 hown' hgrow _
          have HO4 := Lib.hid (own_of_append HLL.out hown')
          have HB4 := Lib.hid (own_grown HB3.out (Nat.le_refl _) hown3 hgrow)
          obtain ⟨g4, c4, rfl, _, _⟩ := HO4.out.point (by rw [asInts_len]; simp)
          clear hown' hgrow hown3
          go_wp2
          go_roundw
          case rel => exact ⟨out2 ++ [0], HO4.out, HH3.out, HW3.out, by simp, by have := HLL.out; simp; omega, HB4.out⟩
          case measure => simp only [lenOf, asInts_len, List.length_append, List.length_singleton]; have := HLL.out; omega
        · have hTL : T < L := by omega
          have e3 := ho.cell (by rw [asInts_len]; exact hL) T (by rw [asInts_len]; omega)
          have f3 := ho.free (by rw [asInts_len]; exact hL) T
          rw [getD_asInts] at e3
          have hcnt : out2.getD T 0 ≤ 4096 := by
            rw [hH.1 T (by omega)]
            have h5 := Rw.count_le ((Rw.ticksAll n).take j) T
            have h6 := List.length_take_le j (Rw.ticksAll n)
            omega
          have HAI := Lib.hid (asInts_inc' out2 T)
          have HH3 : Hid (Rw.Hist (Rw.inc out2 T) ((Rw.ticksAll n).take (j + 1))) := by rw [HT.out]; exact Rw.hist_inc hH T (by omega)
          have HW3 : Hid (Rw.wsum 0 (Rw.inc out2 T) = ((Rw.ticksAll n).take (j + 1)).sum) := by
            refine Lib.hid ?_
            rw [Rw.wsum_inc _ _ _ (by omega), HT.out, List.sum_append, hWs]; simp
          obtain ⟨y, hy⟩ : ∃ y, y = out2.getD T 0 := ⟨_, rfl⟩
          rw [← hy] at e3 hcnt HAI
          have HO4 : Hid (Own (wr.setCell ⟨g2, T, none⟩ (.int .i64 ((y : Int) + 1))) w.heap.size (.slice (some ⟨g2, 0, none⟩) L c2) (asInts (Rw.inc out2 T))) := by
            rw [← HAI.out]; exact ho.set (by rw [asInts_len]; exact hL) T _
          have HB4 := Lib.hid (hb.setCell (p := ⟨g2, T, none⟩) hg2 (.int .i64 ((y : Int) + 1)))
          clear ho hH hWs hb hy hL
          go_wp2
          go_roundw
          case rel => exact ⟨j + 1, _, by omega, by go_num, HO4.out, HH3.out, HW3.out, by rw [Rw.length_inc]; have := HLL.out; omega, by rw [Rw.length_inc]; have := HLL.out; omega, HB4.out⟩
          case measure => simp [intOf]; omega
    · have hjN : j = (Rw.ticksAll n).length := by rw [Rw.length_ticksAll]; have := HNP.out; omega
      have HH3 : Hid (Rw.Hist out (Rw.ticksAll n)) := by rw [hjN, List.take_length] at hH; exact hH
      have HW3 : Hid (Rw.wsum 0 out = (Rw.ticksAll n).sum) := by rw [hjN, List.take_length] at hWs; exact hWs
      clear ho hH hWs hb hO hb0 hjN
      go_wp2
      go_ret
      exact ⟨_, out, rfl, HO.out, HH3.out, HW3.out, ho1, ho2, HB.out⟩

end Go.Proofs.Ytacchefmblfobaa.C1
