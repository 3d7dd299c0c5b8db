/- Chapter 9, the model: l1Has, pzValue. -/
import Derived.Test.YtodlpdbmiicdfabPzb
namespace Go.Proofs.Ytodlpdbmiicdfab
open Go.ChangeShapes Go.WideShapes Go.ChangeAt Go.RowKit
open Pz

namespace Pz
def bitsV : Value → List Bool
  | .string s => s.data.toList.map (· == 62)
  | _ => []
theorem bits_str (l : List Bool) : bitsV (.string (Rw.str l)) = l := by
  unfold bitsV
  simp only [Rw.str, Rw.txt]
  induction l with
  | nil => rfl
  | cons b t ih => cases b <;> (simp at ih ⊢; exact ⟨by decide, ih⟩)
theorem turnsA_le (a : Nat) : ∀ (N : Nat) (l : List Bool), Rw.ticksOf l ≤ N → turnsA a l ≤ Rw.ticksOf l := by
  intro N
  induction N with
  | zero =>
    intro l h
    by_cases hp : Rw.pairs l = []
    · rw [turnsA_rest hp]; exact Nat.zero_le _
    · have := (Rx.ticks_next hp).1; omega
  | succ N ih =>
    intro l h
    by_cases hp : Rw.pairs l = []
    · rw [turnsA_rest hp]; exact Nat.zero_le _
    · have h1 := (Rx.ticks_next hp).1
      have h2 := ih (Rw.tick l) (by omega)
      rw [turnsA_next hp]
      split <;> omega
theorem turnsA_60 {l : List Bool} (a : Nat) (h : l.length ≤ 60) : turnsA a l ≤ 3600 := by
  have := turnsA_le a _ l (Nat.le_refl _)
  have := Rw.ticksOf_le l
  have := Rw.mw_row l h
  omega
/-- whether a list holds a number -/
def hasZ (zs : List Int) (x : Int) : Bool := zs.contains x
theorem has_at (ps : List Nat) (a : Nat) : hasZ (asInts ps) (a : Int) = ps.contains a := by
  unfold hasZ
  rw [Bool.eq_iff_iff]
  simp only [asInts, List.contains_iff_mem, List.mem_map]
  constructor
  · rintro ⟨x, hx, he⟩
    have : x = a := by omega
    subst this
    exact hx
  · intro h; exact ⟨a, h, rfl⟩
theorem has_before (ps : List Nat) (a : Nat) : hasZ (asInts ps) ((a : Int) - 1) = (decide (1 ≤ a) && ps.contains (a - 1)) := by
  unfold hasZ
  rw [Bool.eq_iff_iff]
  simp only [asInts, List.contains_iff_mem, List.mem_map, Bool.and_eq_true, decide_eq_true_eq]
  constructor
  · rintro ⟨x, hx, he⟩
    have : x = a - 1 := by omega
    subst this
    exact ⟨by omega, hx⟩
  · rintro ⟨h1, h2⟩
    exact ⟨a - 1, h2, by omega⟩
theorem has_no {zs : List Int} {x : Int} (h : ∀ j, j < zs.length → zs.getD j 0 ≠ x) : hasZ zs x = false := by
  unfold hasZ
  rw [Bool.eq_false_iff]
  intro hc
  rw [List.contains_iff_mem] at hc
  obtain ⟨k, hk, he⟩ := List.getElem_of_mem hc
  exact h k hk (by rw [List.getD_eq_getElem?_getD, List.getElem?_eq_getElem hk]; exact he)
theorem has_yes {zs : List Int} {x : Int} {j : Nat} (hj : j < zs.length) (h : zs.getD j 0 = x) : hasZ zs x = true := by
  unfold hasZ
  rw [List.contains_iff_mem, ← h, List.getD_eq_getElem?_getD, List.getElem?_eq_getElem hj]
  exact List.getElem_mem hj
end Pz

set_option maxHeartbeats 1000000 in
theorem l1Has_any (w : World) (a : Option Addr) (len cap : Nat) (zs : List Int) (x : Int) (hl : len ≤ 1048576) (hc : Came w a len zs) :
    Calls Try.prog 75 #[.slice a len cap, .int .i64 x] w fun e w' => e = .returned (.bool (hasZ zs x)) ∧ w = w' := by
  have HZ : Hid (zs.length = len) := Lib.hid hc.1
  have HC := Lib.hid hc
  clear hc
  go_enter Try.func75, Try.ntmps75
  go_wp2
  go_loop [9] (fun i => ∃ k : Nat, k ≤ len ∧ i = .int .i64 (k : Int) ∧ Hid (∀ j, j < k → zs.getD j 0 ≠ x)) (fun i => len - (intOf i).toNat)
  case atStart => exact ⟨0, Nat.zero_le _, rfl, Lib.hid (fun j h => absurd h (Nat.not_lt_zero _))⟩
  case round =>
    obtain ⟨k, hk, rfl, HK⟩ := hrel
    by_cases hlt : k < len
    · obtain ⟨b, off, rfl, hcell⟩ := HC.out.2 (by omega)
      have e0 := hcell k hlt
      have i1 : (0 : Int) ≤ (k : Int) := by omega
      have i2 : (k : Int) < (len : Int) := by omega
      have HYE : Hid (zs.getD k 0 = x → hasZ zs x = true) := Lib.hid (fun h => has_yes (by rw [HZ.out]; exact hlt) h)
      obtain ⟨z, hz⟩ : ∃ z, z = zs.getD k 0 := ⟨_, rfl⟩
      rw [← hz] at e0 HYE
      have HP := Lib.hid hz
      clear hcell hz
      by_cases hx : z = x
      · have HE := Lib.hid (HYE.out hx)
        clear HYE
        go_wp2
        go_ret
        exact ⟨ret_bool (by rw [HE.out]), rfl⟩
      · have HK2 : Hid (∀ j, j < k + 1 → zs.getD j 0 ≠ x) := Lib.hid (fun j hj => by
          by_cases e : j = k
          · subst e; rw [← HP.out]; exact hx
          · exact HK.out j (by omega))
        have g : (z == x) = false := by simp [hx]
        clear HYE
        go_wp2
        go_round
        case rel => exact ⟨k + 1, by omega, by go_num, HK2⟩
        case measure => simp [intOf]; omega
    · have HE := Lib.hid (has_no (fun j hj => HK.out j (by have := HZ.out; omega)))
      go_wp2
      go_ret
      exact ⟨ret_bool (by rw [HE.out]), rfl⟩

set_option maxHeartbeats 2000000 in
theorem pzValue_0 (a b : Nat) (l : List Bool) (h1 : 1 ≤ l.length) (h2 : l.length ≤ 8) (ha : a < l.length) (hb : b ≤ 20) (w : World) :
    Calls Try.prog 66 #[.int .i64 0, .int .i64 (a : Int), .int .i64 (b : Int), .string (Rw.str l)] w fun e w' => e = .returned (.int .i64 ((valueN 0 a b l : Nat) : Int)) ∧ Below w.heap.size w w' := by
  have HV : Hid (valueN 0 a b l = if (tickN b l).getD a false then 1 else 0) := Lib.hid rfl
  go_enter Try.func66, Try.ntmps66
  go_wp2
  go_loopw [2, 3] (fun t r wr => ∃ (j : Nat) (m : List Bool), j ≤ b ∧ t = .int .i64 (j : Int) ∧ r = .string (Rw.str m) ∧ m.length = l.length ∧ Hid (tickN j m = tickN b l) ∧ Hid (Below w.heap.size w wr)) (fun t _ _ => (intOf t).toNat)
  case atStart => exact ⟨b, l, Nat.le_refl _, rfl, rfl, rfl, Lib.hid rfl, Lib.hid (Below.refl _ _)⟩
  case round =>
    obtain ⟨j, m, hj, rfl, rfl, hml, HT, HB⟩ := hrel
    rcases Nat.eq_zero_or_pos j with h0 | h0
    · subst h0
      have hsz : (Rw.str m).size = m.length := Rw.size_str m
      obtain ⟨sj, hsj⟩ : ∃ sj, sj = Rw.str m := ⟨_, rfl⟩
      rw [← hsj] at hsz ⊢
      have hk : a < sj.size := by omega
      have e1 := Rx.byteR hsj a hk
      have i1 : (0 : Int) ≤ (a : Int) := by omega
      have i2 : (a : Int) < (sj.size : Int) := by omega
      have HT2 : Hid (m = tickN b l) := Lib.hid HT.out
      have HV2 : Hid (valueN 0 a b l = if m.getD a false then 1 else 0) := Lib.hid (by rw [HV.out, HT2.out])
      clear hsj HT HT2 HV
      rcases hm : m.getD a false with _ | _
      all_goals
        rw [hm] at e1 HV2
        clear hm
        go_wp2
        go_ret
        exact ⟨ret_int (by rw [HV2.out]; rfl), HB.out⟩
    · obtain ⟨i, rfl⟩ : ∃ i, j = i + 1 := ⟨j - 1, by omega⟩
      have HU := Lib.hid (fun w2 => rwTick_x m (by omega) (by omega) w2)
      have HT2 : Hid (tickN i (Rw.tick m) = tickN b l) := Lib.hid HT.out
      have HL : Hid ((Rw.tick m).length = l.length) := Lib.hid (by rw [Rx.tick_length]; exact hml)
      have i1 : (0 : Int) < ((i + 1 : Nat) : Int) := by omega
      go_wp2_with fail
      go_at_call 72
      refine (HU.out _).mono ?_
      rintro e w2 ⟨rfl, b2⟩
      have H2 : Hid (Below w.heap.size w w2) := Lib.hid (HB.out.trans (b2.mono HB.out.size))
      clear b2
      go_wp2
      go_roundw
      case rel => exact ⟨i, _, by omega, by go_num, rfl, HL.out, HT2, H2⟩
      case measure => simp [intOf]
set_option maxHeartbeats 2000000 in
theorem pzValue_1 (a b : Nat) (l : List Bool) (h1 : 1 ≤ l.length) (h2 : l.length ≤ 8) (w : World) :
    Calls Try.prog 66 #[.int .i64 1, .int .i64 (a : Int), .int .i64 (b : Int), .string (Rw.str l)] w fun e w' => e = .returned (.int .i64 ((valueN 1 a b l : Nat) : Int)) ∧ Below w.heap.size w w' := by
  have HV : Hid (valueN 1 a b l = rightTo l l.length) := Lib.hid rfl
  have hsz : (Rw.str l).size = l.length := Rw.size_str l
  obtain ⟨s, hs⟩ : ∃ s, s = Rw.str l := ⟨_, rfl⟩
  rw [← hs] at hsz ⊢
  have HS := Lib.hid hs
  clear hs
  go_enter Try.func66, Try.ntmps66
  go_wp2
  go_loop [9, 10] (fun n i => ∃ k : Nat, k ≤ s.size ∧ i = .int .i64 (k : Int) ∧ n = .int .i64 ((rightTo l k : Nat) : Int)) (fun _ i => s.size - (intOf i).toNat)
  case atStart => exact ⟨0, Nat.zero_le _, rfl, rfl⟩
  case round =>
    obtain ⟨k, hk, rfl, rfl⟩ := hrel
    by_cases hlt : k < s.size
    · have e1 := Rx.byteR HS.out k hlt
      have hle := rightTo_le l k
      have HR : Hid (rightTo l (k + 1) = if l.getD k false then rightTo l k + 1 else rightTo l k) := Lib.hid rfl
      obtain ⟨q, hq⟩ : ∃ q, q = rightTo l k := ⟨_, rfl⟩
      rw [← hq] at HR hle ⊢
      have i1 : (0 : Int) ≤ (k : Int) := by omega
      have i2 : (k : Int) < (s.size : Int) := by omega
      clear hq
      rcases hm : l.getD k false with _ | _
      · rw [hm] at e1 HR
        clear hm
        go_wp2
        go_round
        case rel => exact ⟨k + 1, by omega, by go_num, by rw [HR.out]; rfl⟩
        case measure => simp [intOf]; omega
      · rw [hm] at e1 HR
        clear hm
        have i3 : IntKind.i64.wrap ((q : Int) + 1) = (q : Int) + 1 := IntWalk.i64_in _ (by omega)
        go_wp2
        go_round
        case rel => exact ⟨k + 1, by omega, by go_num, by rw [HR.out]; go_num⟩
        case measure => simp [intOf]; omega
    · have HE : Hid (valueN 1 a b l = rightTo l k) := Lib.hid (by rw [HV.out, ← hsz, show s.size = k by omega])
      clear hsz
      go_wp2
      go_ret
      exact ⟨ret_int (by rw [HE.out]), Below.refl _ _⟩
set_option maxHeartbeats 1000000 in
theorem pzValue_2 (a b : Nat) (l : List Bool) (h1 : 1 ≤ l.length) (h2 : l.length ≤ 8) (w : World) :
    Calls Try.prog 66 #[.int .i64 2, .int .i64 (a : Int), .int .i64 (b : Int), .string (Rw.str l)] w fun e w' => e = .returned (.int .i64 ((valueN 2 a b l : Nat) : Int)) ∧ Below w.heap.size w w' := by
  have HV : Hid (valueN 2 a b l = Rw.ticksOf l) := Lib.hid rfl
  have HR := Lib.hid (fun w2 => rwRest_x l h1 (by omega) w2)
  go_enter Try.func66, Try.ntmps66
  go_wp2_with fail
  go_at_call 73
  refine (HR.out _).mono ?_
  rintro e w2 ⟨rfl, b2⟩
  have H2 := Lib.hid b2
  clear b2
  go_wp2
  go_ret
  exact ⟨ret_int (by rw [HV.out]), H2.out⟩
set_option maxHeartbeats 1000000 in
theorem pzValue_3 (a b : Nat) (l : List Bool) (h1 : 1 ≤ l.length) (h2 : l.length ≤ 8) (w : World) :
    Calls Try.prog 66 #[.int .i64 3, .int .i64 (a : Int), .int .i64 (b : Int), .string (Rw.str l)] w fun e w' => e = .returned (.int .i64 ((valueN 3 a b l : Nat) : Int)) ∧ Below w.heap.size w w' := by
  have HV : Hid (valueN 3 a b l = (asInts (Rw.pairs l)).length) := Lib.hid (by rw [asInts_len]; rfl)
  have HR := Lib.hid (fun w2 => rwPairs_x l h1 (by omega) w2)
  go_enter Try.func66, Try.ntmps66
  go_wp2_with fail
  go_at_call 74
  refine (HR.out _).mono ?_
  rintro e w2 ⟨v, rfl, o2, b2⟩
  obtain ⟨ao, cp, rfl⟩ := o2.any
  have H2 := Lib.hid b2
  rw [← HV.out]
  clear b2 o2
  go_wp2
  go_ret
  exact ⟨rfl, H2.out⟩
set_option maxHeartbeats 4000000 in
theorem pzValue_4 (a b : Nat) (l : List Bool) (h1 : 1 ≤ l.length) (h2 : l.length ≤ 8) (ha : a < l.length) (w : World) :
    Calls Try.prog 66 #[.int .i64 4, .int .i64 (a : Int), .int .i64 (b : Int), .string (Rw.str l)] w fun e w' => e = .returned (.int .i64 ((valueN 4 a b l : Nat) : Int)) ∧ Below w.heap.size w w' := by
  have HV : Hid (valueN 4 a b l = turnsA a l) := Lib.hid rfl
  have hT := turnsA_60 (l := l) a (by omega)
  have HR := Lib.hid (fun m (hm1 : 1 ≤ m.length) (hm2 : m.length ≤ 60) w2 => rwPairs_x m hm1 hm2 w2)
  go_enter Try.func66, Try.ntmps66
  go_wp2_with fail
  go_at_call 74
  refine (HR.out l h1 (by omega) _).mono ?_
  rintro e w1 ⟨v1, rfl, o1, b1⟩
  have O1 := Lib.hid o1
  have H1 := Lib.hid b1
  clear o1 b1
  obtain ⟨T, hTT⟩ : ∃ T, T = turnsA a l := ⟨_, rfl⟩
  have HTT := Lib.hid hTT
  rw [← hTT] at hT
  clear hTT
  go_wp2
  go_loopw [3, 9, 11] (fun r n p wr => ∃ (q : Nat) (m : List Bool), r = .string (Rw.str m) ∧ n = .int .i64 (q : Int) ∧ m.length = l.length ∧ Hid (turnsA a m + q = T) ∧ Hid (Own wr w.heap.size p (asInts (Rw.pairs m))) ∧ Hid (Below w.heap.size w wr)) (fun r _ _ _ => Rw.mw 0 (bitsV r))
  case atStart => exact ⟨0, l, rfl, rfl, rfl, Lib.hid (by rw [HTT.out]; rfl), O1, H1⟩
  case round =>
    obtain ⟨q, m, rfl, rfl, hml, HT, HO, HB⟩ := hrel
    obtain ⟨ao, cp, rfl, hcm⟩ := HO.out.came
    have HCM := Lib.hid hcm
    clear hcm
    by_cases hp : Rw.pairs m = []
    · have HL0 : Hid ((asInts (Rw.pairs m)).length = 0) := Lib.hid (by rw [hp]; rfl)
      have HQ : Hid (q = T) := Lib.hid (by have := HT.out; rw [turnsA_rest hp] at this; omega)
      rw [HL0.out]
      clear hp
      go_wp2
      go_ret
      exact ⟨ret_int (by rw [HV.out, ← HTT.out, HQ.out]), HB.out⟩
    · have HN : Hid (turnsA a (Rw.tick m) + (if inPair m a then 1 else 0) + q = T) := Lib.hid (by have := HT.out; rw [turnsA_next hp] at this; exact this)
      have hmt := Rw.tick_lt m hp
      have HMT : Hid (Rw.mw 0 (bitsV (.string (Rw.str (Rw.tick m)))) < Rw.mw 0 (bitsV (.string (Rw.str m)))) := Lib.hid (by rw [bits_str, bits_str]; exact hmt)
      have hq6 : q ≤ 3600 := by have := HN.out; omega
      have hL0 : 0 < (asInts (Rw.pairs m)).length := by rw [asInts_len]; exact List.length_pos_iff.2 hp
      have hL6 : (asInts (Rw.pairs m)).length ≤ 60 := by rw [asInts_len]; have := Rx.pairs_le m; omega
      have HU := Lib.hid (fun w2 => rwTick_x m (by omega) (by omega) w2)
      have HLN : Hid ((Rw.tick m).length = l.length) := Lib.hid (by rw [Rx.tick_length]; exact hml)
      have HP2 := Lib.hid (fun w2 => HR.out (Rw.tick m) (by have := HLN.out; omega) (by have := HLN.out; omega) w2)
      have HH1 : Hid (hasZ (asInts (Rw.pairs m)) (a : Int) = (Rw.pairs m).contains a) := Lib.hid (has_at _ _)
      have HH2 : Hid (hasZ (asInts (Rw.pairs m)) ((a : Int) - 1) = (decide (1 ≤ a) && (Rw.pairs m).contains (a - 1))) := Lib.hid (has_before _ _)
      have HIP : Hid (inPair m a = (hasZ (asInts (Rw.pairs m)) (a : Int) || hasZ (asInts (Rw.pairs m)) ((a : Int) - 1))) := Lib.hid (by rw [HH1.out, HH2.out]; rfl)
      obtain ⟨zs, hzs⟩ : ∃ zs, zs = asInts (Rw.pairs m) := ⟨_, rfl⟩
      rw [← hzs] at HIP HCM hL0 hL6 ⊢
      obtain ⟨n, hn⟩ : ∃ n, n = zs.length := ⟨_, rfl⟩
      rw [← hn] at HCM hL0 hL6 ⊢
      have HA := Lib.hid (fun x => l1Has_any wr ao n cp zs x (by omega) HCM.out)
      have i0 : (0 : Int) < (n : Int) := by omega
      have i3 : IntKind.i64.wrap ((q : Int) + 1) = (q : Int) + 1 := IntWalk.i64_in _ (by omega)
      have i4 : IntKind.i64.wrap ((a : Int) - 1) = (a : Int) - 1 := IntWalk.i64_in _ (by omega)
      have HA1 := Lib.hid (HA.out (a : Int))
      have HA2 := Lib.hid (HA.out ((a : Int) - 1))
      clear hp hmt hzs hn HT HH1 HH2 HA
      rcases hc1 : hasZ zs (a : Int) with _ | _
      · rcases hc2 : hasZ zs ((a : Int) - 1) with _ | _
        · have HN2 : Hid (turnsA a (Rw.tick m) + q = T) := Lib.hid (by have := HN.out; rw [HIP.out, hc1, hc2] at this; simpa using this)
          rw [hc1] at HA1
          rw [hc2] at HA2
          clear hc1 hc2 HN HIP
          go_wp2_with fail
          go_at_call 75
          refine HA1.out.mono ?_
          rintro e w' ⟨rfl, rfl⟩
          go_wp2_with fail
          go_at_call 75
          refine HA2.out.mono ?_
          rintro e w' ⟨rfl, rfl⟩
          go_wp2_with fail
          go_at_call 72
          refine (HU.out _).mono ?_
          rintro e w2 ⟨rfl, b2⟩
          have B2 : Hid (Below w.heap.size w w2) := Lib.hid (HB.out.trans (b2.mono HB.out.size))
          clear b2
          go_wp2_with fail
          go_at_call 74
          refine (HP2.out _).mono ?_
          rintro e w3 ⟨v3, rfl, o3, b3⟩
          have O3 := Lib.hid (o3.mono B2.out.size)
          have B3 : Hid (Below w.heap.size w w3) := Lib.hid (B2.out.trans (b3.mono B2.out.size))
          clear b3 o3
          go_wp2
          go_roundw
          case rel => exact ⟨q, _, rfl, rfl, HLN.out, HN2, O3, B3⟩
          case measure => exact HMT.out
        · have HN2 : Hid (turnsA a (Rw.tick m) + (q + 1) = T) := Lib.hid (by have := HN.out; rw [HIP.out, hc1, hc2] at this; simp at this; omega)
          rw [hc1] at HA1
          rw [hc2] at HA2
          clear hc1 hc2 HN HIP
          go_wp2_with fail
          go_at_call 75
          refine HA1.out.mono ?_
          rintro e w' ⟨rfl, rfl⟩
          go_wp2_with fail
          go_at_call 75
          refine HA2.out.mono ?_
          rintro e w' ⟨rfl, rfl⟩
          go_wp2_with fail
          go_at_call 72
          refine (HU.out _).mono ?_
          rintro e w2 ⟨rfl, b2⟩
          have B2 : Hid (Below w.heap.size w w2) := Lib.hid (HB.out.trans (b2.mono HB.out.size))
          clear b2
          go_wp2_with fail
          go_at_call 74
          refine (HP2.out _).mono ?_
          rintro e w3 ⟨v3, rfl, o3, b3⟩
          have O3 := Lib.hid (o3.mono B2.out.size)
          have B3 : Hid (Below w.heap.size w w3) := Lib.hid (B2.out.trans (b3.mono B2.out.size))
          clear b3 o3
          go_wp2
          go_roundw
          case rel => exact ⟨q + 1, _, rfl, by go_num, HLN.out, HN2, O3, B3⟩
          case measure => exact HMT.out
      · have HN2 : Hid (turnsA a (Rw.tick m) + (q + 1) = T) := Lib.hid (by have := HN.out; rw [HIP.out, hc1] at this; simp at this; omega)
        rw [hc1] at HA1
        clear hc1 HN HIP HA2
        go_wp2_with fail
        go_at_call 75
        refine HA1.out.mono ?_
        rintro e w' ⟨rfl, rfl⟩
        go_wp2_with fail
        go_at_call 72
        refine (HU.out _).mono ?_
        rintro e w2 ⟨rfl, b2⟩
        have B2 : Hid (Below w.heap.size w w2) := Lib.hid (HB.out.trans (b2.mono HB.out.size))
        clear b2
        go_wp2_with fail
        go_at_call 74
        refine (HP2.out _).mono ?_
        rintro e w3 ⟨v3, rfl, o3, b3⟩
        have O3 := Lib.hid (o3.mono B2.out.size)
        have B3 : Hid (Below w.heap.size w w3) := Lib.hid (B2.out.trans (b3.mono B2.out.size))
        clear b3 o3
        go_wp2
        go_roundw
        case rel => exact ⟨q + 1, _, rfl, by go_num, HLN.out, HN2, O3, B3⟩
        case measure => exact HMT.out
theorem valueN_le {n k a b : Nat} {l : List Bool} (hl : l.length = n) (h8 : n ≤ 8) : valueN k a b l ≤ 3600 := by
  unfold valueN
  split
  · split <;> omega
  · split
    · have := rightTo_le l l.length; omega
    · split
      · have := Rw.ticksOf_le l; have := Rw.mw_row l (by omega); omega
      · split
        · have := Rx.pairs_le l; omega
        · exact turnsA_60 a (by omega)
theorem pzValue_any (k a b : Nat) (l : List Bool) (h1 : 1 ≤ l.length) (h2 : l.length ≤ 8) (h4 : k ≤ 4) (ha : a < l.length) (hb : b ≤ 20) (w : World) :
    Calls Try.prog 66 #[.int .i64 (k : Int), .int .i64 (a : Int), .int .i64 (b : Int), .string (Rw.str l)] w fun e w' => e = .returned (.int .i64 ((valueN k a b l : Nat) : Int)) ∧ Below w.heap.size w w' := by
  rcases (show k = 0 ∨ k = 1 ∨ k = 2 ∨ k = 3 ∨ k = 4 by omega) with h | h | h | h | h <;> subst h
  · exact pzValue_0 a b l h1 h2 ha hb w
  · exact pzValue_1 a b l h1 h2 w
  · exact pzValue_2 a b l h1 h2 w
  · exact pzValue_3 a b l h1 h2 w
  · exact pzValue_4 a b l h1 h2 ha w

end Go.Proofs.Ytodlpdbmiicdfab
