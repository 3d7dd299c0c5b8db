/- Chapter 8: the model's siStarts, siSpread, SpreadTimes, TimeAllKnow, siLeast, LeastTimeWith, WaitsFor. -/
import Derived.Test.YtmlamcimncfmcabSia
namespace Go.Proofs.Ytmlamcimncfmcab
open Go.ChangeShapes Go.WideShapes Go.ChangeAt Go.RowKit
open Si

namespace Si
def allTo (p : Nat → Bool) : Nat → Bool
  | 0 => true
  | k + 1 => allTo p k && p k
theorem allTo_no {p : Nat → Bool} {k : Nat} (h : p k = false) : ∀ n, k < n → allTo p n = false
  | 0, hn => absurd hn (Nat.not_lt_zero _)
  | n + 1, hn => by
    rw [allTo]
    by_cases e : k = n
    · subst e; rw [h, Bool.and_false]
    · rw [allTo_no h n (by omega), Bool.false_and]
theorem allTo_yes {p : Nat → Bool} : ∀ n, (∀ k, k < n → p k = true) → allTo p n = true
  | 0, _ => rfl
  | n + 1, h => by rw [allTo, allTo_yes n (fun k hk => h k (by omega)), h n (by omega)]; rfl
theorem allTo_each {p : Nat → Bool} : ∀ {n}, allTo p n = true → ∀ k, k < n → p k = true
  | 0, _, _, hk => absurd hk (Nat.not_lt_zero _)
  | n + 1, h, k, hk => by
    rw [allTo, Bool.and_eq_true] at h
    by_cases e : k = n
    · subst e; exact h.2
    · exact allTo_each h.1 k (by omega)
def risP (zs : List Int) (lo hi : Int) (i : Nat) : Bool := inB (zs.getD i 0) lo hi && (decide (i = 0) || decide (zs.getD (i - 1) 0 < zs.getD i 0))
def risB (zs : List Int) (lo hi : Int) : Bool := allTo (risP zs lo hi) zs.length
def startB (n : Int) (zs : List Int) : Bool := inB n 1 100 && (decide (0 < zs.length) && risB zs 0 (n - 1))
theorem start_nat {n : Int} {zs : List Int} (h : startB n zs = true) : ∃ (N : Nat) (qs : List Nat), n = N ∧ zs = asInts qs ∧ 1 ≤ N ∧ N ≤ 100 ∧ ∀ k, k < qs.length → qs.getD k 0 < N := by
  unfold startB at h
  rw [Bool.and_eq_true, Bool.and_eq_true] at h
  have h1 := inB_yes h.1
  have h2 := allTo_each h.2.2
  have h3 : ∀ k, k < zs.length → 0 ≤ zs.getD k 0 ∧ zs.getD k 0 ≤ n - 1 := fun k hk => by
    have := h2 k hk
    unfold risP at this
    rw [Bool.and_eq_true] at this
    exact inB_yes this.1
  refine ⟨n.toNat, zs.map Int.toNat, by omega, ?_, by omega, by omega, fun k hk => ?_⟩
  · refine ext_getD 0 (by rw [asInts_len, List.length_map]) fun i hi => ?_
    rw [getD_asInts]
    have h4 := h3 i hi
    have h5 : (zs.map Int.toNat).getD i 0 = (zs.getD i 0).toNat := by simp [List.getD_eq_getElem?_getD, hi]
    rw [h5]
    omega
  · rw [List.length_map] at hk
    have h4 := h3 k hk
    have h5 : (zs.map Int.toNat).getD k 0 = (zs.getD k 0).toNat := by simp [List.getD_eq_getElem?_getD, hk]
    rw [h5]
    omega
/-- how far it is to the nearest of the first k -/
def nearTo (N : Nat) (qs : List Nat) (x : Nat) : Nat → Nat
  | 0 => N
  | k + 1 => min (nearTo N qs x k) ((x - qs.getD k 0) + (qs.getD k 0 - x))
theorem nearTo_le (N : Nat) (qs : List Nat) (x : Nat) : ∀ k, nearTo N qs x k ≤ N
  | 0 => Nat.le_refl _
  | k + 1 => by have := nearTo_le N qs x k; unfold nearTo; omega
def nearN (N : Nat) (qs : List Nat) (x : Nat) : Nat := nearTo N qs x qs.length
theorem nearN_le (N : Nat) (qs : List Nat) (x : Nat) : nearN N qs x ≤ N := nearTo_le _ _ _ _
def spreadTo (N : Nat) (qs : List Nat) (k : Nat) : List Int := upTo (fun x => (nearN N qs x : Nat)) k
def farTo (N : Nat) (qs : List Nat) : Nat → Nat
  | 0 => 0
  | k + 1 => max (farTo N qs k) (nearN N qs k)
theorem farTo_le (N : Nat) (qs : List Nat) : ∀ k, farTo N qs k ≤ N
  | 0 => Nat.zero_le _
  | k + 1 => by have := farTo_le N qs k; have := nearN_le N qs k; unfold farTo; omega
theorem near_far (N : Nat) (qs : List Nat) {x : Nat} : ∀ k, x < k → nearN N qs x ≤ farTo N qs k
  | 0, h => absurd h (Nat.not_lt_zero _)
  | k + 1, h => by
    unfold farTo
    by_cases e : x = k
    · subst e; omega
    · have := near_far N qs k (by omega : x < k); omega
theorem length_spreadTo (N : Nat) (qs : List Nat) (k : Nat) : (spreadTo N qs k).length = k := length_upTo _ _
/-- the least time with so many starts -/
def leastT (n many : Nat) : Nat := ((n + many - 1) / many) / 2
theorem leastT_more {n many t : Nat} (hm : 1 ≤ many) (h : many * (2 * t + 1) < n) : t + 1 ≤ leastT n many := by
  unfold leastT
  rw [Nat.le_div_iff_mul_le (by omega), Nat.le_div_iff_mul_le (by omega)]
  have : (t + 1) * 2 * many = many * (2 * t + 1) + many := by
    rw [show (t + 1) * 2 = (2 * t + 1) + 1 by omega, Nat.add_mul, Nat.one_mul, Nat.mul_comm many]
  omega
theorem leastT_done {n many t : Nat} (hm : 1 ≤ many) (h : ¬ many * (2 * t + 1) < n) : leastT n many ≤ t := by
  apply Nat.le_of_not_lt
  intro h2
  apply h
  have h3 : t + 1 ≤ leastT n many := h2
  unfold leastT at h3
  rw [Nat.le_div_iff_mul_le (by omega), Nat.le_div_iff_mul_le (by omega)] at h3
  have : (t + 1) * 2 * many = many * (2 * t + 1) + many := by
    rw [show (t + 1) * 2 = (2 * t + 1) + 1 by omega, Nat.add_mul, Nat.one_mul, Nat.mul_comm many]
  omega
theorem leastT_le {n many : Nat} : leastT n many ≤ n + many := by
  unfold leastT
  have h1 : (n + many - 1) / many / 2 ≤ (n + many - 1) / many := Nat.div_le_self _ _
  have h2 : (n + many - 1) / many ≤ n + many - 1 := Nat.div_le_self _ _
  omega
def waitsTo (N f k : Nat) : List Int := upTo (fun x => ((farTo N [f] N : Nat) : Int) - (nearN N [f] x : Nat)) k
end Si
def outSpreadTimes_0 (n : Int) (zs : List Int) : List Int := if startB n zs then spreadTo n.toNat (zs.map Int.toNat) n.toNat else []
def outSpreadTimes_1 (n : Int) (zs : List Int) : Bool := startB n zs
theorem start_le {n : Int} {zs : List Int} (h : startB n zs = true) : 1 ≤ n ∧ n ≤ 100 := by
  unfold startB at h; rw [Bool.and_eq_true] at h; exact inB_yes h.1
theorem lenSpreadTimes_0 (n : Int) (zs : List Int) (_hz : zs.length ≤ 1048576) : (outSpreadTimes_0 n zs).length ≤ 4611686018427387904 := by
  unfold outSpreadTimes_0
  split
  · rename_i h
    have := start_le h
    rw [length_spreadTo]
    omega
  · simp
def outTimeAllKnow_0 (n : Int) (zs : List Int) : Int := if startB n zs then (farTo n.toNat (zs.map Int.toNat) n.toNat : Nat) else 0
def outTimeAllKnow_1 (n : Int) (zs : List Int) : Bool := startB n zs
def outLeastTimeWith_0 (n k : Int) : Int := if inB n 1 100 && inB k 1 n then (leastT n.toNat k.toNat : Nat) else 0
def outLeastTimeWith_1 (n k : Int) : Bool := inB n 1 100 && inB k 1 n
def outWaitsFor_0 (n f : Int) : List Int := if inB n 1 100 && inB f 0 (n - 1) then waitsTo n.toNat f.toNat n.toNat else []
def outWaitsFor_1 (n f : Int) : Bool := inB n 1 100 && inB f 0 (n - 1)
theorem lenWaitsFor_0 (n f : Int) : (outWaitsFor_0 n f).length ≤ 4611686018427387904 := by
  unfold outWaitsFor_0
  split
  · rename_i h
    rw [Bool.and_eq_true] at h
    have := inB_yes h.1
    unfold waitsTo
    rw [length_upTo]
    omega
  · simp
theorem si_toNat (qs : List Nat) : (asInts qs).map Int.toNat = qs := by
  unfold asInts
  rw [List.map_map]
  refine (List.map_congr_left (fun p _ => ?_)).trans (List.map_id _)
  simp

set_option maxHeartbeats 400000 in
theorem l1Abs_k (x : Int) (h1 : -1000000000 ≤ x) (h2 : x ≤ 1000000000) (w : World) :
    Calls Try.prog 33 #[.int .i64 x] w fun e w' => e = .returned (.int .i64 (max x (-x))) ∧ w = w' := by
  have HM : Hid (Calls Try.prog 34 #[.int .i64 x, .int .i64 (-x)] w fun e w' => e = .returned (.int .i64 (max x (-x))) ∧ w = w') := Lib.hid ((l1Most_q x (-x) w).mono fun e w' ⟨h1, h2⟩ => ⟨h1, h2.symm⟩)
  go_enter Try.func33, Try.ntmps33
  go_wp2_with (go_at_call 34; refine HM.out.mono ?_; rintro e w' ⟨rfl, rfl⟩)
  go_ret
  exact ⟨rfl, rfl⟩

set_option maxHeartbeats 2000000 in
theorem l1Rising_any (w : World) (a : Option Addr) (len cap : Nat) (zs : List Int) (lo hi : Int) (hl : len ≤ 1048576) (hc : Came w a len zs) :
    Calls Try.prog 31 #[.slice a len cap, .int .i64 lo, .int .i64 hi] w fun e w' => e = .returned (.bool (risB zs lo hi)) ∧ w = w' := by
  have HZ : Hid (zs.length = len) := Lib.hid hc.1
  have HC := Lib.hid hc
  have HI := Lib.hid (fun x => l1In_any x lo hi w)
  have HNO : Hid (∀ k, k < len → risP zs lo hi k = false → risB zs lo hi = false) := Lib.hid (fun k hk h => allTo_no h _ (by rw [HZ.out]; exact hk))
  have HYE : Hid ((∀ k, k < len → risP zs lo hi k = true) → risB zs lo hi = true) := Lib.hid (fun h => allTo_yes _ (by rw [HZ.out]; exact h))
  clear hc
  go_enter Try.func31, Try.ntmps31
  go_wp2
  go_loop [11] (fun i => ∃ k : Nat, k ≤ len ∧ i = .int .i64 (k : Int) ∧ Hid (∀ j, j < k → risP zs lo hi j = true)) (fun i => len - (intOf i).toNat)
  case atStart => exact ⟨0, Nat.zero_le _, rfl, Lib.hid (fun j h => absurd h (Nat.not_lt_zero _))⟩
  case round =>
    obtain ⟨k, hk, rfl, HK⟩ := hrel
    by_cases hlt : k < len
    · obtain ⟨b, off, rfl, hcell⟩ := HC.out.2 (by omega)
      have e0 := hcell k hlt
      obtain ⟨x, hx⟩ : ∃ x, x = zs.getD k 0 := ⟨_, rfl⟩
      rw [← hx] at e0
      have HX := Lib.hid hx
      have i1 : (0 : Int) ≤ (k : Int) := by omega
      have i2 : (k : Int) < (len : Int) := by omega
      have HIx := Lib.hid (HI.out x)
      clear hx
      rcases hb : inB x lo hi with _ | _
      · have HE := Lib.hid (HNO.out k hlt (by unfold risP; rw [← HX.out, hb]; rfl))
        rw [hb] at HIx
        clear hb hcell
        go_wp2_with (go_at_call 19; refine HIx.out.mono ?_; rintro e ww ⟨rfl, rfl⟩)
        go_ret
        exact ⟨ret_bool (by rw [HE.out]), rfl⟩
      rw [hb] at HIx
      by_cases hk0 : k = 0
      · subst hk0
        simp only [Nat.add_zero] at e0
        have HK2 : Hid (∀ j, j < 0 + 1 → risP zs lo hi j = true) := Lib.hid (fun j hj => by
          obtain rfl : j = 0 := by omega
          unfold risP; rw [← HX.out, hb]; rfl)
        clear hb hcell
        go_wp2_with (go_at_call 19; refine HIx.out.mono ?_; rintro e ww ⟨rfl, rfl⟩)
        go_round
        case rel => exact ⟨0 + 1, by omega, by go_num, HK2⟩
        case measure => simp [intOf]; omega
      · have e1 := hcell (k - 1) (by omega)
        obtain ⟨y, hy⟩ : ∃ y, y = zs.getD (k - 1) 0 := ⟨_, rfl⟩
        rw [← hy] at e1
        have HY := Lib.hid hy
        have k1 : (0 : Int) < (k : Int) := by omega
        have k2 : (0 : Int) ≤ (k : Int) - 1 := by omega
        have k3 : (k : Int) - 1 < (len : Int) := by omega
        have k4 : ((k : Int) - 1).toNat = k - 1 := by omega
        clear hy
        by_cases hyx : y < x
        · have HK2 : Hid (∀ j, j < k + 1 → risP zs lo hi j = true) := Lib.hid (fun j hj => by
            by_cases e : j = k
            · subst e; unfold risP; rw [← HX.out, ← HY.out, hb, decide_eq_true hyx]; simp
            · exact HK.out j (by omega))
          have hyx2 : ¬ x ≤ y := by omega
          clear hb hcell
          go_wp2_with (go_at_call 19; refine HIx.out.mono ?_; rintro e ww ⟨rfl, rfl⟩)
          go_round
          case rel => exact ⟨k + 1, by omega, by go_num, HK2⟩
          case measure => simp [intOf]; omega
        · have HE := Lib.hid (HNO.out k hlt (by unfold risP; rw [← HX.out, ← HY.out, hb, decide_eq_false hyx, decide_eq_false hk0]; rfl))
          have hyx2 : x ≤ y := by omega
          clear hb hcell
          go_wp2_with (go_at_call 19; refine HIx.out.mono ?_; rintro e ww ⟨rfl, rfl⟩)
          go_ret
          exact ⟨ret_bool (by rw [HE.out]), rfl⟩
    · have HE := Lib.hid (HYE.out (fun j hj => HK.out j (by omega)))
      go_wp2
      go_ret
      exact ⟨ret_bool (by rw [HE.out]), rfl⟩

set_option maxHeartbeats 1000000 in
theorem siStarts_any (w : World) (n : Int) (a : Option Addr) (len cap : Nat) (zs : List Int) (hl : len ≤ 1048576) (hc : Came w a len zs) :
    Calls Try.prog 24 #[.int .i64 n, .slice a len cap] w fun e w' => e = .returned (.bool (startB n zs)) ∧ w = w' := by
  have HN := Lib.hid (siSoldiers_any n w)
  have HR := Lib.hid (l1Rising_any w a len cap zs 0 (n - 1) hl hc)
  have HZ : Hid (zs.length = len) := Lib.hid hc.1
  clear hc
  rcases hb0 : inB n 1 100 with _ | _
  · have HE : Hid (startB n zs = false) := Lib.hid (by unfold startB; rw [hb0]; rfl)
    rw [hb0] at HN
    clear hb0
    go_enter Try.func24, Try.ntmps24
    go_wp2_with (go_at_call 29; refine HN.out.mono ?_; rintro e ww ⟨rfl, rfl⟩)
    go_ret
    exact ⟨ret_bool (by rw [HE.out]), rfl⟩
  obtain ⟨n1, n2⟩ := inB_yes hb0
  by_cases hl0 : 0 < len
  · have HE : Hid (startB n zs = risB zs 0 (n - 1)) := Lib.hid (by unfold startB; rw [hb0, HZ.out, decide_eq_true hl0]; rfl)
    have hl1 : (0 : Int) < (len : Int) := by omega
    rw [hb0] at HN
    clear hb0
    go_enter Try.func24, Try.ntmps24
    go_wp2_with fail
    go_at_call 29
    refine HN.out.mono ?_
    rintro e ww ⟨rfl, rfl⟩
    go_wp2_with fail
    go_at_call 31
    refine HR.out.mono ?_
    rintro e ww ⟨rfl, rfl⟩
    go_wp2
    go_ret
    exact ⟨ret_bool (by rw [HE.out]), rfl⟩
  · have HE : Hid (startB n zs = false) := Lib.hid (by unfold startB; rw [hb0, HZ.out, decide_eq_false hl0]; rfl)
    have hl1 : ¬ (0 : Int) < (len : Int) := by omega
    rw [hb0] at HN
    clear hb0
    go_enter Try.func24, Try.ntmps24
    go_wp2_with (go_at_call 29; refine HN.out.mono ?_; rintro e ww ⟨rfl, rfl⟩)
    go_ret
    exact ⟨ret_bool (by rw [HE.out]), rfl⟩

set_option maxHeartbeats 4000000 in
theorem siSpread_any (w : World) (N : Nat) (n1 : 1 ≤ N) (n2 : N ≤ 100) (a : Option Addr) (len cap : Nat) (qs : List Nat) (hl : len ≤ 1048576) (hq : ∀ k, k < len → qs.getD k 0 < N) (hc : Came w a len (asInts qs)) :
    Calls Try.prog 25 #[.int .i64 N, .slice a len cap] w fun e w' => ∃ v, e = .returned (.tuple #[v, .int .i64 (farTo N qs N : Nat)]) ∧ Own w' w.heap.size v (spreadTo N qs N) ∧ Below w.heap.size w w' := by
  have HZ : Hid (qs.length = len) := Lib.hid (by have := hc.1; rwa [asInts_len] at this)
  have HC := Lib.hid hc
  have HQ := Lib.hid hq
  clear hc hq
  go_enter Try.func25, Try.ntmps25
  go_wp2
  go_loopw [6, 7, 8] (fun v m i wr => ∃ k : Nat, k ≤ N ∧ i = .int .i64 (k : Int) ∧ m = .int .i64 (farTo N qs k : Nat) ∧ Hid (Own wr w.heap.size v (spreadTo N qs k)) ∧ Hid (Below w.heap.size w wr)) (fun _ _ i _ => N - (intOf i).toNat)
  case atStart => exact ⟨0, Nat.zero_le _, rfl, rfl, Lib.hid (own_nil _ _), Lib.hid (Below.refl _ _)⟩
  case round =>
    obtain ⟨k, hk, rfl, rfl, HO, HB⟩ := hrel
    by_cases hlt : k < N
    · have i2 : (k : Int) < (N : Int) := by omega
      have hfar := farTo_le N qs k
      have HFS : Hid (farTo N qs (k + 1) = max (farTo N qs k) (nearN N qs k)) := Lib.hid rfl
      have HSS : Hid (spreadTo N qs (k + 1) = spreadTo N qs k ++ [((nearN N qs k : Nat) : Int)]) := Lib.hid (upTo_succ _ _)
      have hbl : (spreadTo N qs k).length ≤ 1000000000 := by rw [length_spreadTo]; omega
      obtain ⟨M, hM⟩ : ∃ M, M = farTo N qs k := ⟨_, rfl⟩
      rw [← hM] at hfar HFS ⊢
      clear hM
      have HH : Hid (nearN N qs k = nearTo N qs k len) := Lib.hid (by unfold nearN; rw [HZ.out])
      have HN0 : Hid (nearTo N qs k 0 = N) := rfl
      obtain ⟨wo, rfl⟩ : ∃ wo : World, wo = wr := ⟨_, rfl⟩
      go_wp2_with fail
      go_loop [9, 20] (fun lv j => ∃ q : Nat, q ≤ len ∧ j = .int .i64 (q : Int) ∧ lv = .int .i64 (nearTo N qs k q : Nat)) (fun _ j => len - (intOf j).toNat)
      case atStart => exact ⟨0, Nat.zero_le _, rfl, by rw [HN0.out]⟩
      case round =>
        obtain ⟨q, hq, rfl, rfl⟩ := hrel
        by_cases hq2 : q < len
        · obtain ⟨b, off, rfl, hcell⟩ := (HC.out.below HB.out).2 (by omega)
          have e0 := hcell q hq2
          rw [getD_asInts] at e0
          have hyN := HQ.out q hq2
          have hnb := nearTo_le N qs k q
          obtain ⟨y, hy⟩ : ∃ y, y = qs.getD q 0 := ⟨_, rfl⟩
          have HNS : Hid (nearTo N qs k (q + 1) = min (nearTo N qs k q) ((k - y) + (y - k))) := Lib.hid (by rw [hy]; rfl)
          rw [← hy] at e0 hyN
          obtain ⟨c, hcc⟩ : ∃ c, c = nearTo N qs k q := ⟨_, rfl⟩
          rw [← hcc] at HNS hnb ⊢
          clear hy hcc hcell
          have HA : Hid (∀ w2, Calls Try.prog 33 #[.int .i64 ((k : Int) - (y : Int))] w2 fun e w' => e = .returned (.int .i64 (((k - y) + (y - k) : Nat) : Int)) ∧ w2 = w') := Lib.hid (fun w2 => by
            have h := l1Abs_k ((k : Int) - (y : Int)) (by omega) (by omega) w2
            rwa [show max ((k : Int) - (y : Int)) (-((k : Int) - (y : Int))) = (((k - y) + (y - k) : Nat) : Int) by omega] at h)
          have hdb : (k - y) + (y - k) ≤ 100 := by omega
          obtain ⟨d, hd⟩ : ∃ d, d = (k - y) + (y - k) := ⟨_, rfl⟩
          rw [← hd] at HA HNS hdb
          clear hd
          have HLE : Hid (∀ w2, Calls Try.prog 32 #[.int .i64 (c : Int), .int .i64 (d : Int)] w2 fun e w' => e = .returned (.int .i64 ((min c d : Nat) : Int)) ∧ w2 = w') := Lib.hid (fun w2 => by
            have h := l1Least_any (c : Int) (d : Int) w2
            rwa [show min (c : Int) (d : Int) = ((min c d : Nat) : Int) by omega] at h)
          have j1 : (0 : Int) ≤ (q : Int) := by omega
          have j3 : (q : Int) < (len : Int) := by omega
          go_wp2_with fail
          go_at_call 33
          refine (HA.out _).mono ?_
          rintro e w5 ⟨rfl, rfl⟩
          go_wp2_with fail
          go_at_call 32
          refine (HLE.out _).mono ?_
          rintro e w5 ⟨rfl, rfl⟩
          go_wp2
          go_round
          case rel => exact ⟨q + 1, by omega, by go_num, by rw [HNS.out]⟩
          case measure => simp [intOf]; omega
        · obtain rfl : q = len := by omega
          have hz := HB.out.size
          rw [← HH.out]
          have hnb := nearN_le N qs k
          obtain ⟨c, hcc⟩ : ∃ c, c = nearN N qs k := ⟨_, rfl⟩
          rw [← hcc] at HFS HSS hnb ⊢
          clear hcc
          have HLE : Hid (∀ w2, Calls Try.prog 34 #[.int .i64 (M : Int), .int .i64 (c : Int)] w2 fun e w' => e = .returned (.int .i64 ((max M c : Nat) : Int)) ∧ w2 = w') := Lib.hid (fun w2 => by
            have h := l1Most_q (M : Int) (c : Int) w2
            rw [show max (M : Int) (c : Int) = ((max M c : Nat) : Int) by omega] at h
            exact h.mono fun e w' ⟨h1, h2⟩ => ⟨h1, h2.symm⟩)
          go_wp2_with (at_builtin; refine wpList_app rfl _ _ rfl wo _ _ _ _ rfl rfl HO.out hz hbl ?_; intro v5 w5 hO5 hB5; have HO5 : Hid (Own w5 w.heap.size v5 (spreadTo N qs (k + 1))) := Lib.hid (by rw [HSS.out]; exact hO5); have HB5 : Hid (Below w.heap.size w w5) := Lib.hid (HB.out.trans hB5); clear hO5 hB5)
          go_wp2_with fail
          go_at_call 34
          refine (HLE.out _).mono ?_
          rintro e w6 ⟨rfl, rfl⟩
          go_wp2
          go_roundw
          case rel => exact ⟨k + 1, by omega, by go_num, by rw [HFS.out], HO5, HB5⟩
          case measure => simp [intOf]; omega
    · have HF : Hid (k = N) := Lib.hid (by omega)
      have i2 : ¬ (k : Int) < (N : Int) := by omega
      go_wp2
      go_ret2
      exact ⟨_, by rw [HF.out]; exact rfl, by have h := HO.out; rw [HF.out] at h; exact h, HB.out⟩

set_option maxHeartbeats 2000000 in
theorem specSpreadTimes_any (w : World) (n : Int) (a : Option Addr) (len cap : Nat) (zs : List Int) (_wn : (Lit.int .i64 n).wf = true) (hl : len ≤ 1048576) (hc : Came w a len zs) :
    Calls Try.prog 12 #[.int .i64 n, .slice a len cap] w fun e w' => ∃ v0, e = .returned (.tuple #[v0, .bool (outSpreadTimes_1 n zs)]) ∧ Own w' w.heap.size v0 (outSpreadTimes_0 n zs) ∧ Below w.heap.size w w' := by
  clear _wn
  have HS := Lib.hid (siStarts_any w n a len cap zs hl hc)
  rcases hb : startB n zs with _ | _
  · have H0 : Hid (outSpreadTimes_0 n zs = [] ∧ outSpreadTimes_1 n zs = false) := Lib.hid (by unfold outSpreadTimes_0 outSpreadTimes_1; rw [hb]; exact ⟨rfl, rfl⟩)
    rw [hb] at HS
    clear hb hc
    go_enter Try.func12, Try.ntmps12
    go_wp2_with (go_at_call 24; refine HS.out.mono ?_; rintro e ww ⟨rfl, rfl⟩)
    go_ret2
    exact ⟨_, by rw [H0.out.2]; exact rfl, by rw [H0.out.1]; exact own_nil _ _, Below.refl _ _⟩
  · obtain ⟨N, qs, rfl, rfl, n1, n2, h3⟩ := start_nat hb
    have H0 : Hid (outSpreadTimes_0 N (asInts qs) = spreadTo N qs N ∧ outSpreadTimes_1 N (asInts qs) = true) := Lib.hid (by unfold outSpreadTimes_0 outSpreadTimes_1; rw [hb, si_toNat]; exact ⟨rfl, rfl⟩)
    have HP := Lib.hid (siSpread_any w N n1 n2 a len cap qs hl (fun k hk => h3 k (by have := hc.1; rw [asInts_len] at this; omega)) hc)
    rw [hb] at HS
    clear hb hc h3
    go_enter Try.func12, Try.ntmps12
    go_wp2_with fail
    go_at_call 24
    refine HS.out.mono ?_
    rintro e ww ⟨rfl, rfl⟩
    go_wp2_with fail
    go_at_call 25
    refine HP.out.mono ?_
    rintro e w2 ⟨v, rfl, o2, b2⟩
    have O2 := Lib.hid o2
    have B2 := Lib.hid b2
    clear o2 b2
    go_wp2
    go_ret2
    exact ⟨_, by rw [H0.out.2]; exact rfl, by rw [H0.out.1]; exact O2.out, B2.out⟩

set_option maxHeartbeats 2000000 in
theorem specTimeAllKnow_any (w : World) (n : Int) (a : Option Addr) (len cap : Nat) (zs : List Int) (_wn : (Lit.int .i64 n).wf = true) (hl : len ≤ 1048576) (hc : Came w a len zs) :
    Calls Try.prog 15 #[.int .i64 n, .slice a len cap] w fun e w' => e = .returned (.tuple #[.int .i64 (outTimeAllKnow_0 n zs), .bool (outTimeAllKnow_1 n zs)]) ∧ Below w.heap.size w w' := by
  clear _wn
  have HS := Lib.hid (siStarts_any w n a len cap zs hl hc)
  rcases hb : startB n zs with _ | _
  · have H0 : Hid (outTimeAllKnow_0 n zs = 0 ∧ outTimeAllKnow_1 n zs = false) := Lib.hid (by unfold outTimeAllKnow_0 outTimeAllKnow_1; rw [hb]; exact ⟨rfl, rfl⟩)
    rw [hb] at HS
    clear hb hc
    go_enter Try.func15, Try.ntmps15
    go_wp2_with (go_at_call 24; refine HS.out.mono ?_; rintro e ww ⟨rfl, rfl⟩)
    go_ret2
    exact ⟨by rw [H0.out.1, H0.out.2]; exact rfl, Below.refl _ _⟩
  · obtain ⟨N, qs, rfl, rfl, n1, n2, h3⟩ := start_nat hb
    have H0 : Hid (outTimeAllKnow_0 N (asInts qs) = (farTo N qs N : Nat) ∧ outTimeAllKnow_1 N (asInts qs) = true) := Lib.hid (by unfold outTimeAllKnow_0 outTimeAllKnow_1; rw [hb, si_toNat]; exact ⟨rfl, rfl⟩)
    have HP := Lib.hid (siSpread_any w N n1 n2 a len cap qs hl (fun k hk => h3 k (by have := hc.1; rw [asInts_len] at this; omega)) hc)
    rw [hb] at HS
    clear hb hc h3
    go_enter Try.func15, Try.ntmps15
    go_wp2_with fail
    go_at_call 24
    refine HS.out.mono ?_
    rintro e ww ⟨rfl, rfl⟩
    go_wp2_with fail
    go_at_call 25
    refine HP.out.mono ?_
    rintro e w2 ⟨v, rfl, o2, b2⟩
    have B2 := Lib.hid b2
    clear o2 b2
    go_wp2
    go_ret2
    exact ⟨by rw [H0.out.1, H0.out.2]; exact rfl, B2.out⟩

set_option maxHeartbeats 2000000 in
theorem siLeast_any (n many : Nat) (h1 : n ≤ 100) (h2 : 1 ≤ many) (h3 : many ≤ 100) (w : World) :
    Calls Try.prog 21 #[.int .i64 n, .int .i64 many] w fun e w' => e = .returned (.int .i64 (leastT n many : Nat)) ∧ w = w' := by
  have HM := Lib.hid (fun t => @leastT_more n many t h2)
  have HD := Lib.hid (fun t => @leastT_done n many t h2)
  have HL : Hid (leastT n many ≤ 200) := Lib.hid (by have := @leastT_le n many; omega)
  obtain ⟨T, hT⟩ : ∃ T, T = leastT n many := ⟨_, rfl⟩
  rw [← hT] at HM HD HL ⊢
  clear hT
  go_enter Try.func21, Try.ntmps21
  go_wp2
  go_loop [5] (fun i => ∃ k : Nat, k ≤ T ∧ i = .int .i64 (k : Int)) (fun i => T - (intOf i).toNat)
  case atStart => exact ⟨0, Nat.zero_le _, rfl⟩
  case round =>
    obtain ⟨k, hk, rfl⟩ := hrel
    have hk2 : k ≤ 200 := Nat.le_trans hk HL.out
    obtain ⟨p, hp⟩ : ∃ p, p = many * (2 * k + 1) := ⟨_, rfl⟩
    have ep : (many : Int) * (2 * (k : Int) + 1) = (p : Int) := by rw [hp]; push_cast; rfl
    have hpb : p ≤ 100 * 401 := by rw [hp]; exact Nat.mul_le_mul h3 (by omega)
    have HMk := Lib.hid (HM.out k)
    have HDk := Lib.hid (HD.out k)
    rw [← hp] at HMk HDk
    clear hp
    by_cases hlt : p < n
    · have h4 := HMk.out hlt
      have i2 : (p : Int) < (n : Int) := by omega
      go_wp2
      go_round
      case rel => exact ⟨k + 1, by omega, by go_num⟩
      case measure => simp [intOf]; omega
    · have HE : Hid (k = T) := Lib.hid (by have := HDk.out hlt; omega)
      have i2 : ¬ (p : Int) < (n : Int) := by omega
      go_wp2
      go_ret
      exact ⟨ret_int (by rw [HE.out]), rfl⟩


end Go.Proofs.Ytmlamcimncfmcab
