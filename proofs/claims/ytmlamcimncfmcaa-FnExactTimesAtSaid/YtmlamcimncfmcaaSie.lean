/- Chapter 8: the model's siStarts, siSpread, SpreadTimes, TimeAllKnow, siLeast, LeastTimeWith, WaitsFor. -/
import Derived.Test.YtmlamcimncfmcaaSia
namespace Go.Proofs.Ytmlamcimncfmcaa
open Go.ChangeShapes Go.WideShapes Go.ChangeAt Go.RowKit
open Si

namespace Si
def allTo (p : Nat → Bool) : Nat → Bool
  | 0 => true
  | k + 1 => allTo p k && p k
theorem allTo_no {p : Nat → Bool} {k : Nat} (h : p k = false) : ∀ n, k < n → allTo p n = false
  | 0, hn => absurd hn (Nat.not_lt_zero _)
  | n + 1, hn => by
    rw [allTo]
    by_cases e : k = n
    · subst e; rw [h, Bool.and_false]
    · rw [allTo_no h n (by omega), Bool.false_and]
theorem allTo_yes {p : Nat → Bool} : ∀ n, (∀ k, k < n → p k = true) → allTo p n = true
  | 0, _ => rfl
  | n + 1, h => by rw [allTo, allTo_yes n (fun k hk => h k (by omega)), h n (by omega)]; rfl
theorem allTo_each {p : Nat → Bool} : ∀ {n}, allTo p n = true → ∀ k, k < n → p k = true
  | 0, _, _, hk => absurd hk (Nat.not_lt_zero _)
  | n + 1, h, k, hk => by
    rw [allTo, Bool.and_eq_true] at h
    by_cases e : k = n
    · subst e; exact h.2
    · exact allTo_each h.1 k (by omega)
def risP (zs : List Int) (lo hi : Int) (i : Nat) : Bool := inB (zs.getD i 0) lo hi && (decide (i = 0) || decide (zs.getD (i - 1) 0 < zs.getD i 0))
def risB (zs : List Int) (lo hi : Int) : Bool := allTo (risP zs lo hi) zs.length
def startB (n : Int) (zs : List Int) : Bool := inB n 1 100 && (decide (0 < zs.length) && risB zs 0 (n - 1))
theorem start_nat {n : Int} {zs : List Int} (h : startB n zs = true) : ∃ (N : Nat) (qs : List Nat), n = N ∧ zs = asInts qs ∧ 1 ≤ N ∧ N ≤ 100 ∧ ∀ k, k < qs.length → qs.getD k 0 < N := by
  unfold startB at h
  rw [Bool.and_eq_true, Bool.and_eq_true] at h
  have h1 := inB_yes h.1
  have h2 := allTo_each h.2.2
  have h3 : ∀ k, k < zs.length → 0 ≤ zs.getD k 0 ∧ zs.getD k 0 ≤ n - 1 := fun k hk => by
    have := h2 k hk
    unfold risP at this
    rw [Bool.and_eq_true] at this
    exact inB_yes this.1
  refine ⟨n.toNat, zs.map Int.toNat, by omega, ?_, by omega, by omega, fun k hk => ?_⟩
  · refine ext_getD 0 (by rw [asInts_len, List.length_map]) fun i hi => ?_
    rw [getD_asInts]
    have h4 := h3 i hi
    have h5 : (zs.map Int.toNat).getD i 0 = (zs.getD i 0).toNat := by simp [List.getD_eq_getElem?_getD, hi]
    rw [h5]
    omega
  · rw [List.length_map] at hk
    have h4 := h3 k hk
    have h5 : (zs.map Int.toNat).getD k 0 = (zs.getD k 0).toNat := by simp [List.getD_eq_getElem?_getD, hk]
    rw [h5]
    omega
/-- how far it is to the nearest of the first k -/
def nearTo (N : Nat) (qs : List Nat) (x : Nat) : Nat → Nat
  | 0 => N
  | k + 1 => min (nearTo N qs x k) ((x - qs.getD k 0) + (qs.getD k 0 - x))
theorem nearTo_le (N : Nat) (qs : List Nat) (x : Nat) : ∀ k, nearTo N qs x k ≤ N
  | 0 => Nat.le_refl _
  | k + 1 => by have := nearTo_le N qs x k; unfold nearTo; omega
def nearN (N : Nat) (qs : List Nat) (x : Nat) : Nat := nearTo N qs x qs.length
theorem nearN_le (N : Nat) (qs : List Nat) (x : Nat) : nearN N qs x ≤ N := nearTo_le _ _ _ _
def spreadTo (N : Nat) (qs : List Nat) (k : Nat) : List Int := upTo (fun x => (nearN N qs x : Nat)) k
def farTo (N : Nat) (qs : List Nat) : Nat → Nat
  | 0 => 0
  | k + 1 => max (farTo N qs k) (nearN N qs k)
theorem farTo_le (N : Nat) (qs : List Nat) : ∀ k, farTo N qs k ≤ N
  | 0 => Nat.zero_le _
  | k + 1 => by have := farTo_le N qs k; have := nearN_le N qs k; unfold farTo; omega
theorem near_far (N : Nat) (qs : List Nat) {x : Nat} : ∀ k, x < k → nearN N qs x ≤ farTo N qs k
  | 0, h => absurd h (Nat.not_lt_zero _)
  | k + 1, h => by
    unfold farTo
    by_cases e : x = k
    · subst e; omega
    · have := near_far N qs k (by omega : x < k); omega
theorem length_spreadTo (N : Nat) (qs : List Nat) (k : Nat) : (spreadTo N qs k).length = k := length_upTo _ _
/-- the least time with so many starts -/
def leastT (n many : Nat) : Nat := ((n + many - 1) / many) / 2
theorem leastT_more {n many t : Nat} (hm : 1 ≤ many) (h : many * (2 * t + 1) < n) : t + 1 ≤ leastT n many := by
  unfold leastT
  rw [Nat.le_div_iff_mul_le (by omega), Nat.le_div_iff_mul_le (by omega)]
  have : (t + 1) * 2 * many = many * (2 * t + 1) + many := by
    rw [show (t + 1) * 2 = (2 * t + 1) + 1 by omega, Nat.add_mul, Nat.one_mul, Nat.mul_comm many]
  omega
theorem leastT_done {n many t : Nat} (hm : 1 ≤ many) (h : ¬ many * (2 * t + 1) < n) : leastT n many ≤ t := by
  apply Nat.le_of_not_lt
  intro h2
  apply h
  have h3 : t + 1 ≤ leastT n many := h2
  unfold leastT at h3
  rw [Nat.le_div_iff_mul_le (by omega), Nat.le_div_iff_mul_le (by omega)] at h3
  have : (t + 1) * 2 * many = many * (2 * t + 1) + many := by
    rw [show (t + 1) * 2 = (2 * t + 1) + 1 by omega, Nat.add_mul, Nat.one_mul, Nat.mul_comm many]
  omega
theorem leastT_le {n many : Nat} : leastT n many ≤ n + many := by
  unfold leastT
  have h1 : (n + many - 1) / many / 2 ≤ (n + many - 1) / many := Nat.div_le_self _ _
  have h2 : (n + many - 1) / many ≤ n + many - 1 := Nat.div_le_self _ _
  omega
def waitsTo (N f k : Nat) : List Int := upTo (fun x => ((farTo N [f] N : Nat) : Int) - (nearN N [f] x : Nat)) k
end Si
def outSpreadTimes_0 (n : Int) (zs : List Int) : List Int := if startB n zs then spreadTo n.toNat (zs.map Int.toNat) n.toNat else []
def outSpreadTimes_1 (n : Int) (zs : List Int) : Bool := startB n zs
theorem start_le {n : Int} {zs : List Int} (h : startB n zs = true) : 1 ≤ n ∧ n ≤ 100 := by
  unfold startB at h; rw [Bool.and_eq_true] at h; exact inB_yes h.1
theorem lenSpreadTimes_0 (n : Int) (zs : List Int) (_hz : zs.length ≤ 1048576) : (outSpreadTimes_0 n zs).length ≤ 4611686018427387904 := by
  unfold outSpreadTimes_0
  split
  · rename_i h
    have := start_le h
    rw [length_spreadTo]
    omega
  · simp
def outTimeAllKnow_0 (n : Int) (zs : List Int) : Int := if startB n zs then (farTo n.toNat (zs.map Int.toNat) n.toNat : Nat) else 0
def outTimeAllKnow_1 (n : Int) (zs : List Int) : Bool := startB n zs
def outLeastTimeWith_0 (n k : Int) : Int := if inB n 1 100 && inB k 1 n then (leastT n.toNat k.toNat : Nat) else 0
def outLeastTimeWith_1 (n k : Int) : Bool := inB n 1 100 && inB k 1 n
def outWaitsFor_0 (n f : Int) : List Int := if inB n 1 100 && inB f 0 (n - 1) then waitsTo n.toNat f.toNat n.toNat else []
def outWaitsFor_1 (n f : Int) : Bool := inB n 1 100 && inB f 0 (n - 1)
theorem lenWaitsFor_0 (n f : Int) : (outWaitsFor_0 n f).length ≤ 4611686018427387904 := by
  unfold outWaitsFor_0
  split
  · rename_i h
    rw [Bool.and_eq_true] at h
    have := inB_yes h.1
    unfold waitsTo
    rw [length_upTo]
    omega
  · simp
theorem si_toNat (qs : List Nat) : (asInts qs).map Int.toNat = qs := by
  unfold asInts
  rw [List.map_map]
  refine (List.map_congr_left (fun p _ => ?_)).trans (List.map_id _)
  simp







set_option maxHeartbeats 2000000 in
theorem siLeast_any (n many : Nat) (h1 : n ≤ 100) (h2 : 1 ≤ many) (h3 : many ≤ 100) (w : World) :
    Calls Try.prog 64 #[.int .i64 n, .int .i64 many] w fun e w' => e = .returned (.int .i64 (leastT n many : Nat)) ∧ w = w' := by
  have HM := Lib.hid (fun t => @leastT_more n many t h2)
  have HD := Lib.hid (fun t => @leastT_done n many t h2)
  have HL : Hid (leastT n many ≤ 200) := Lib.hid (by have := @leastT_le n many; omega)
  obtain ⟨T, hT⟩ : ∃ T, T = leastT n many := ⟨_, rfl⟩
  rw [← hT] at HM HD HL ⊢
  clear hT
  go_enter Try.func64, Try.ntmps64
  go_wp2
  go_loop [5] (fun i => ∃ k : Nat, k ≤ T ∧ i = .int .i64 (k : Int)) (fun i => T - (intOf i).toNat)
  case atStart => exact ⟨0, Nat.zero_le _, rfl⟩
  case round =>
    obtain ⟨k, hk, rfl⟩ := hrel
    have hk2 : k ≤ 200 := Nat.le_trans hk HL.out
    obtain ⟨p, hp⟩ : ∃ p, p = many * (2 * k + 1) := ⟨_, rfl⟩
    have ep : (many : Int) * (2 * (k : Int) + 1) = (p : Int) := by rw [hp]; push_cast; rfl
    have hpb : p ≤ 100 * 401 := by rw [hp]; exact Nat.mul_le_mul h3 (by omega)
    have HMk := Lib.hid (HM.out k)
    have HDk := Lib.hid (HD.out k)
    rw [← hp] at HMk HDk
    clear hp
    by_cases hlt : p < n
    · have h4 := HMk.out hlt
      have i2 : (p : Int) < (n : Int) := by omega
      go_wp2
      go_round
      case rel => exact ⟨k + 1, by omega, by go_num⟩
      case measure => simp [intOf]; omega
    · have HE : Hid (k = T) := Lib.hid (by have := HDk.out hlt; omega)
      have i2 : ¬ (p : Int) < (n : Int) := by omega
      go_wp2
      go_ret
      exact ⟨ret_int (by rw [HE.out]), rfl⟩

set_option maxHeartbeats 1000000 in
theorem specLeastTimeWith_any (w : World) (n : Int) (m : Int) (_wn : (Lit.int .i64 n).wf = true) (_wm : (Lit.int .i64 m).wf = true) :
    Calls Try.prog 39 #[.int .i64 n, .int .i64 m] w fun e w' => e = .returned (.tuple #[.int .i64 (outLeastTimeWith_0 n m), .bool (outLeastTimeWith_1 n m)]) ∧ Below w.heap.size w w' := by
  clear _wn _wm
  have HN := Lib.hid (siSoldiers_any n w)
  have HM := Lib.hid (l1In_any m 1 n w)
  rcases hb0 : inB n 1 100 with _ | _
  · have H0 : Hid (outLeastTimeWith_0 n m = 0 ∧ outLeastTimeWith_1 n m = false) := Lib.hid (by unfold outLeastTimeWith_0 outLeastTimeWith_1; rw [hb0]; exact ⟨rfl, rfl⟩)
    rw [hb0] at HN
    clear hb0
    go_enter Try.func39, Try.ntmps39
    go_wp2_with (go_at_call 59; refine HN.out.mono ?_; rintro e ww ⟨rfl, rfl⟩)
    go_ret2
    exact ⟨by rw [H0.out.1, H0.out.2]; exact rfl, Below.refl _ _⟩
  rcases hb1 : inB m 1 n with _ | _
  · have H0 : Hid (outLeastTimeWith_0 n m = 0 ∧ outLeastTimeWith_1 n m = false) := Lib.hid (by unfold outLeastTimeWith_0 outLeastTimeWith_1; rw [hb0, hb1]; exact ⟨rfl, rfl⟩)
    rw [hb0] at HN
    rw [hb1] at HM
    clear hb0 hb1
    go_enter Try.func39, Try.ntmps39
    go_wp2_with (first | (go_at_call 59; refine HN.out.mono ?_; rintro e ww ⟨rfl, rfl⟩) | (go_at_call 51; refine HM.out.mono ?_; rintro e ww ⟨rfl, rfl⟩))
    go_ret2
    exact ⟨by rw [H0.out.1, H0.out.2]; exact rfl, Below.refl _ _⟩
  · obtain ⟨n1, n2⟩ := inB_yes hb0
    obtain ⟨m1, m2⟩ := inB_yes hb1
    obtain ⟨N, rfl⟩ : ∃ N : Nat, n = (N : Int) := ⟨n.toNat, by omega⟩
    obtain ⟨M, rfl⟩ : ∃ N : Nat, m = (N : Int) := ⟨m.toNat, by omega⟩
    have H0 : Hid (outLeastTimeWith_0 N M = (leastT N M : Nat) ∧ outLeastTimeWith_1 N M = true) := Lib.hid (by unfold outLeastTimeWith_0 outLeastTimeWith_1; rw [hb0, hb1]; exact ⟨rfl, rfl⟩)
    have HL := Lib.hid (siLeast_any N M (by omega) (by omega) (by omega) w)
    rw [hb0] at HN
    rw [hb1] at HM
    clear hb0 hb1
    go_enter Try.func39, Try.ntmps39
    go_wp2_with (first | (go_at_call 59; refine HN.out.mono ?_; rintro e ww ⟨rfl, rfl⟩) | (go_at_call 51; refine HM.out.mono ?_; rintro e ww ⟨rfl, rfl⟩) | (go_at_call 64; refine HL.out.mono ?_; rintro e ww ⟨rfl, rfl⟩))
    go_ret2
    exact ⟨by rw [H0.out.1, H0.out.2]; exact rfl, Below.refl _ _⟩

end Go.Proofs.Ytmlamcimncfmcaa
