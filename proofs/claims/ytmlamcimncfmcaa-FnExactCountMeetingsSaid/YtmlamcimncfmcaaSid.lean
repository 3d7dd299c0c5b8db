/- Chapter 8: the model's HeardBy, TimeAllHear. -/
import Derived.Test.YtmlamcimncfmcaaSib
namespace Go.Proofs.Ytmlamcimncfmcaa
open Go.ChangeShapes Go.WideShapes Go.ChangeAt Go.RowKit
open Si

namespace Si
def fstP (n : Nat) (p : RSignal) (x : Nat) : Nat := firstN n p.1.toNat p.2.1 p.2.2.toNat x
def anyTo (p : Nat → Bool) : Nat → Bool
  | 0 => false
  | k + 1 => anyTo p k || p k
theorem anyTo_had {p : Nat → Bool} {k : Nat} (h : anyTo p k = true) : anyTo p (k + 1) = true := by rw [anyTo, h]; rfl
theorem anyTo_not {p : Nat → Bool} {k : Nat} {b : Bool} (h : anyTo p k = false) (hb : p k = b) : anyTo p (k + 1) = b := by rw [anyTo, h, hb, Bool.false_or]
def heardB (n : Nat) (ps : List RSignal) (u x : Nat) : Bool := anyTo (fun j => decide (fstP n (ps.getD j zSignal) x ≤ u)) ps.length
def heardTo (n : Nat) (ps : List RSignal) (u k : Nat) : List Int := asInts ((List.range k).filter (heardB n ps u))
theorem heardTo_yes {n u k : Nat} {ps : List RSignal} (h : heardB n ps u k = true) : heardTo n ps u (k + 1) = heardTo n ps u k ++ [(k : Int)] := by
  unfold heardTo; rw [List.range_succ, List.filter_append, List.filter_cons, if_pos h, List.filter_nil]; unfold asInts; rw [List.map_append]; rfl
theorem heardTo_no {n u k : Nat} {ps : List RSignal} (h : heardB n ps u k = false) : heardTo n ps u (k + 1) = heardTo n ps u k := by
  unfold heardTo; rw [List.range_succ, List.filter_append, List.filter_cons, if_neg (by rw [h]; decide), List.filter_nil, List.append_nil]
theorem length_heardTo (n u k : Nat) (ps : List RSignal) : (heardTo n ps u k).length ≤ k := by
  unfold heardTo; rw [asInts_len]; refine Nat.le_trans (List.length_filter_le _ _) ?_; rw [List.length_range]; exact Nat.le_refl _
def minTo (f : Nat → Nat) : Nat → Nat
  | 0 => f 0
  | k + 1 => min (minTo f k) (f k)
theorem minTo_le {f : Nat → Nat} {m : Nat} (h : ∀ k, k < m → f k ≤ 2000) (h0 : 0 < m) : ∀ k, minTo f k ≤ 2000
  | 0 => h 0 h0
  | k + 1 => by have := minTo_le h h0 k; unfold minTo; omega
def maxTo (f : Nat → Nat) : Nat → Nat
  | 0 => 0
  | k + 1 => max (maxTo f k) (f k)
theorem maxTo_le {f : Nat → Nat} (h : ∀ k, f k ≤ 2000) : ∀ k, maxTo f k ≤ 2000
  | 0 => Nat.zero_le _
  | k + 1 => by have := maxTo_le h k; have := h k; unfold maxTo; omega
/-- when the soldier x first hears any of them -/
def soonN (n : Nat) (ps : List RSignal) (x : Nat) : Nat := minTo (fun j => fstP n (ps.getD j zSignal) x) ps.length
theorem fstP_le {n : Nat} {p : RSignal} (x : Nat) (h : sigB n p = true) : fstP n p x ≤ 2000 := by
  obtain ⟨m, f, s, hm, hp, hg⟩ := sig_nat h
  obtain rfl : n = m := by omega
  unfold fstP
  rw [hp]
  exact firstN_le _ _ hg
end Si
def outHeardBy_0 (n : Int) (ps : List RSignal) (u : Int) : List Int := if inB n 1 100 && (listB n ps && inB u 0 100000) then heardTo n.toNat ps u.toNat n.toNat else []
def outHeardBy_1 (n : Int) (ps : List RSignal) (u : Int) : Bool := inB n 1 100 && (listB n ps && inB u 0 100000)
theorem lenHeardBy_0 (n : Int) (ps : List RSignal) (u : Int) : (outHeardBy_0 n ps u).length ≤ 4611686018427387904 := by
  unfold outHeardBy_0
  split
  · rename_i h
    rw [Bool.and_eq_true] at h
    have := inB_yes h.1
    have := length_heardTo n.toNat u.toNat n.toNat ps
    omega
  · simp
def outTimeAllHear_0 (n : Int) (ps : List RSignal) : Int := if inB n 1 100 && listB n ps then (maxTo (soonN n.toNat ps) n.toNat : Nat) else 0
def outTimeAllHear_1 (n : Int) (ps : List RSignal) : Bool := inB n 1 100 && listB n ps

set_option maxHeartbeats 4000000 in
theorem specHeardBy_any (w : World) (n : Int) (a : Option Addr) (len cap : Nat) (ps : List RSignal) (u : Int) (_wn : (Lit.int .i64 n).wf = true) (_wu : (Lit.int .i64 u).wf = true) (hl : len ≤ 1048576) (hc : CameSignal w a len ps) :
    Calls Try.prog 32 #[.int .i64 n, .slice a len cap, .int .i64 u] w fun e w' => ∃ v0, e = .returned (.tuple #[v0, .bool (outHeardBy_1 n ps u)]) ∧ Own w' w.heap.size v0 (outHeardBy_0 n ps u) ∧ Below w.heap.size w w' := by
  clear _wn _wu
  have HN := Lib.hid (fun w2 => siSoldiers_any n w2)
  have HL := Lib.hid (siList_any w n a len cap ps hl hc)
  have HU := Lib.hid (fun w2 => siTime_any u w2)
  have HZ : Hid (ps.length = len) := Lib.hid hc.1
  have HC := Lib.hid hc
  clear hc
  rcases hb0 : inB n 1 100 with _ | _
  · have H0 : Hid (outHeardBy_0 n ps u = [] ∧ outHeardBy_1 n ps u = false) := Lib.hid (by unfold outHeardBy_0 outHeardBy_1; rw [hb0]; exact ⟨rfl, rfl⟩)
    rw [hb0] at HN
    clear hb0
    go_enter Try.func32, Try.ntmps32
    go_wp2_with (go_at_call 59; refine (HN.out _).mono ?_; rintro e w' ⟨rfl, rfl⟩)
    go_ret2
    exact ⟨_, by rw [H0.out.2]; exact rfl, by rw [H0.out.1]; exact own_nil _ _, Below.refl _ _⟩
  rcases hb1 : listB n ps with _ | _
  · have H0 : Hid (outHeardBy_0 n ps u = [] ∧ outHeardBy_1 n ps u = false) := Lib.hid (by unfold outHeardBy_0 outHeardBy_1; rw [hb0, hb1]; exact ⟨rfl, rfl⟩)
    rw [hb0] at HN
    rw [hb1] at HL
    clear hb0 hb1
    go_enter Try.func32, Try.ntmps32
    go_wp2_with fail
    go_at_call 59
    refine (HN.out _).mono ?_
    rintro e ww ⟨rfl, rfl⟩
    go_wp2_with fail
    go_at_call 41
    refine (HL.out).mono ?_
    rintro e w2 ⟨rfl, bb⟩
    have B2 := Lib.hid bb
    clear bb
    go_wp2
    go_ret2
    exact ⟨_, by rw [H0.out.2]; exact rfl, by rw [H0.out.1]; exact own_nil _ _, B2.out⟩
  rcases hb2 : inB u 0 100000 with _ | _
  · have H0 : Hid (outHeardBy_0 n ps u = [] ∧ outHeardBy_1 n ps u = false) := Lib.hid (by unfold outHeardBy_0 outHeardBy_1; rw [hb0, hb1, hb2]; exact ⟨rfl, rfl⟩)
    rw [hb0] at HN
    rw [hb1] at HL
    rw [hb2] at HU
    clear hb0 hb1 hb2
    go_enter Try.func32, Try.ntmps32
    go_wp2_with fail
    go_at_call 59
    refine (HN.out _).mono ?_
    rintro e ww ⟨rfl, rfl⟩
    go_wp2_with fail
    go_at_call 41
    refine (HL.out).mono ?_
    rintro e w2 ⟨rfl, bb⟩
    have B2 := Lib.hid bb
    clear bb
    go_wp2_with fail
    go_at_call 45
    refine (HU.out _).mono ?_
    rintro e ww ⟨rfl, rfl⟩
    go_wp2
    go_ret2
    exact ⟨_, by rw [H0.out.2]; exact rfl, by rw [H0.out.1]; exact own_nil _ _, B2.out⟩
  · obtain ⟨n1, n2⟩ := inB_yes hb0
    obtain ⟨u1, u2⟩ := inB_yes hb2
    obtain ⟨N, rfl⟩ : ∃ N : Nat, n = (N : Int) := ⟨n.toNat, by omega⟩
    obtain ⟨U, rfl⟩ : ∃ N : Nat, u = (N : Int) := ⟨u.toNat, by omega⟩
    obtain ⟨l1, l2, l3⟩ := list_each hb1
    have HS := Lib.hid l3
    have hl1 : 1 ≤ len := by have := HZ.out; omega
    have hl2 : len ≤ 10 := by have := HZ.out; omega
    have H0 : Hid (outHeardBy_0 N ps U = heardTo N ps U N ∧ outHeardBy_1 N ps U = true) := Lib.hid (by unfold outHeardBy_0 outHeardBy_1; rw [hb0, hb1, hb2]; exact ⟨rfl, rfl⟩)
    rw [hb0] at HN
    rw [hb1] at HL
    rw [hb2] at HU
    clear hb0 hb1 hb2 l1 l2 l3
    go_enter Try.func32, Try.ntmps32
    go_wp2_with fail
    go_at_call 59
    refine (HN.out _).mono ?_
    rintro e ww ⟨rfl, rfl⟩
    go_wp2_with fail
    go_at_call 41
    refine (HL.out).mono ?_
    rintro e w2 ⟨rfl, bb⟩
    have B2 := Lib.hid bb
    clear bb
    go_wp2_with fail
    go_at_call 45
    refine (HU.out _).mono ?_
    rintro e ww ⟨rfl, rfl⟩
    go_wp2_with fail
    go_loopw [8, 9] (fun v i wr => ∃ k : Nat, k ≤ N ∧ i = .int .i64 (k : Int) ∧ Hid (Own wr w.heap.size v (heardTo N ps U k)) ∧ Hid (Below w.heap.size w wr)) (fun _ i _ => N - (intOf i).toNat)
    case atStart => exact ⟨0, Nat.zero_le _, rfl, Lib.hid (own_nil _ _), B2⟩
    case round =>
      obtain ⟨k, hk, rfl, HO, HB⟩ := hrel
      by_cases hlt : k < N
      · have i2 : (k : Int) < (N : Int) := by omega
        obtain ⟨p, hp⟩ : ∃ p, p = fun j => decide (fstP N (ps.getD j zSignal) k ≤ U) := ⟨_, rfl⟩
        have HP : Hid (∀ j, p j = decide (fstP N (ps.getD j zSignal) k ≤ U)) := Lib.hid (fun j => by rw [hp])
        have HH : Hid (heardB N ps U k = anyTo p len) := Lib.hid (by unfold heardB; rw [← hp, HZ.out])
        have HSY := Lib.hid (@heardTo_yes N U k ps)
        have HSN := Lib.hid (@heardTo_no N U k ps)
        have hbl : (heardTo N ps U k).length ≤ 1000000000 := by have := length_heardTo N U k ps; omega
        clear hp
        obtain ⟨wo, rfl⟩ : ∃ wo : World, wo = wr := ⟨_, rfl⟩
        go_wp2_with fail
        go_loopw [10, 34] (fun hv j wr => ∃ q : Nat, q ≤ len ∧ j = .int .i64 (q : Int) ∧ hv = .bool (anyTo p q) ∧ Hid (Below wo.heap.size wo wr)) (fun _ j _ => len - (intOf j).toNat)
        case atStart => exact ⟨0, Nat.zero_le _, rfl, rfl, Lib.hid (Below.refl _ _)⟩
        case round =>
          obtain ⟨q, hq, rfl, rfl, HI⟩ := hrel
          by_cases hq2 : q < len
          · obtain ⟨b, off, rfl, hcell⟩ := (HC.out.below (HB.out.trans (HI.out.mono HB.out.size))).2 (by omega)
            obtain ⟨e0, e1, e2⟩ := hcell q hq2
            have hs := HS.out q (by have := HZ.out; omega)
            have hpq := HP.out q
            obtain ⟨pp, hpp⟩ : ∃ pp, pp = ps.getD q zSignal := ⟨_, rfl⟩
            rw [← hpp] at e0 e1 e2 hs hpq
            obtain ⟨x0, x1, x2⟩ := pp
            simp only at e0 e1 e2
            obtain ⟨N2, F, S, hN, hp2, hg⟩ := sig_nat hs
            obtain rfl : N = N2 := by omega
            obtain ⟨rfl, rfl⟩ : x0 = (F : Int) ∧ x2 = (S : Int) := by injection hp2 with h1 h2; injection h2 with _ h3; exact ⟨h1, h3⟩
            have HF := Lib.hid (fun w2 => siFirst_any N F S k x1 hg hlt w2)
            have hv0 : p q = decide (firstN N F x1 S k ≤ U) := hpq
            obtain ⟨v, hv⟩ : ∃ v, v = firstN N F x1 S k := ⟨_, rfl⟩
            rw [← hv] at HF hv0
            have HV := Lib.hid hv0
            have i1 : (0 : Int) ≤ (q : Int) := by omega
            have i3 : (q : Int) < (len : Int) := by omega
            have HBA : Hid (Below wo.heap.size wo (wr.alloc (.cells #[.int .i64 (F : Int), .bool x1, .int .i64 (S : Int)] 33))) := Lib.hid (HI.out.alloc HI.out.size _)
            clear hcell hs hpq hpp hN hp2 hg hv hv0
            rcases ha : anyTo p q with _ | _
            · have HA := Lib.hid (fun b => @anyTo_not p q b ha)
              clear ha
              by_cases hvU : v ≤ U
              · have HA2 := Lib.hid (HA.out true (by rw [HV.out, decide_eq_true hvU]))
                have hvI : (v : Int) ≤ (U : Int) := by omega
                clear hvU
                go_wp2_with fail
                go_at_call 60
                refine (HF.out _).mono ?_
                rintro e w4 ⟨rfl, bb⟩
                have HB4 : Hid (Below wo.heap.size wo w4) := Lib.hid (HBA.out.trans (bb.mono HBA.out.size))
                clear bb
                go_wp2
                go_roundw
                case rel => exact ⟨q + 1, by omega, by go_num, by rw [HA2.out], HB4⟩
                case measure => simp [intOf]; omega
              · have HA2 := Lib.hid (HA.out false (by rw [HV.out, decide_eq_false hvU]))
                have hvI : ¬ (v : Int) ≤ (U : Int) := by omega
                clear hvU
                go_wp2_with fail
                go_at_call 60
                refine (HF.out _).mono ?_
                rintro e w4 ⟨rfl, bb⟩
                have HB4 : Hid (Below wo.heap.size wo w4) := Lib.hid (HBA.out.trans (bb.mono HBA.out.size))
                clear bb
                go_wp2
                go_roundw
                case rel => exact ⟨q + 1, by omega, by go_num, by rw [HA2.out]; first | rfl | (congr 1; exact decide_eq_false (by omega)), HB4⟩
                case measure => simp [intOf]; omega
            · have HA2 := Lib.hid (anyTo_had ha)
              clear ha
              go_wp2
              go_roundw
              case rel => exact ⟨q + 1, by omega, by go_num, by rw [HA2.out], HBA⟩
              case measure => simp [intOf]; omega
          · obtain rfl : q = len := by omega
            have HO2 := Lib.hid (HO.out.below HI.out (Nat.le_refl _))
            have HB2 : Hid (Below w.heap.size w wr) := Lib.hid (HB.out.trans (HI.out.mono HB.out.size))
            have hz := HB2.out.size
            rcases ha : anyTo p q with _ | _
            · have HS2 := Lib.hid (HSN.out (HH.out.trans ha))
              clear ha HSY HSN
              go_wp2
              go_roundw
              case rel => exact ⟨k + 1, by omega, by go_num, Lib.hid (by rw [HS2.out]; exact HO2.out), HB2⟩
              case measure => simp [intOf]; omega
            · have HS2 := Lib.hid (HSY.out (HH.out.trans ha))
              clear ha HSY HSN
              go_wp2_with (at_builtin; refine wpList_app rfl _ _ rfl wr _ _ _ _ rfl rfl HO2.out hz hbl ?_; intro v5 w5 hO5 hB5; have HO5 : Hid (Own w5 w.heap.size v5 (heardTo N ps U (k + 1))) := Lib.hid (by rw [HS2.out]; exact hO5); have HB5 : Hid (Below w.heap.size w w5) := Lib.hid (HB2.out.trans hB5); clear hO5 hB5)
              go_roundw
              case rel => exact ⟨k + 1, by omega, by go_num, HO5, HB5⟩
              case measure => simp [intOf]; omega
      · have HF : Hid (k = N) := Lib.hid (by omega)
        have i2 : ¬ (k : Int) < (N : Int) := by omega
        go_wp2
        go_ret2
        exact ⟨_, by rw [H0.out.2]; exact rfl, by have h := HO.out; rw [HF.out] at h; rw [H0.out.1]; exact h, HB.out⟩

set_option maxHeartbeats 4000000 in
theorem specTimeAllHear_any (w : World) (n : Int) (a : Option Addr) (len cap : Nat) (ps : List RSignal) (_wn : (Lit.int .i64 n).wf = true) (hl : len ≤ 1048576) (hc : CameSignal w a len ps) :
    Calls Try.prog 35 #[.int .i64 n, .slice a len cap] w fun e w' => e = .returned (.tuple #[.int .i64 (outTimeAllHear_0 n ps), .bool (outTimeAllHear_1 n ps)]) ∧ Below w.heap.size w w' := by
  clear _wn
  have HN := Lib.hid (fun w2 => siSoldiers_any n w2)
  have HL := Lib.hid (siList_any w n a len cap ps hl hc)
  have HZ : Hid (ps.length = len) := Lib.hid hc.1
  have HC := Lib.hid hc
  clear hc
  rcases hb0 : inB n 1 100 with _ | _
  · have H0 : Hid (outTimeAllHear_0 n ps = 0 ∧ outTimeAllHear_1 n ps = false) := Lib.hid (by unfold outTimeAllHear_0 outTimeAllHear_1; rw [hb0]; exact ⟨rfl, rfl⟩)
    rw [hb0] at HN
    clear hb0
    go_enter Try.func35, Try.ntmps35
    go_wp2_with (go_at_call 59; refine (HN.out _).mono ?_; rintro e w' ⟨rfl, rfl⟩)
    go_ret2
    exact ⟨by rw [H0.out.1, H0.out.2]; exact rfl, Below.refl _ _⟩
  rcases hb1 : listB n ps with _ | _
  · have H0 : Hid (outTimeAllHear_0 n ps = 0 ∧ outTimeAllHear_1 n ps = false) := Lib.hid (by unfold outTimeAllHear_0 outTimeAllHear_1; rw [hb0, hb1]; exact ⟨rfl, rfl⟩)
    rw [hb0] at HN
    rw [hb1] at HL
    clear hb0 hb1
    go_enter Try.func35, Try.ntmps35
    go_wp2_with fail
    go_at_call 59
    refine (HN.out _).mono ?_
    rintro e ww ⟨rfl, rfl⟩
    go_wp2_with fail
    go_at_call 41
    refine (HL.out).mono ?_
    rintro e w2 ⟨rfl, bb⟩
    have B2 := Lib.hid bb
    clear bb
    go_wp2
    go_ret2
    exact ⟨by rw [H0.out.1, H0.out.2]; exact rfl, B2.out⟩
  · obtain ⟨n1, n2⟩ := inB_yes hb0
    obtain ⟨N, rfl⟩ : ∃ N : Nat, n = (N : Int) := ⟨n.toNat, by omega⟩
    obtain ⟨l1, l2, l3⟩ := list_each hb1
    have HS := Lib.hid l3
    have hl1 : 1 ≤ len := by have := HZ.out; omega
    have hl2 : len ≤ 10 := by have := HZ.out; omega
    have H0 : Hid (outTimeAllHear_0 N ps = (maxTo (soonN N ps) N : Nat) ∧ outTimeAllHear_1 N ps = true) := Lib.hid (by unfold outTimeAllHear_0 outTimeAllHear_1; rw [hb0, hb1]; exact ⟨rfl, rfl⟩)
    have HSO : Hid (∀ x, soonN N ps x ≤ 2000) := Lib.hid (fun x => minTo_le (fun k hk => fstP_le x (l3 k hk)) (by omega) _)
    have HMX : Hid (∀ k, maxTo (soonN N ps) k ≤ 2000) := Lib.hid (maxTo_le HSO.out)
    rw [hb0] at HN
    rw [hb1] at HL
    clear hb0 hb1 l1 l2 l3
    go_enter Try.func35, Try.ntmps35
    go_wp2_with fail
    go_at_call 59
    refine (HN.out _).mono ?_
    rintro e ww ⟨rfl, rfl⟩
    go_wp2_with fail
    go_at_call 41
    refine (HL.out).mono ?_
    rintro e w2 ⟨rfl, bb⟩
    have B2 := Lib.hid bb
    clear bb
    go_wp2_with fail
    go_loopw [6, 7] (fun v i wr => ∃ k : Nat, k ≤ N ∧ i = .int .i64 (k : Int) ∧ v = .int .i64 (maxTo (soonN N ps) k : Nat) ∧ Hid (Below w.heap.size w wr)) (fun _ i _ => N - (intOf i).toNat)
    case atStart => exact ⟨0, Nat.zero_le _, rfl, rfl, B2⟩
    case round =>
      obtain ⟨k, hk, rfl, rfl, HB⟩ := hrel
      by_cases hlt : k < N
      · have i2 : (k : Int) < (N : Int) := by omega
        obtain ⟨p, hp⟩ : ∃ p, p = fun j => fstP N (ps.getD j zSignal) k := ⟨_, rfl⟩
        have HP : Hid (∀ j, p j = fstP N (ps.getD j zSignal) k) := Lib.hid (fun j => by rw [hp])
        have HH : Hid (soonN N ps k = minTo p len) := Lib.hid (by unfold soonN; rw [← hp, HZ.out])
        have HPB : Hid (∀ j, j < len → p j ≤ 2000) := Lib.hid (fun j hj => by rw [HP.out]; exact fstP_le k (HS.out j (by have := HZ.out; omega)))
        have hmx := HMX.out k
        have HNX : Hid (maxTo (soonN N ps) (k + 1) = max (maxTo (soonN N ps) k) (soonN N ps k)) := Lib.hid rfl
        obtain ⟨M, hM⟩ : ∃ M, M = maxTo (soonN N ps) k := ⟨_, rfl⟩
        rw [← hM] at hmx HNX ⊢
        clear hp hM
        obtain ⟨wo, rfl⟩ : ∃ wo : World, wo = wr := ⟨_, rfl⟩
        obtain ⟨b, off, rfl, hcell⟩ := (HC.out.below HB.out).2 (by omega)
        obtain ⟨e0, e1, e2⟩ := hcell 0 (by omega)
        have hs := HS.out 0 (by have := HZ.out; omega)
        have hpq := HP.out 0
        obtain ⟨pp, hpp⟩ : ∃ pp, pp = ps.getD 0 zSignal := ⟨_, rfl⟩
        rw [← hpp] at e0 e1 e2 hs hpq
        obtain ⟨x0, x1, x2⟩ := pp
        simp only [Nat.zero_mul, Nat.add_zero] at e0 e1 e2
        obtain ⟨N2, F, S, hN, hp2, hg⟩ := sig_nat hs
        obtain rfl : N = N2 := by omega
        obtain ⟨rfl, rfl⟩ : x0 = (F : Int) ∧ x2 = (S : Int) := by injection hp2 with h1 h2; injection h2 with _ h3; exact ⟨h1, h3⟩
        have hv0 : p 0 = firstN N F x1 S k := hpq
        have HF : Hid (∀ w2, Calls Try.prog 60 #[.int .i64 N, .agg #[.int .i64 F, .bool x1, .int .i64 S], .int .i64 k] w2 fun e w' => e = .returned (.int .i64 (p 0 : Nat)) ∧ Below w2.heap.size w2 w') := Lib.hid (fun w2 => by rw [hv0]; exact siFirst_any N F S k x1 hg hlt w2)
        have HM0 : Hid (minTo p 0 = p 0) := rfl
        have i1 : (0 : Int) < (len : Int) := by omega
        clear hcell hs hpq hpp hN hp2 hg hv0
        go_wp2_with fail
        go_at_call 60
        refine (HF.out _).mono ?_
        rintro e w3 ⟨rfl, bb⟩
        have HB3 : Hid (Below wo.heap.size wo w3) := Lib.hid bb
        clear bb e0 e1 e2
        go_wp2_with fail
        go_loopw [8, 33] (fun hv j wr => ∃ q : Nat, q ≤ len ∧ j = .int .i64 (q : Int) ∧ hv = .int .i64 (minTo p q : Nat) ∧ Hid (Below wo.heap.size wo wr)) (fun _ j _ => len - (intOf j).toNat)
        case atStart => exact ⟨0, Nat.zero_le _, rfl, by rw [HM0.out], HB3⟩
        case round =>
          obtain ⟨q, hq, rfl, rfl, HI⟩ := hrel
          by_cases hq2 : q < len
          · obtain ⟨b', off', hbo, hcell⟩ := (HC.out.below (HB.out.trans (HI.out.mono HB.out.size))).2 (by omega)
            obtain ⟨rfl, rfl⟩ : b = b' ∧ off = off' := by injection hbo with h; injection h with h1 h2; exact ⟨h1, h2⟩
            clear hbo
            obtain ⟨e0, e1, e2⟩ := hcell q hq2
            have hs := HS.out q (by have := HZ.out; omega)
            have hpq := HP.out q
            obtain ⟨pp, hpp⟩ : ∃ pp, pp = ps.getD q zSignal := ⟨_, rfl⟩
            rw [← hpp] at e0 e1 e2 hs hpq
            obtain ⟨y0, y1, y2⟩ := pp
            simp only at e0 e1 e2
            obtain ⟨N2, F2, S2, hN, hp2, hg⟩ := sig_nat hs
            obtain rfl : N = N2 := by omega
            obtain ⟨rfl, rfl⟩ : y0 = (F2 : Int) ∧ y2 = (S2 : Int) := by injection hp2 with h1 h2; injection h2 with _ h3; exact ⟨h1, h3⟩
            have hv0 : p q = firstN N F2 y1 S2 k := hpq
            obtain ⟨v, hv⟩ : ∃ v, v = p q := ⟨_, rfl⟩
            have HF2 : Hid (∀ w2, Calls Try.prog 60 #[.int .i64 N, .agg #[.int .i64 F2, .bool y1, .int .i64 S2], .int .i64 k] w2 fun e w' => e = .returned (.int .i64 (v : Nat)) ∧ Below w2.heap.size w2 w') := Lib.hid (fun w2 => by rw [hv, hv0]; exact siFirst_any N F2 S2 k y1 hg hlt w2)
            have HMS : Hid (minTo p (q + 1) = min (minTo p q) v) := Lib.hid (by rw [hv]; rfl)
            obtain ⟨c, hcc⟩ : ∃ c, c = minTo p q := ⟨_, rfl⟩
            rw [← hcc] at HMS ⊢
            have HLE : Hid (∀ w2, Calls Try.prog 62 #[.int .i64 (c : Int), .int .i64 (v : Int)] w2 fun e w' => e = .returned (.int .i64 ((min c v : Nat) : Int)) ∧ w2 = w') := Lib.hid (fun w2 => by
              have h := l1Least_any (c : Int) (v : Int) w2
              rwa [show min (c : Int) (v : Int) = ((min c v : Nat) : Int) by omega] at h)
            have j1 : (0 : Int) ≤ (q : Int) := by omega
            have j3 : (q : Int) < (len : Int) := by omega
            have HBA : Hid (Below wo.heap.size wo (wr.alloc (.cells #[.int .i64 (F2 : Int), .bool y1, .int .i64 (S2 : Int)] 33))) := Lib.hid (HI.out.alloc HI.out.size _)
            clear hcell hs hpq hpp hN hp2 hg hv hv0 hcc
            go_wp2_with fail
            go_at_call 60
            refine (HF2.out _).mono ?_
            rintro e w4 ⟨rfl, bb⟩
            have HB4 : Hid (Below wo.heap.size wo w4) := Lib.hid (HBA.out.trans (bb.mono HBA.out.size))
            clear bb
            go_wp2_with fail
            go_at_call 62
            refine (HLE.out _).mono ?_
            rintro e w5 ⟨rfl, rfl⟩
            go_wp2
            go_roundw
            case rel => exact ⟨q + 1, by omega, by go_num, by rw [HMS.out], HB4⟩
            case measure => simp [intOf]; omega
          · obtain rfl : q = len := by omega
            have HB2 : Hid (Below w.heap.size w wr) := Lib.hid (HB.out.trans (HI.out.mono HB.out.size))
            obtain ⟨c, hcc⟩ : ∃ c, c = minTo p q := ⟨_, rfl⟩
            have HMS : Hid (maxTo (soonN N ps) (k + 1) = max M c) := Lib.hid (by rw [HNX.out, HH.out, hcc])
            rw [← hcc]
            have HLE : Hid (∀ w2, Calls Try.prog 49 #[.int .i64 (M : Int), .int .i64 (c : Int)] w2 fun e w' => e = .returned (.int .i64 ((max M c : Nat) : Int)) ∧ w2 = w') := Lib.hid (fun w2 => by
              have h := l1Most_q (M : Int) (c : Int) w2
              rw [show max (M : Int) (c : Int) = ((max M c : Nat) : Int) by omega] at h
              exact h.mono fun e w' ⟨h1, h2⟩ => ⟨h1, h2.symm⟩)
            clear hcc
            go_wp2_with fail
            go_at_call 49
            refine (HLE.out _).mono ?_
            rintro e w5 ⟨rfl, rfl⟩
            go_wp2
            go_roundw
            case rel => exact ⟨k + 1, by omega, by go_num, by rw [HMS.out], HB2⟩
            case measure => simp [intOf]; omega
      · have HF : Hid (k = N) := Lib.hid (by omega)
        have i2 : ¬ (k : Int) < (N : Int) := by omega
        go_wp2
        go_ret2
        exact ⟨by rw [H0.out.1, H0.out.2, HF.out]; exact rfl, HB.out⟩

end Go.Proofs.Ytmlamcimncfmcaa
