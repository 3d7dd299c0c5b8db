/- Chapter 3: TimesTurned, the model and the program. -/
import Derived.Test.YtbodomfdgjemhaaFoE
import Derived.Test.YtbodomfdgjemhaaFt
namespace Go.Proofs.Ytbodomfdgjemhaa
open Go.ChangeShapes Go.WideShapes Go.ChangeAt Go.RowKit
open Fo

def outTimesTurned_0 (r c : Int) : Int := if sidesB r c then (ord r.toNat c.toNat : Nat) else 0
def outTimesTurned_1 (r c : Int) : Bool := sidesB r c
/-- as often as the first k chains of places ask -/
def ordTo (o k : Nat) : Nat := if k = 0 then 1 else o
theorem ordTo_step {R C k p : Nat} (h1 : 1 ≤ R) (h2 : 1 ≤ C) (h : R * C ≤ 200) (hk : k < R * C) (hp : 1 ≤ p) (hi : iter R C p k = k) (hno : ∀ j, 1 ≤ j → j < p → iter R C j k ≠ k) :
    ordTo (ord R C) k / Nat.gcd (ordTo (ord R C) k) p * p = ordTo (ord R C) (k + 1) := by
  obtain ⟨h3, h4, h5⟩ := ord_in h1 h2 h
  have h0 : 0 < R * C := by omega
  have ho : iter R C (ord R C) k = k := iter_all h1 h0 h3 k hk
  have hd := per_dvd hp hi hno ho
  have hle := Nat.le_of_dvd (by omega) hd
  unfold ordTo
  rw [if_neg (by omega : ¬ k + 1 = 0)]
  split
  · rename_i e
    subst e
    have : ¬ p < ord R C := fun hlt => ord_least hp hlt hi
    rw [Nat.gcd_one_left, Nat.div_one, Nat.one_mul]
    omega
  · rw [Nat.gcd_eq_right hd, Nat.div_mul_cancel hd]
theorem iter_end {R C k L : Nat} (h1 : 1 ≤ R) (h2 : 1 ≤ C) (h : R * C ≤ 200) (hk : k < R * C) (hL : L ≤ ord R C) (hne : iter R C L k ≠ k) : L + 1 ≤ ord R C := by
  obtain ⟨h3, h4, h5⟩ := ord_in h1 h2 h
  rcases Nat.lt_or_ge L (ord R C) with e | e
  · exact e
  · exact absurd (by rw [show L = ord R C by omega]; exact iter_all h1 (by omega) h3 k hk) hne
theorem getD_turnL {R C j : Nat} (h : j < R * C) : (turnL R C).getD j 0 = ((turnAt R C j : Nat) : Int) := by
  unfold turnL
  rw [getD_upTo _ _ _ (by rw [Nat.mul_comm]; exact h)]
  rfl
theorem length_turnL (R C : Nat) : (turnL R C).length = R * C := by unfold turnL; rw [length_upTo, Nat.mul_comm]
set_option maxHeartbeats 4000000 in
theorem specTimesTurned_any (w : World) (r c : Int) (_wr : (Lit.int .i64 r).wf = true) (_wc : (Lit.int .i64 c).wf = true) :
    Calls Try.prog 34 #[.int .i64 r, .int .i64 c] w fun e w' => e = .returned (.tuple #[.int .i64 (outTimesTurned_0 r c), .bool (outTimesTurned_1 r c)]) ∧ Below w.heap.size w w' := by
  have HH := Lib.hid (foSides_any r c w)
  clear _wr _wc
  rcases hb : sidesB r c with _ | _
  · have H0 : Hid (outTimesTurned_0 r c = 0 ∧ outTimesTurned_1 r c = false) := Lib.hid (by unfold outTimesTurned_0 outTimesTurned_1; rw [hb]; exact ⟨rfl, rfl⟩)
    rw [hb] at HH
    clear hb
    go_enter Try.func34, Try.ntmps34
    go_wp2_with (go_at_call 52; refine HH.out.mono ?_; rintro e w' ⟨rfl, rfl⟩)
    go_ret2
    exact ⟨by rw [H0.out.1, H0.out.2]; exact rfl, Below.refl _ _⟩
  · obtain ⟨R, C, rfl, rfl, h1, h2, h3, h4, h5⟩ := sides_nat hb
    have H0 : Hid (outTimesTurned_0 R C = ((ord R C : Nat) : Int) ∧ outTimesTurned_1 R C = true) := Lib.hid (by unfold outTimesTurned_0 outTimesTurned_1; rw [hb]; exact ⟨rfl, rfl⟩)
    rw [hb] at HH
    have HT := Lib.hid (foTurn_any R C h1 h2 h3 h4 h5 w)
    obtain ⟨n, hn⟩ : ∃ n, n = R * C := ⟨_, rfl⟩
    have HLN : Hid ((turnL R C).length = n) := Lib.hid (by rw [hn]; exact length_turnL R C)
    have HG : Hid (∀ j, j < n → (turnL R C).getD j 0 = ((turnAt R C j : Nat) : Int)) := Lib.hid (fun j hj => getD_turnL (by rw [← hn]; exact hj))
    have HTL : Hid (∀ j, j < n → turnAt R C j < n) := Lib.hid (fun j hj => by rw [hn] at hj ⊢; exact turnAt_lt h1 hj)
    have HIL : Hid (∀ t j, j < n → iter R C t j < n) := Lib.hid (fun t j hj => by rw [hn] at hj ⊢; exact iter_lt h1 t j hj)
    have HST : Hid (∀ k p, k < n → 1 ≤ p → iter R C p k = k → (∀ j, 1 ≤ j → j < p → iter R C j k ≠ k) → ordTo (ord R C) k / Nat.gcd (ordTo (ord R C) k) p * p = ordTo (ord R C) (k + 1)) := Lib.hid (fun k p hk hp hi hno => ordTo_step h1 h3 h5 (by rw [← hn]; exact hk) hp hi hno)
    have HEN : Hid (∀ k L, k < n → L ≤ ord R C → iter R C L k ≠ k → L + 1 ≤ ord R C) := Lib.hid (fun k L hk hL hne => iter_end h1 h3 h5 (by rw [← hn]; exact hk) hL hne)
    have ho := (ord_in h1 h3 h5).2
    have nb : n ≤ 200 := by omega
    have n1 : 1 ≤ n := by rw [hn]; exact Nat.mul_pos h1 h3
    obtain ⟨o, hoo⟩ : ∃ o, o = ord R C := ⟨_, rfl⟩
    rw [← hoo] at ho HST HEN H0
    obtain ⟨o1, o2⟩ := ho
    clear hb h5 hn hoo
    go_enter Try.func34, Try.ntmps34
    go_wp2_with fail
    go_at_call 52
    refine HH.out.mono ?_
    rintro e w' ⟨rfl, rfl⟩
    go_wp2_with fail
    go_at_call 53
    refine HT.out.mono ?_
    rintro e w2 ⟨v, rfl, o2', b2⟩
    obtain ⟨g, cap, rfl, _, _⟩ := o2'.point (by rw [HLN.out]; omega)
    have O2 := Lib.hid o2'
    rw [HLN.out] at O2
    have B2 := Lib.hid b2
    rw [HLN.out]
    clear o2' b2
    go_wp2
    go_loopw [7, 20] (fun t i wr => ∃ k : Nat, k ≤ n ∧ i = .int .i64 (k : Int) ∧ t = .int .i64 (ordTo o k : Nat) ∧ Hid (Own wr w.heap.size (.slice (some ⟨g, 0, none⟩) n cap) (turnL R C)) ∧ Hid (Below w.heap.size w wr)) (fun _ i _ => n - (intOf i).toNat)
    case atStart => exact ⟨0, Nat.zero_le _, rfl, rfl, O2, B2⟩
    case round =>
      obtain ⟨k, hk, rfl, rfl, HO, HB⟩ := hrel
      by_cases hlt : k < n
      · obtain ⟨wo, rfl⟩ : ∃ wo : World, wo = wr := ⟨_, rfl⟩
        have e1 := HO.out.cell HLN.out.symm k (by rw [HLN.out]; exact hlt)
        rw [HG.out k hlt] at e1
        have i1 : (0 : Int) ≤ (k : Int) := by omega
        have i2 : (k : Int) < (n : Int) := by omega
        obtain ⟨a1, ha1⟩ : ∃ a, a = iter R C 1 k := ⟨_, rfl⟩
        rw [show turnAt R C k = a1 from ha1.symm] at e1
        obtain ⟨T, hT⟩ : ∃ a, a = ordTo o k := ⟨_, rfl⟩
        have HTT := Lib.hid hT
        have hTb : T ≤ 200 := by rw [hT]; unfold ordTo; split <;> omega
        have hT1 : 1 ≤ T := by rw [hT]; unfold ordTo; split <;> omega
        rw [← hT]
        have HA1 := Lib.hid ha1
        clear ha1 hT
        go_wp2
        go_loop [9, 10] (fun l at' => ∃ L a : Nat, 1 ≤ L ∧ L ≤ o ∧ a < n ∧ l = .int .i64 (L : Int) ∧ at' = .int .i64 (a : Int) ∧ Hid (a = iter R C L k) ∧ Hid (∀ j, 1 ≤ j → j < L → iter R C j k ≠ k)) (fun l _ => o - (intOf l).toNat)
        case atStart => exact ⟨1, a1, Nat.le_refl _, o1, by rw [HA1.out]; exact HIL.out 1 k hlt, rfl, rfl, HA1, Lib.hid (fun j h1 h2 => absurd h1 (by omega))⟩
        case round =>
          obtain ⟨L, a, hL1, hLo, han, rfl, rfl, HA, HNO⟩ := hrel
          by_cases hak : a = k
          · have HS := HST.out k L hlt hL1 (by rw [← HA.out]; exact hak) HNO.out
            rw [← HTT.out] at HS
            have HC := Lib.hid (foCommon_any T L (by omega) (by omega) (Or.inl hT1) wo)
            have hd1 := Nat.gcd_pos_of_pos_left L (show 0 < T by omega)
            have hd2 : Nat.gcd T L ∣ T := Nat.gcd_dvd_left T L
            obtain ⟨d, hd⟩ : ∃ d, d = Nat.gcd T L := ⟨_, rfl⟩
            rw [← hd] at hd1 hd2 HC HS
            obtain ⟨q, hq⟩ : ∃ q, q = T / d := ⟨_, rfl⟩
            have hqb : q ≤ T := by rw [hq]; exact Nat.div_le_self _ _
            rw [← hq] at HS
            have hpb : q * L ≤ 200 * 200 := Nat.mul_le_mul (by omega) (by omega)
            obtain ⟨p, hp⟩ : ∃ p, p = q * L := ⟨_, rfl⟩
            have e2 : (T : Int) / (d : Int) = (q : Int) := by rw [hq]; exact (Int.natCast_ediv T d).symm
            have e3 : (q : Int) * (L : Int) = (p : Int) := by rw [hp]; simp
            rw [← hp] at HS hpb
            have d0 : ¬ d = 0 := by omega
            have HS := Lib.hid HS
            have hkk : ((a : Int) != (k : Int)) = false := by rw [hak]; simp
            clear hd hd2 hq hp e1
            subst hak
            go_wp2_with fail
            go_at_call 58
            refine HC.out.mono ?_
            rintro e w5 ⟨rfl, b5⟩
            have B5 : Hid (Below w.heap.size w w5) := Lib.hid (HB.out.trans (b5.mono HB.out.size))
            have O5 : Hid (Own w5 w.heap.size (.slice (some ⟨g, 0, none⟩) n cap) (turnL R C)) := Lib.hid (HO.out.below b5 (Nat.le_refl _))
            clear b5
            go_wp2
            go_roundw
            case rel => exact ⟨a + 1, by omega, by go_num, int_eq (by rw [← HS.out]), O5, B5⟩
            case measure => simp [intOf]; omega
          · have e4 := HO.out.cell HLN.out.symm a (by rw [HLN.out]; exact han)
            rw [HG.out a han] at e4
            have HE := HEN.out k L hlt hLo (by rw [← HA.out]; exact hak)
            have HNO2 : Hid (∀ j, 1 ≤ j → j < L + 1 → iter R C j k ≠ k) := Lib.hid (fun j hj1 hj2 => by
              by_cases e : j = L
              · rw [e, ← HA.out]; exact hak
              · exact HNO.out j hj1 (by omega))
            have hb2 := HTL.out a han
            obtain ⟨a2, ha2⟩ : ∃ z, z = turnAt R C a := ⟨_, rfl⟩
            rw [← ha2] at e4 hb2
            have HA2 : Hid (a2 = iter R C (L + 1) k) := Lib.hid (by rw [ha2, HA.out]; rfl)
            have hne : ((a : Int) != (k : Int)) = true := by rw [bne_iff_ne]; omega
            have i3 : (0 : Int) ≤ (a : Int) := by omega
            have i4 : (a : Int) < (n : Int) := by omega
            clear ha2 e1
            go_wp2
            go_round
            case rel => exact ⟨L + 1, a2, by omega, HE, hb2, by go_num, rfl, HA2, HNO2⟩
            case measure => simp [intOf]; omega
      · have HE : Hid (ordTo o k = o) := Lib.hid (by unfold ordTo; rw [if_neg (by omega)])
        go_wp2
        go_ret2
        exact ⟨by rw [H0.out.1, H0.out.2, HE.out]; exact rfl, HB.out⟩

def afterF (R C n t : Nat) : List Int := told (fun j => ((iter R C t j : Nat) : Int)) n
theorem after_zero (R C n : Nat) : afterF R C n 0 = told (fun i : Nat => (i : Int)) n := rfl
theorem after_turned {R C n : Nat} (h1 : 1 ≤ R) (hn : n = R * C) (t : Nat) : told (turnedF R C (afterF R C n t)) (C * R) = afterF R C n (t + 1) := by
  unfold afterF
  rw [turned_told h1 _ n hn]
  refine told_congr fun j _ => ?_
  rw [iter_add R C t 1 j]
  rfl
theorem after_same {R C n t : Nat} (h1 : 1 ≤ R) (hn : n = R * C) (n1 : 1 ≤ n) : afterF R C n t = afterF R C n 0 ↔ iter R C t 0 = 0 := by
  constructor
  · intro h
    have h2 := congrArg (fun l : List Int => l.getD 0 0) h
    simp only [afterF] at h2
    rw [getD_told _ _ _ (by omega), getD_told _ _ _ (by omega)] at h2
    have : iter R C 0 0 = 0 := rfl
    omega
  · intro h
    refine told_congr fun j hj => ?_
    rw [iter_all h1 (by omega) h j (by omega)]
    rfl
theorem length_after (R C n t : Nat) (h : n ≤ 200) : (cellsI (afterF R C n t)).length = 200 := by rw [length_cellsI]; exact length_told _ _ h
theorem Try.eqGuard_formation : Try.prog.eqGuardType Try.prog.depth 44 = false := by kernel_rfl
theorem Try.plain_int : Try.prog.plainKey 3 = true := by kernel_rfl
theorem Try.cells_int : Try.prog.cellsOf 3 = 1 := by kernel_rfl
set_option maxHeartbeats 4000000 in
theorem implTimesTurned_any (w : World) (r c : Int) (_wr : (Lit.int .i64 r).wf = true) (_wc : (Lit.int .i64 c).wf = true) :
    Calls Try.prog 35 #[.int .i64 r, .int .i64 c] w fun e w' => e = .returned (.tuple #[.int .i64 (outTimesTurned_0 r c), .bool (outTimesTurned_1 r c)]) ∧ Below w.heap.size w w' := by
  have HH := Lib.hid (canBeTurned_any r c w)
  clear _wr _wc
  rcases hb : sidesB r c with _ | _
  · have H0 : Hid (outTimesTurned_0 r c = 0 ∧ outTimesTurned_1 r c = false) := Lib.hid (by unfold outTimesTurned_0 outTimesTurned_1; rw [hb]; exact ⟨rfl, rfl⟩)
    rw [hb] at HH
    clear hb
    go_enter Try.func35, Try.ntmps35
    go_wp2_with (go_at_call 54; refine HH.out.mono ?_; rintro e w' ⟨rfl, rfl⟩)
    go_ret2
    exact ⟨by rw [H0.out.1, H0.out.2]; exact rfl, Below.refl _ _⟩
  · obtain ⟨R, C, rfl, rfl, h1, h2, h3, h4, h5⟩ := sides_nat hb
    have H0 : Hid (outTimesTurned_0 R C = ((ord R C : Nat) : Int) ∧ outTimesTurned_1 R C = true) := Lib.hid (by unfold outTimesTurned_0 outTimesTurned_1; rw [hb]; exact ⟨rfl, rfl⟩)
    rw [hb] at HH
    obtain ⟨n, hn⟩ : ∃ n, n = R * C := ⟨_, rfl⟩
    have e1 : (R : Int) * (C : Int) = (n : Int) := by rw [hn]; simp
    have nb : n ≤ 200 := by omega
    have n1 : 1 ≤ n := by rw [hn]; exact Nat.mul_pos h1 h3
    have HF := formationOf_any n nb w
    rw [← after_zero R C n] at HF
    have HF := Lib.hid HF
    have HT : Hid (∀ (t : Nat) (w2 : World), Calls Try.prog 56 #[.agg (cellsI (afterF R C n t)).toArray, .int .i64 R, .int .i64 C] w2 fun e w' => e = .returned (.agg (cellsI (afterF R C n (t + 1))).toArray) ∧ Below w2.heap.size w2 w') := Lib.hid (fun t w2 => by
      have := turnedOf_any R C h1 h3 h5 (afterF R C n t) (length_told _ _ nb) w2
      rw [after_turned h1 hn t] at this
      exact this)
    have HLN : Hid (∀ t, (cellsI (afterF R C n t)).length = 200) := Lib.hid (fun t => length_after R C n t nb)
    have HLZ : Hid (∀ t, (afterF R C n t).length = 200) := Lib.hid (fun t => length_told _ _ nb)
    obtain ⟨ho0, o1, o2⟩ := ord_in h1 h3 h5
    have HEQ : Hid (∀ t, 1 ≤ t → t < ord R C → decide (afterF R C n t = afterF R C n 0) = false) := Lib.hid (fun t ht1 ht2 => decide_eq_false (fun e => ord_least ht1 ht2 ((after_same h1 hn n1).1 e)))
    have HEE : Hid (decide (afterF R C n (ord R C) = afterF R C n 0) = true) := Lib.hid (decide_eq_true ((after_same h1 hn n1).2 ho0))
    obtain ⟨o, hoo⟩ : ∃ o, o = ord R C := ⟨_, rfl⟩
    rw [← hoo] at o1 o2 HEQ HEE H0
    obtain ⟨G, hG⟩ : ∃ G, G = afterF R C n := ⟨_, rfl⟩
    rw [← hG] at HF HT HLN HLZ HEQ HEE
    clear hb hn h5 hoo hG ho0
    go_enter Try.func35, Try.ntmps35
    go_wp2_with fail
    go_at_call 54
    refine HH.out.mono ?_
    rintro e w' ⟨rfl, rfl⟩
    go_wp2_with fail
    go_at_call 55
    refine HF.out.mono ?_
    rintro e w2 ⟨rfl, b2⟩
    have B2 := Lib.hid b2
    clear b2
    go_wp2_with (refine wpList_new 44 rfl rfl _ _ Try.info_formation ?_; intro w4 g6 G4 K4 L4)
    refine ⟨?_⟩
    have B4 : Hid (Below w.heap.size w w4) := Lib.hid (B2.out.trans (L4.out.mono B2.out.size))
    have g4 : Hid (w.heap.size ≤ g6) := Lib.hid (by have := G4.out; have := B2.out.size; omega)
    go_wp2_with (refine wpList_storeAll 44 _ _ rfl rfl g6 _ (cellsI zeros) (cellsI (G 0)) 200 Try.size_formation rfl rfl K4 (HLN.out 0) (by rw [length_cellsI, length_zeros]) (cellsI_one _) ?_; intro w5 K5 L5)
    refine ⟨?_⟩
    have B5 : Hid (Below w.heap.size w w5) := Lib.hid (grownBy_below B4.out L5.out (Nat.le_refl _) g4.out)
    clear B2 B4 G4 K4 L4 L5
    go_wp2_with (refine wpList_loadAll 44 _ rfl rfl g6 _ (cellsI (G 0)) _ Try.underlying44 rfl 200 Try.size_formation rfl K5 (HLN.out 0) ?_)
    refine ⟨?_⟩
    go_wp2_with fail
    go_at_call 56
    refine (HT.out 0 w5).mono ?_
    rintro e w6 ⟨rfl, b6⟩
    have B6 : Hid (Below w.heap.size w w6) := Lib.hid (B5.out.trans (b6.mono B5.out.size))
    have K6 : Hid (Blk w6 g6 44 (cellsI (G 0))) := Lib.hid (K5.out.below b6 K5.out.lt)
    clear b6 B5 K5
    go_wp2_with (refine wpList_new 44 rfl rfl _ _ Try.info_formation ?_; intro w7 g8 G7 K7 L7)
    refine ⟨?_⟩
    have B7 : Hid (Below w.heap.size w w7) := Lib.hid (B6.out.trans (L7.out.mono B6.out.size))
    have g8l : Hid (w.heap.size ≤ g8) := Lib.hid (by have := G7.out; have := B6.out.size; omega)
    have g68 : Hid (g6 ≠ g8) := Lib.hid (by have := G7.out; have := K6.out.lt; omega)
    have K6' : Hid (Blk w7 g6 44 (cellsI (G 0))) := Lib.hid (K6.out.below L7.out K6.out.lt)
    go_wp2_with (refine wpList_storeAll 44 _ _ rfl rfl g8 _ (cellsI zeros) (cellsI (G 1)) 200 Try.size_formation rfl rfl K7 (HLN.out 1) (by rw [length_cellsI, length_zeros]) (cellsI_one _) ?_; intro w8 K8 L8)
    refine ⟨?_⟩
    have B8 : Hid (Below w.heap.size w w8) := Lib.hid (grownBy_below B7.out L8.out (Nat.le_refl _) g8l.out)
    have K68 : Hid (Blk w8 g6 44 (cellsI (G 0))) := Lib.hid (K6'.out.grown L8.out (fun e => g68.out (Option.some.inj e).symm))
    clear B6 B7 K6 K6' K7 L7 L8 G7
    go_wp2
    go_loopw [7, 8] (fun ti p wr => ∃ t g : Nat, 1 ≤ t ∧ t ≤ o ∧ ti = .int .i64 (t : Int) ∧ p = .pointer (some ⟨g, 0, none⟩) ∧ Hid (Blk wr g 44 (cellsI (G t))) ∧ Hid (Blk wr g6 44 (cellsI (G 0))) ∧ Hid (g6 ≠ g ∧ w.heap.size ≤ g) ∧ Hid (Below w.heap.size w wr)) (fun ti _ _ => o - (intOf ti).toNat)
    case atStart => exact ⟨1, g8, Nat.le_refl _, o1, rfl, rfl, K8, K68, Lib.hid ⟨g68.out, g8l.out⟩, B8⟩
    case round =>
      obtain ⟨t, g, ht1, hto, rfl, rfl, HK, H6, HN, HB⟩ := hrel
      go_wp2_with (refine wpList_loadAll 44 _ rfl rfl g _ (cellsI (G t)) _ Try.underlying44 rfl 200 Try.size_formation rfl HK (HLN.out t) ?_)
      refine ⟨?_⟩
      go_wp2_with (refine wpList_loadAll 44 _ rfl rfl g6 _ (cellsI (G 0)) _ Try.underlying44 rfl 200 Try.size_formation rfl H6 (HLN.out 0) ?_)
      refine ⟨?_⟩
      obtain ⟨i0, hi, hz0, hz1, hz2⟩ := info_parts Try.info_int
      by_cases hlt : t < o
      · go_wp2_with (refine wpList_neqArr 44 _ _ _ rfl rfl 200 3 i0 Try.underlying44 hi Try.plain_int _ Try.underlying3 Try.cells_int Try.eqGuard_formation (G t) (G 0) rfl rfl (HLZ.out t) (HLZ.out 0) false (HEQ.out t ht1 hlt) ?_)
        refine ⟨?_⟩
        clear hi hz0 hz1 hz2
        go_wp2_with (refine wpList_loadAll 44 _ rfl rfl g _ (cellsI (G t)) _ Try.underlying44 rfl 200 Try.size_formation rfl HK (HLN.out t) ?_)
        refine ⟨?_⟩
        go_wp2_with (refine wpList_new 44 rfl rfl _ _ Try.info_formation ?_; intro w9 g9 G9 K9 L9)
        refine ⟨?_⟩
        have B9 : Hid (Below w.heap.size w w9) := Lib.hid (HB.out.trans (L9.out.mono HB.out.size))
        have g9l : Hid (w.heap.size ≤ g9) := Lib.hid (by have := G9.out; have := HB.out.size; omega)
        have g69 : Hid (g6 ≠ g9) := Lib.hid (by have := G9.out; have := H6.out.lt; omega)
        have H69 : Hid (Blk w9 g6 44 (cellsI (G 0))) := Lib.hid (H6.out.below L9.out H6.out.lt)
        go_wp2_with (refine wpList_storeAll 44 _ _ rfl rfl g9 _ (cellsI zeros) (cellsI (G t)) 200 Try.size_formation rfl rfl K9 (HLN.out t) (by rw [length_cellsI, length_zeros]) (cellsI_one _) ?_; intro wa Ka La)
        refine ⟨?_⟩
        have Ba : Hid (Below w.heap.size w wa) := Lib.hid (grownBy_below B9.out La.out (Nat.le_refl _) g9l.out)
        have H6a : Hid (Blk wa g6 44 (cellsI (G 0))) := Lib.hid (H69.out.grown La.out (fun e => g69.out (Option.some.inj e).symm))
        clear B9 H69 K9 La L9 G9 HK H6 HB
        go_wp2_with (refine wpList_loadAll 44 _ rfl rfl g9 _ (cellsI (G t)) _ Try.underlying44 rfl 200 Try.size_formation rfl Ka (HLN.out t) ?_)
        refine ⟨?_⟩
        go_wp2_with fail
        go_at_call 56
        refine (HT.out t wa).mono ?_
        rintro e wb ⟨rfl, bb⟩
        have Bb : Hid (Below w.heap.size w wb) := Lib.hid (Ba.out.trans (bb.mono Ba.out.size))
        have H6b : Hid (Blk wb g6 44 (cellsI (G 0))) := Lib.hid (H6a.out.below bb H6a.out.lt)
        have Kb : Hid (Blk wb g9 44 (cellsI (G t))) := Lib.hid (Ka.out.below bb Ka.out.lt)
        clear bb Ba H6a Ka
        go_wp2_with (refine wpList_storeAll 44 _ _ rfl rfl g9 _ (cellsI (G t)) (cellsI (G (t + 1))) 200 Try.size_formation rfl rfl Kb (HLN.out (t + 1)) (HLN.out t) (cellsI_one _) ?_; intro wc Kc Lc)
        refine ⟨?_⟩
        have Bc : Hid (Below w.heap.size w wc) := Lib.hid (grownBy_below Bb.out Lc.out (Nat.le_refl _) g9l.out)
        have H6c : Hid (Blk wc g6 44 (cellsI (G 0))) := Lib.hid (H6b.out.grown Lc.out (fun e => g69.out (Option.some.inj e).symm))
        clear Bb H6b Kb Lc
        go_wp2
        go_roundw
        case rel => exact ⟨t + 1, g9, by omega, by omega, by go_num, rfl, Kc, H6c, Lib.hid ⟨g69.out, g9l.out⟩, Bc⟩
        case measure => simp [intOf]; omega
      · obtain rfl : t = o := by omega
        go_wp2_with (refine wpList_neqArr 44 _ _ _ rfl rfl 200 3 i0 Try.underlying44 hi Try.plain_int _ Try.underlying3 Try.cells_int Try.eqGuard_formation (G t) (G 0) rfl rfl (HLZ.out t) (HLZ.out 0) true HEE.out ?_)
        refine ⟨?_⟩
        clear hi hz0 hz1 hz2
        go_wp2
        go_ret2
        exact ⟨by rw [H0.out.1, H0.out.2]; exact rfl, HB.out⟩

end Go.Proofs.Ytbodomfdgjemhaa
