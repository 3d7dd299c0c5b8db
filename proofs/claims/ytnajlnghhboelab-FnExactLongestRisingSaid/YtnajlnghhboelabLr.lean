/- LongestRising: the model and the method. -/
import Derived.Test.YtnajlnghhboelabCf
import Derived.Test.YtnajlnghhboelabAny
import Derived.Test.YtnajlnghhboelabAppD
namespace Go.Proofs.Ytnajlnghhboelab
open Go.ChangeShapes Go.WideShapes Go.ChangeAt Go.RowKit

def riseL (hs : List Nat) : List Nat := (He.takeTo hs (He.ch He.up hs) (He.mostTo (He.ch He.up hs) hs.length) hs.length).1
def risingL (hs : List Nat) : List Int := asInts (riseL hs)
theorem length_risingL (hs : List Nat) (h : hs.length ≤ 40) : (risingL hs).length ≤ 1048576 := by
  unfold risingL riseL
  rw [asInts_len]
  have := He.takeTo_len hs (He.ch He.up hs) (He.mostTo (He.ch He.up hs) hs.length) hs.length
  omega
theorem maxTo_most2 (l : List Nat) : ∀ m, maxTo (asInts l) m = (He.mostTo l (m + 1) : Nat)
  | 0 => by rw [maxTo, He.mostTo, He.mostTo, getD_asInts]; omega
  | m + 1 => by rw [maxTo, He.mostTo, maxTo_most2 l m, getD_asInts]; omega
theorem most_ch_le (hs : List Nat) : ∀ j, He.mostTo (He.ch He.up hs) j ≤ hs.length
  | 0 => Nat.zero_le _
  | j + 1 => by have := most_ch_le hs j; have := (He.ch_bd He.up hs j).1; rw [He.mostTo]; omega

set_option maxHeartbeats 4000000 in
theorem specRisingIn (w : World) (a : Option Addr) (len cap : Nat) (hs : List Nat) (h1 : 1 ≤ hs.length) (h2 : hs.length ≤ 40) (h3 : ∀ x ∈ hs, 1 ≤ x ∧ x ≤ 100) (hg : goodH (asInts hs) = true) (hc : Came w a len (asInts hs)) :
    Calls Try.prog 17 #[.slice a len cap] w fun e w' => ∃ v0, e = .returned (.tuple #[v0, .bool true]) ∧ Own w' w.heap.size v0 (risingL hs) ∧ Below w.heap.size w w' := by
  have hlen : len = hs.length := by rw [← asInts_len]; exact hc.1.symm
  have HG := Lib.hid (heGood_any w a len cap (asInts hs) (by omega) hc)
  rw [hg] at HG
  have HZL := Lib.hid hlen
  have HC := Lib.hid hc
  have H3 := Lib.hid h3
  rw [← hlen] at h1 h2
  have HR := Lib.hid (heRising_any w a len cap hs h1 h2 hc)
  obtain ⟨cs, hcs⟩ : ∃ cs, cs = He.ch He.up hs := ⟨_, rfl⟩
  have HCS := Lib.hid hcs
  have HL1 : Hid (cs.length = len) := Lib.hid (by rw [hcs, He.length_ch]; exact hlen.symm)
  rw [← hcs] at HR
  obtain ⟨bb, ob, rfl, _⟩ := hc.2 (by omega)
  clear hc hlen hg h3 hcs
  go_enter Try.func17, Try.ntmps17
  go_wp2_with fail
  go_at_call 28
  refine HG.out.mono ?_
  rintro e w' ⟨rfl, rfl⟩
  go_wp2_with fail
  go_at_call 33
  refine HR.out.mono ?_
  rintro e w1 ⟨v1, rfl, o1, b1⟩
  obtain ⟨g1, c1, rfl, hg1, _⟩ := o1.point (by rw [asInts_len, HL1.out]; omega)
  rw [asInts_len, HL1.out] at o1 ⊢
  have O1 := Lib.hid o1
  have B1 := Lib.hid b1
  clear o1 b1
  have hmle : ∀ j, He.mostTo cs j ≤ 40 := fun j => by rw [HCS.out]; have := most_ch_le hs j; have := HZL.out; omega
  have HML := Lib.hid hmle
  clear hmle
  go_wp2
  go_loop [5, 18] (fun m i => ∃ k : Nat, k ≤ len ∧ i = .int .i64 (k : Int) ∧ m = .int .i64 (He.mostTo cs k : Nat)) (fun _ i => len - (intOf i).toNat)
  case atStart => exact ⟨0, Nat.zero_le _, rfl, rfl⟩
  case round =>
    obtain ⟨k, hk, rfl, rfl⟩ := hrel
    by_cases hlt : k < len
    · have e1 := O1.out.cell (by rw [asInts_len]; exact HL1.out.symm) k (by rw [asInts_len, HL1.out]; exact hlt)
      rw [getD_asInts] at e1
      have HS : Hid (He.mostTo cs (k + 1) = max (He.mostTo cs k) (cs.getD k 0)) := rfl
      obtain ⟨y, hy⟩ : ∃ y, y = cs.getD k 0 := ⟨_, rfl⟩
      obtain ⟨m, hm⟩ : ∃ m, m = He.mostTo cs k := ⟨_, rfl⟩
      rw [← hy] at e1 HS
      rw [← hm] at HS ⊢
      clear hy hm
      go_wp2_with (go_at_call 30; refine (l1Most_q _ _ _).mono ?_; rintro e w' ⟨rfl, rfl⟩)
      go_round
      case rel => exact ⟨k + 1, by omega, by go_num, int_eq (by rw [HS.out]; omega)⟩
      case measure => simp [intOf]; omega
    · obtain rfl : k = len := by omega
      have hl0 := HML.out k
      obtain ⟨l0, hl⟩ : ∃ m, m = He.mostTo cs k := ⟨_, rfl⟩
      have HL0 := Lib.hid hl
      have HRL : Hid (risingL hs = asInts (He.takeTo hs cs l0 k).1) := Lib.hid (by unfold risingL riseL; rw [← HCS.out, ← HZL.out, ← HL0.out])
      rw [← hl] at hl0 ⊢
      clear hl hlt hk
      go_wp2
      go_loopw [5, 8, 28] (fun lf v i wr => ∃ j : Nat, j ≤ k ∧ i = .int .i64 (j : Int) ∧ lf = .int .i64 ((He.takeTo hs cs l0 j).2.2 : Nat) ∧ Own wr w1.heap.size v (asInts (He.takeTo hs cs l0 j).1) ∧ Below w1.heap.size w1 wr) (fun _ _ i _ => k - (intOf i).toNat)
      case atStart => exact ⟨0, Nat.zero_le _, rfl, rfl, own_nil _ _, Below.refl _ _⟩
      case round =>
        obtain ⟨j, hj, rfl, rfl, ho, hb⟩ := hrel
        have hz := hb.size
        have HO := Lib.hid ho
        have HB := Lib.hid hb
        have hleft := He.takeTo_left hs cs l0 j
        have hlen2 := He.takeTo_len hs cs l0 j
        by_cases hlt : j < k
        · have hcr := (HC.out.below B1.out).below (hb.mono (by omega))
          obtain ⟨b', off', hbo, hcell⟩ := hcr.2 (by omega)
          cases hbo
          have e1 := hcell j hlt
          rw [getD_asInts] at e1
          have e2 := (O1.out.below hb (Nat.le_refl _)).cell (by rw [asInts_len]; exact HL1.out.symm) j (by rw [asInts_len, HL1.out]; exact hlt)
          rw [getD_asInts] at e2
          obtain ⟨p, q, hpq⟩ : ∃ p q, (He.takeTo hs cs l0 j).1 = p ∧ (He.takeTo hs cs l0 j).2.2 = q := ⟨_, _, rfl, rfl⟩
          have hlast := He.takeTo_last hs cs l0 j
          have hltp := He.takeTo_lt hs cs l0 j
          have HYES := Lib.hid (He.takeTo_yes hs cs l0 j)
          have HNO := Lib.hid (He.takeTo_no hs cs l0 j)
          obtain ⟨r, hr⟩ : ∃ r, r = (He.takeTo hs cs l0 j).2.1 := ⟨_, rfl⟩
          rw [hpq.1, ← hr] at hlast
          rw [hpq.1] at ho hlen2 hltp
          rw [hpq.2] at hleft ⊢
          have HYES : Hid (cs.getD j 0 = q → r < hs.getD j 0 → He.takeTo hs cs l0 (j + 1) = (p ++ [j], hs.getD j 0, q - 1)) := Lib.hid (fun a b => by
            rw [HYES.out (by rw [hpq.2, ← hr]; exact ⟨a, b⟩), hpq.1, hpq.2])
          have HNO1 : Hid (¬ (cs.getD j 0 = q ∧ r < hs.getD j 0) → (He.takeTo hs cs l0 (j + 1)).1 = p) := Lib.hid (fun a => by rw [HNO.out (by rw [hpq.2, ← hr]; exact a), hpq.1])
          have HNO2 : Hid (¬ (cs.getD j 0 = q ∧ r < hs.getD j 0) → (He.takeTo hs cs l0 (j + 1)).2.2 = q) := Lib.hid (fun a => by rw [HNO.out (by rw [hpq.2, ← hr]; exact a), hpq.2])
          have hcp : 1 ≤ cs.getD j 0 := by rw [HCS.out]; exact (He.ch_bd He.up hs j).2 (by have := HZL.out; omega)
          have HO := Lib.hid ho
          have HLA := Lib.hid hlast
          have HLP := Lib.hid hltp
          have HHS := Lib.hid (rfl : hs.getD j 0 = hs.getD j 0)
          clear hpq hr HNO hlast hltp
          obtain ⟨x, hx⟩ : ∃ x, x = cs.getD j 0 := ⟨_, rfl⟩
          obtain ⟨y, hy⟩ : ∃ y, y = hs.getD j 0 := ⟨_, rfl⟩
          rw [← hx] at e2 hcp HYES HNO1 HNO2
          rw [← hy] at e1 HYES HNO1 HNO2
          clear hx ho hb hcr HHS
          by_cases hxq : x = q
          · subst hxq
            have hx0 : decide (0 < x) = true := by simp; omega
            by_cases hpl : p.length = 0
            · have hr0 : r = 0 := by rw [HLA.out, if_pos hpl]
              obtain rfl : p = [] := List.eq_nil_of_length_eq_zero hpl
              obtain ⟨ao, cap', rfl⟩ := HO.out.any
              have hy1 : r < y := by rw [hr0, hy]; exact (H3.out _ (getD_mem0 (by have := HZL.out; omega))).1
              have HA2 := Lib.hid (HYES.out rfl hy1)
              have HR1 : Hid (asInts (He.takeTo hs cs l0 (j + 1)).1 = [] ++ [(j : Int)]) := Lib.hid (by rw [HA2.out]; rfl)
              have HR2 : Hid ((He.takeTo hs cs l0 (j + 1)).2.2 = x - 1) := Lib.hid (by rw [HA2.out])
              have HO5 : Hid (Own wr w1.heap.size (.slice ao 0 cap') []) := Lib.hid HO.out
              have hq0 : (asInts ([] : List Nat)).length = 0 := rfl
              rw [hq0]
              clear hr0 hy1 hy hpl HA2 HYES HNO1 HNO2 HLA HLP hq0
              go_wp2_with fail
              go_quiet (fail)
              go_wp2_with (at_builtin; refine wpList_appD rfl _ _ rfl _ _ _ _ _ _ rfl rfl HO5.out hz (by simp) ?_; intro v' w4 hO hB4)
              have HO4 : Hid (Own w4 w1.heap.size v' (asInts (He.takeTo hs cs l0 (j + 1)).1)) := Lib.hid (by rw [HR1.out]; exact hO)
              have HB4 : Hid (Below w1.heap.size w1 w4) := Lib.hid (HB.out.trans hB4)
              clear hO hB4
              go_wp2
              go_roundw
              case rel => exact ⟨j + 1, by omega, by go_num, int_eq (by rw [HR2.out]; omega), HO4.out, HB4.out⟩
              case measure => simp [intOf]; omega
            · obtain ⟨m, hm⟩ : ∃ m, p.length = m + 1 := ⟨p.length - 1, by omega⟩
              obtain ⟨g3, c3, rfl, hg3, _⟩ := HO.out.point (by rw [asInts_len]; omega)
              have hq0 : (asInts p).length = m + 1 := by rw [asInts_len]; exact hm
              have e3 := HO.out.cell rfl m (by omega)
              rw [getD_asInts] at e3
              have HQ0 := Lib.hid hq0
              have hz3 := HLP.out (p.getD m 0) (getD_mem0 (by omega))
              have e4 := hcell (p.getD m 0) (by omega)
              rw [getD_asInts] at e4
              have HRZ : Hid (hs.getD (p.getD m 0) 0 = r) := Lib.hid (by rw [HLA.out, if_neg hpl, hm]; rfl)
              rw [HRZ.out] at e4
              rw [hq0] at HO ⊢
              obtain ⟨z, hzz⟩ : ∃ z, z = p.getD m 0 := ⟨_, rfl⟩
              rw [← hzz] at e3 e4 hz3
              have i1 : (0 : Int) ≤ (z : Int) := by omega
              have i2 : (z : Int) < (k : Int) := by omega
              have hm1 : ((m : Int) + 1 == 0) = false := by rw [beq_eq_false_iff_ne]; omega
              have i3 : (0 : Int) ≤ (m : Int) := by omega
              have i4 : (m : Int) ≤ 1000 := by omega
              have i5 : (m : Int) < (m : Int) + 1 := by omega
              by_cases hry : r < y
              · have hbl : (asInts p).length ≤ 1000000000 := by rw [hq0]; omega
                have HA2 := Lib.hid (HYES.out rfl hry)
                have HR1 : Hid (asInts (He.takeTo hs cs l0 (j + 1)).1 = asInts p ++ [(j : Int)]) := Lib.hid (by rw [HA2.out]; unfold asInts; rw [List.map_append]; rfl)
                have HR2 : Hid ((He.takeTo hs cs l0 (j + 1)).2.2 = x - 1) := Lib.hid (by rw [HA2.out])
                clear hzz hq0 hm hpl hy HLA HLP HYES HNO1 HNO2 hcell HA2
                go_wp2_with fail
                go_quiet (fail)
                go_wp2_with (at_builtin; refine wpList_appD rfl _ _ rfl _ _ _ _ _ _ rfl rfl HO.out hz hbl ?_; intro v' w4 hO hB4)
                have HO4 : Hid (Own w4 w1.heap.size v' (asInts (He.takeTo hs cs l0 (j + 1)).1)) := Lib.hid (by rw [HR1.out]; exact hO)
                have HB4 : Hid (Below w1.heap.size w1 w4) := Lib.hid (HB.out.trans hB4)
                clear hO hB4
                go_wp2
                go_roundw
                case rel => exact ⟨j + 1, by omega, by go_num, int_eq (by rw [HR2.out]; omega), HO4.out, HB4.out⟩
                case measure => simp [intOf]; omega
              · have HR1 := Lib.hid (HNO1.out (fun h => hry h.2))
                have HR2 := Lib.hid (HNO2.out (fun h => hry h.2))
                clear hzz hq0 hm hpl hy HLA HLP HYES HNO1 HNO2 hcell
                go_wp2_with fail
                go_quiet (fail)
                go_wp2
                go_roundw
                case rel => exact ⟨j + 1, by omega, by go_num, int_eq (by rw [HR2.out]), by rw [HR1.out]; exact HO.out, ⟨HB.out.os, HB.out.tape, HB.out.output, HB.out.size, HB.out.block⟩⟩
                case measure => simp [intOf]; omega
          · have hxq1 : (x == q) = false := by rw [beq_eq_false_iff_ne]; exact hxq
            have hxq2 : ((x : Int) == (q : Int)) = false := by rw [beq_eq_false_iff_ne]; omega
            have HR1 := Lib.hid (HNO1.out (fun h => hxq h.1))
            have HR2 := Lib.hid (HNO2.out (fun h => hxq h.1))
            clear hy HLA HLP HYES HNO1 HNO2 hcell
            go_wp2_with fail
            go_quiet (fail)
            go_wp2
            go_roundw
            case rel => exact ⟨j + 1, by omega, by go_num, int_eq (by rw [HR2.out]), by rw [HR1.out]; exact HO.out, ⟨HB.out.os, HB.out.tape, HB.out.output, HB.out.size, HB.out.block⟩⟩
            case measure => simp [intOf]; omega
        · obtain rfl : j = k := by omega
          have HO2 := Lib.hid (ho.mono B1.out.size)
          rw [← HRL.out] at HO2
          have HB2 : Hid (Below w.heap.size w wr) := Lib.hid (B1.out.trans (hb.mono B1.out.size))
          clear ho hb HO HB
          go_wp2
          go_ret2
          exact ⟨_, rfl, HO2.out, HB2.out⟩

theorem came_nums {w : World} {g : Nat} {t : TypeId} {l : List Nat} (h : Blk w g t (nums (He.pad l))) (hl : l.length ≤ 40) : Came w (some ⟨g, 0, none⟩) l.length (asInts l) :=
  ⟨asInts_len l, fun _ => ⟨g, 0, rfl, fun j hj => by rw [Nat.zero_add, getD_asInts, ← He.getD_pad]; exact h.num j (by rw [He.length_pad _ hl]; omega)⟩⟩
set_option maxHeartbeats 4000000 in
theorem longestRising_any (w : World) (hs : List Nat) (h1 : 1 ≤ hs.length) (h2 : hs.length ≤ 40) :
    Calls Try.prog 35 #[.agg (hc hs).toArray] w fun e w' => ∃ v0, e = .returned v0 ∧ Own w' w.heap.size v0 (risingL hs) ∧ Below w.heap.size w w' := by
  obtain ⟨len, hlen⟩ : ∃ n, n = hs.length := ⟨_, rfl⟩
  have HZL := Lib.hid hlen
  have HCU := Lib.hid (fun w2 => chains_up w2 hs h1 h2)
  have HLC := Lib.hid (length_hc hs h2)
  obtain ⟨cs, hcs⟩ : ∃ cs, cs = He.ch He.up hs := ⟨_, rfl⟩
  have HCS := Lib.hid hcs
  have HCL : Hid (cs.length = len) := Lib.hid (by rw [hcs, He.length_ch]; exact hlen.symm)
  rw [← hcs] at HCU
  rw [← hlen] at h1 h2
  have HPL : Hid ((He.pad cs).length = 40) := Lib.hid (He.length_pad _ (by have := HCL.out; omega))
  have hml : ∀ j, He.mostTo cs j ≤ 40 := fun j => by rw [hcs]; have := most_ch_le hs j; omega
  have HML := Lib.hid hml
  clear hlen hcs hml
  go_enter Try.func35, Try.ntmps35
  go_wp2_with (refine wpList_box 47 _ rfl rfl (hc hs) rfl ?_; intro w1 g G1 B1 L1)
  refine ⟨?_⟩
  go_wp2_with (refine wpList_loadAll 47 _ rfl rfl g _ (hc hs) _ Try.underlying47 rfl 41 Try.size_heights rfl B1 HLC.out ?_)
  refine ⟨?_⟩
  go_wp2_with fail
  go_at_call 50
  refine (HCU.out _).mono ?_
  rintro e w2 ⟨rfl, b2⟩
  have L2 := Lib.hid b2
  have BG2 := Lib.hid (B1.out.below b2 B1.out.lt)
  clear b2
  go_wp2_with (refine wpList_new 45 rfl rfl _ _ Try.info_arr ?_; intro w3 c G3 C3 L3)
  refine ⟨?_⟩
  have BG3 := Lib.hid (BG2.out.below L3.out BG2.out.lt)
  go_wp2_with (refine wpList_storeAll 45 _ _ rfl rfl c _ (nums (List.replicate 40 0)) (nums (He.pad cs)) 40 Try.size_arr rfl rfl C3 (by rw [length_nums]; exact HPL.out) (by rw [length_nums]; simp) (nums_one _) ?_; intro w4 C4 L4)
  refine ⟨?_⟩
  have BG4 : Hid (Blk w4 g 47 (hc hs)) := Lib.hid (BG3.out.grown L4.out (by have := G3.out; have := BG2.out.lt; simp; omega))
  have LA : Hid (Below w.heap.size w w4) := Lib.hid (grownBy_below ((L1.out.trans (L2.out.mono L1.out.size)).trans (L3.out.mono (by have := L1.out.size; have := L2.out.size; omega))) L4.out (Nat.le_refl _) (by have := L1.out.size; have := L2.out.size; have := G3.out; omega))
  have ec := BG4.out.count (by have := HZL.out; omega)
  rw [← HZL.out] at ec
  clear B1 BG2 BG3 C3 L1 L2 L3 L4 G1 G3 HCU
  have i1 : (0 : Int) ≤ (len : Int) := by omega
  have i2 : (len : Int) ≤ 40 := by omega
  have HMX := Lib.hid (max_any w4 (some ⟨c, 0, none⟩) len 40 (asInts cs) (by omega) (by omega) (by have := came_nums C4.out (by have := HCL.out; omega); rw [HCL.out] at this; exact this))
  rw [maxTo_most2, show len - 1 + 1 = len from by omega] at HMX
  have hl0 := HML.out len
  obtain ⟨l0, hl⟩ : ∃ m, m = He.mostTo cs len := ⟨_, rfl⟩
  have HL0 := Lib.hid hl
  have HRL : Hid (risingL hs = asInts (He.takeTo hs cs l0 len).1) := Lib.hid (by unfold risingL riseL; rw [← HCS.out, ← HZL.out, ← HL0.out])
  rw [← hl] at hl0 HMX
  clear hl
  go_wp2_with fail
  go_at_call 52
  refine HMX.out.mono ?_
  rintro e w' ⟨rfl, rfl⟩
  clear HMX
  go_wp2
  clear ec
  go_loopw [4, 5, 6, 16] (fun lf v la i wr => ∃ j : Nat, j ≤ len ∧ i = .int .i64 (j : Int) ∧ lf = .int .i64 ((He.takeTo hs cs l0 j).2.2 : Nat) ∧ la = .int .i64 ((He.takeTo hs cs l0 j).2.1 : Nat) ∧ Own wr w4.heap.size v (asInts (He.takeTo hs cs l0 j).1) ∧ Below w4.heap.size w4 wr) (fun _ _ _ i _ => len - (intOf i).toNat)
  case atStart => exact ⟨0, Nat.zero_le _, rfl, rfl, rfl, own_nil _ _, Below.refl _ _⟩
  case round =>
    obtain ⟨j, hj, rfl, rfl, rfl, ho, hb⟩ := hrel
    have hz := hb.size
    have HB := Lib.hid hb
    have HG5 := Lib.hid (BG4.out.below hb BG4.out.lt)
    have HC5 := Lib.hid (C4.out.below hb C4.out.lt)
    have hleft := He.takeTo_left hs cs l0 j
    have hlen2 := He.takeTo_len hs cs l0 j
    have ec := HG5.out.count (by have := HZL.out; omega)
    rw [← HZL.out] at ec
    by_cases hlt : j < len
    · have e1 := HC5.out.num j (by rw [HPL.out]; omega)
      rw [He.getD_pad] at e1
      have e2 := HG5.out.tall (by have := HZL.out; omega) j (by omega)
      have HYES := Lib.hid (He.takeTo_yes hs cs l0 j)
      have HNO := Lib.hid (He.takeTo_no hs cs l0 j)
      have hbl : (asInts (He.takeTo hs cs l0 j).1).length ≤ 1000000000 := by rw [asInts_len]; omega
      have hlq : (He.takeTo hs cs l0 j).2.2 ≤ 40 := by omega
      obtain ⟨p, r, q, hpq⟩ : ∃ p r q, He.takeTo hs cs l0 j = (p, r, q) := ⟨_, _, _, rfl⟩
      rw [hpq] at ho hlq hbl HYES HNO ⊢
      simp only [] at ho hlq hbl HYES HNO ⊢
      have HO := Lib.hid ho
      have i3 : (0 : Int) ≤ (j : Int) := by omega
      have i4 : (j : Int) < 40 := by omega
      obtain ⟨x, hx⟩ : ∃ x, x = cs.getD j 0 := ⟨_, rfl⟩
      obtain ⟨y, hy⟩ : ∃ y, y = hs.getD j 0 := ⟨_, rfl⟩
      have hcp : 1 ≤ x := by rw [hx, HCS.out]; exact (He.ch_bd He.up hs j).2 (by have := HZL.out; omega)
      rw [← hx] at e1 HYES HNO
      rw [← hy] at e2 HYES HNO
      clear hpq ho hb hx hy hleft hlen2
      by_cases hxq : x = q
      · subst hxq
        by_cases hry : r < y
        · have HA2 := Lib.hid (HYES.out ⟨rfl, hry⟩)
          have HR1 : Hid (asInts (He.takeTo hs cs l0 (j + 1)).1 = asInts p ++ [(j : Int)]) := Lib.hid (by rw [HA2.out]; unfold asInts; rw [List.map_append]; rfl)
          have HR2 : Hid ((He.takeTo hs cs l0 (j + 1)).2.2 = x - 1) := Lib.hid (by rw [HA2.out])
          have HR3 : Hid ((He.takeTo hs cs l0 (j + 1)).2.1 = y) := Lib.hid (by rw [HA2.out])
          have HY : Hid (hs.getD j 0 = y) := Lib.hid (by have := HG5.out.tall (by have := HZL.out; omega) j (by omega); rw [e2] at this; injection this with this; injection this with _ this; omega)
          clear HYES HNO HA2
          go_wp2_with (at_builtin; refine wpList_app rfl _ _ rfl _ _ _ _ _ rfl rfl HO.out hz hbl ?_; intro v' w5 hO hB5; have e3 := (HG5.out.below hB5 (Nat.lt_of_lt_of_le BG4.out.lt (Nat.le_refl _))).tall (by have := HZL.out; omega) j (by omega); rw [HY.out] at e3)
          have HO5 : Hid (Own w5 w4.heap.size v' (asInts (He.takeTo hs cs l0 (j + 1)).1)) := Lib.hid (by rw [HR1.out]; exact hO)
          have HB5 : Hid (Below w4.heap.size w4 w5) := Lib.hid (HB.out.trans hB5)
          clear hO hB5
          go_wp2
          go_roundw
          case rel => exact ⟨j + 1, by omega, by go_num, int_eq (by rw [HR2.out]; omega), int_eq (by rw [HR3.out]), HO5.out, HB5.out⟩
          case measure => simp [intOf]; omega
        · have HA2 := Lib.hid (HNO.out (fun h => hry h.2))
          clear HYES HNO
          go_wp2
          go_roundw
          case rel => exact ⟨j + 1, by omega, by go_num, int_eq (by rw [HA2.out]), int_eq (by rw [HA2.out]), by rw [HA2.out]; exact HO.out, HB.out⟩
          case measure => simp [intOf]; omega
      · have HA2 := Lib.hid (HNO.out (fun h => hxq h.1))
        clear HYES HNO
        have hxq1 : (x == q) = false := by rw [beq_eq_false_iff_ne]; exact hxq
        have hxq2 : ((x : Int) == (q : Int)) = false := by rw [beq_eq_false_iff_ne]; omega
        go_wp2
        go_roundw
        case rel => exact ⟨j + 1, by omega, by go_num, int_eq (by rw [HA2.out]), int_eq (by rw [HA2.out]), by rw [HA2.out]; exact HO.out, HB.out⟩
        case measure => simp [intOf]; omega
    · obtain rfl : j = len := by omega
      have HO2 := Lib.hid (ho.mono LA.out.size)
      rw [← HRL.out] at HO2
      have HB2 : Hid (Below w.heap.size w wr) := Lib.hid (LA.out.trans (hb.mono LA.out.size))
      clear ho hb HB
      go_wp2
      go_ret
      exact ⟨_, rfl, HO2.out, HB2.out⟩

end Go.Proofs.Ytnajlnghhboelab
