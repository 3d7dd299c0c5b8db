/- Chapter 3, columns: the model's foLeast, and what is told with it. -/
import Derived.Test.YthnbimfdodfhoaaFoE
namespace Go.Proofs.Ythnbimfdodfhoaa
open Go.ChangeShapes Go.WideShapes Go.ChangeAt Go.RowKit
open Fo

/-- what foLeast returns -/
def leastA (cs ls : List Nat) (k : Nat) : Nat := match leastO cs ls k with | some n => n | none => 0
def leastS (cs ls : List Nat) (k : Nat) : Nat := match leastO cs ls k with | some _ => lcmTo cs k | none => 0
theorem lcm_small {cs : List Nat} (h : ∀ i, cs.getD i 1 ≤ 1000) {k : Nat} (hk : k ≤ 5) : lcmTo cs k ≤ 1000000000000000 :=
  Nat.le_trans (lcmTo_le h k) (Nat.le_trans (Nat.pow_le_pow_right (by omega) hk) (by decide))
theorem lcm_six {cs : List Nat} (h : ∀ i, cs.getD i 1 ≤ 1000) {k : Nat} (hk : k ≤ 6) : lcmTo cs k ≤ 1000000000000000000 :=
  Nat.le_trans (lcmTo_le h k) (Nat.le_trans (Nat.pow_le_pow_right (by omega) hk) (by decide))

set_option maxHeartbeats 2000000 in
theorem foLeast_any (w : World) (a : Option Addr) (len cap : Nat) (cs : List Nat) (a2 : Option Addr) (cap2 : Nat) (l2 : List Nat) (h1 : 1 ≤ len) (h6 : len ≤ 6) (hcol : ∀ i, 1 ≤ cs.getD i 1 ∧ cs.getD i 1 ≤ 1000) (hlb : ∀ i, l2.getD i 0 ≤ 1000) (hc : Came w a len (asInts cs)) (hc2 : Came w a2 len (asInts l2)) :
    Calls Try.prog 52 #[.slice a len cap, .slice a2 len cap2] w fun e w' => e = .returned (.tuple #[.int .i64 (leastA cs l2 len : Nat), .int .i64 (leastS cs l2 len : Nat), .bool (leastO cs l2 len).isSome]) ∧ Below w.heap.size w w' := by
  have HL : Hid (cs.length = len) := Lib.hid (by rw [← asInts_len]; exact hc.1)
  have HC := Lib.hid hc
  have HC2 := Lib.hid hc2
  have HCOL := Lib.hid hcol
  have HLB := Lib.hid hlb
  obtain ⟨b, off, rfl, hx1⟩ := hc.2 (by omega)
  obtain ⟨b2, off2, rfl, hx2⟩ := hc2.2 (by omega)
  clear hc hc2 hcol hlb hx1 hx2
  go_enter Try.func52, Try.ntmps52
  go_wp2
  go_loopw [7, 8, 15] (fun nv sv i wr => ∃ j n s : Nat, j ≤ len ∧ i = .int .i64 (j : Int) ∧ nv = .int .i64 (n : Int) ∧ sv = .int .i64 (s : Int) ∧ n < s ∧ s ≤ 1000000000000000000 ∧ Hid (s = lcmTo cs j ∧ Least cs l2 j n) ∧ Hid (Below w.heap.size w wr)) (fun _ _ i _ => len - (intOf i).toNat)
  case atStart => exact ⟨0, 0, 1, Nat.zero_le _, rfl, rfl, rfl, by omega, by omega, Lib.hid ⟨rfl, least_zero _ _⟩, Below.refl _ _⟩
  case round =>
    obtain ⟨j, n0, s, hj, rfl, rfl, rfl, hns, hs18, HS, HB⟩ := hrel
    have hp : ∀ i, 1 ≤ cs.getD i 1 := fun i => (HCOL.out i).1
    have hle : ∀ i, cs.getD i 1 ≤ 1000 := fun i => (HCOL.out i).2
    have HP := Lib.hid hp
    have HLE := Lib.hid hle
    clear hp hle
    by_cases hlt : j < len
    · have e1 : wr.cell? ⟨b, off + j, none⟩ = some (.int .i64 ((cs.getD j 1 : Nat) : Int)) := by
        obtain ⟨b', off', hbo, hcell⟩ := (HC.out.below HB.out).2 (by omega)
        cases hbo
        have := hcell j hlt
        rw [getD_asInts, getD_in (by rw [HL.out]; exact hlt)] at this; exact this
      have HE2 : Hid (∀ w5, Below w.heap.size w w5 → w5.cell? ⟨b2, off2 + j, none⟩ = some (.int .i64 ((l2.getD j 0 : Nat) : Int))) := Lib.hid (fun w5 h5 => by
        obtain ⟨b', off', hbo, hcell⟩ := (HC2.out.below h5).2 (by omega)
        cases hbo
        have := hcell j hlt
        rw [getD_asInts] at this; exact this)
      have hcb := HCOL.out j
      have hlbb := HLB.out j
      have hs15 : s ≤ 1000000000000000 := by rw [HS.out.1]; exact lcm_small HLE.out (by omega)
      obtain ⟨c, hcc⟩ : ∃ c, c = cs.getD j 1 := ⟨_, rfl⟩
      obtain ⟨l, hll⟩ : ∃ c, c = l2.getD j 0 := ⟨_, rfl⟩
      rw [← hcc] at e1 hcb
      rw [← hll] at HE2 hlbb
      obtain ⟨hc1, hc2⟩ := hcb
      have HCC := Lib.hid hcc
      have HLL := Lib.hid hll
      have i1 : (0 : Int) ≤ (j : Int) := by omega
      have i2 : (j : Int) < (len : Int) := by omega
      have hc0 : ¬ c = 0 := by omega
      clear hcc hll
      obtain ⟨wo, rfl⟩ : ∃ wo : World, wo = wr := ⟨_, rfl⟩
      go_wp2
      go_loopw [7, 11, 12] (fun nv fv kv wr => ∃ q n : Nat, ∃ f : Bool, q ≤ c ∧ n ≤ s + q * s ∧ nv = .int .i64 (n : Int) ∧ fv = .bool f ∧ Hid (n = n0 + q * s) ∧ Hid (∀ i, i < q → (n0 + i * s) % c ≠ l) ∧ (kv = .int .i64 ((q : Int) + (if f then 1 else 0))) ∧ Hid (f = true → q < c ∧ n % c = l) ∧ Hid (Below w.heap.size w wr)) (fun _ _ kv _ => (c + 1) - (intOf kv).toNat)
      case atStart => exact ⟨0, n0, false, by omega, by omega, rfl, rfl, Lib.hid (by simp), Lib.hid (fun i h => absurd h (Nat.not_lt_zero _)), rfl, Lib.hid (fun h => by cases h), HB⟩
      case round =>
        obtain ⟨q, n, f, hq, hnq, rfl, rfl, HN, HNO, rfl, HF, HB2⟩ := hrel
        have hqs : q * s ≤ 1000 * 1000000000000000 := Nat.mul_le_mul (by omega) hs15
        have hn18 : n ≤ 1001000000000000000 := by omega
        clear hqs
        rcases f with _ | _
        · have ek : (q : Int) + (if false = true then 1 else 0) = (q : Int) := by simp
          rw [ek]
          clear ek
          by_cases hqc : q < c
          · have e2 := HE2.out wr HB2.out
            have em : (n : Int) % (c : Int) = ((n % c : Nat) : Int) := by simp
            obtain ⟨m, hm⟩ : ∃ m, m = n % c := ⟨_, rfl⟩
            rw [← hm] at em
            have HM := Lib.hid hm
            by_cases hml : m = l
            · have HF2 : Hid (q < c ∧ n % c = l) := Lib.hid ⟨hqc, by rw [← hm]; exact hml⟩
              subst hml
              clear hm
              go_wp2_with fail
              go_quiet (fail)
              go_wp2
              go_roundw
              case rel => exact ⟨q, n, true, hq, hnq, rfl, rfl, HN, HNO, rfl, Lib.hid (fun _ => HF2.out), ⟨HB2.out.os, HB2.out.tape, HB2.out.output, HB2.out.size, HB2.out.block⟩⟩
              case measure => simp [intOf]; omega
            · have HNO2 : Hid (∀ i, i < q + 1 → (n0 + i * s) % c ≠ l) := Lib.hid (fun i hi => by
                by_cases e : i = q
                · subst e; rw [← HN.out, ← hm]; exact hml
                · exact HNO.out i (by omega))
              have HN2 : Hid (n + s = n0 + (q + 1) * s) := Lib.hid (by rw [HN.out, Nat.succ_mul]; omega)
              have hnq2 : n + s ≤ s + (q + 1) * s := by rw [Nat.succ_mul]; omega
              have hml2 : ((m : Int) == (l : Int)) = false := by rw [beq_eq_false_iff_ne]; omega
              have hml3 : (m == l) = false := by rw [beq_eq_false_iff_ne]; exact hml
              clear hm hml
              go_wp2_with fail
              go_quiet (fail)
              go_wp2
              go_roundw
              case rel => exact ⟨q + 1, n + s, false, by omega, hnq2, int_eq (by omega), rfl, HN2, HNO2, int_eq (by simp), Lib.hid (fun h => by cases h), ⟨HB2.out.os, HB2.out.tape, HB2.out.output, HB2.out.size, HB2.out.block⟩⟩
              case measure => simp [intOf]; omega
          · have HE : Hid (leastO cs l2 len = none) := Lib.hid (by
              have hqe : q = c := by omega
              subst hqe
              refine leastO_none (none_mono (HS.out.2.none (HP.out j) fun i hi => ?_) (show j + 1 ≤ len from hlt))
              rw [← HCC.out] at hi ⊢
              rw [← HS.out.1, ← HLL.out]
              exact HNO.out i hi)
            go_wp2
            go_ret3
            exact ⟨by unfold leastA leastS; rw [HE.out]; exact rfl, HB2.out⟩
        · have HST : Hid (Least cs l2 (j + 1) n) := Lib.hid (by
            rw [HN.out, HS.out.1]
            refine HS.out.2.step ?_ fun i hi => ?_
            · rw [← HS.out.1, ← HCC.out, ← HLL.out, ← HN.out]; exact (HF.out rfl).2
            · rw [← HS.out.1, ← HCC.out, ← HLL.out]; exact HNO.out i hi)
          have hnl : n < lcmTo cs (j + 1) := HST.out.lt HP.out
          have hl18 := lcm_six HLE.out (show j + 1 ≤ 6 by omega)
          have HGC := Lib.hid (fun w2 => foCommon_any s c (by omega) (by omega) (.inr hc1) w2)
          have HLS : Hid (s / Nat.gcd s c * c = lcmTo cs (j + 1)) := Lib.hid (by rw [lcm_step, lcmTo, ← HS.out.1, ← HCC.out])
          have hg0 : ¬ Nat.gcd s c = 0 := fun h => by have := Nat.eq_zero_of_gcd_eq_zero_right h; omega
          obtain ⟨g, hg⟩ : ∃ g, g = Nat.gcd s c := ⟨_, rfl⟩
          rw [← hg] at HGC HLS hg0
          obtain ⟨d, hd⟩ : ∃ d, d = s / g := ⟨_, rfl⟩
          have ed : (s : Int) / (g : Int) = (d : Int) := by rw [hd]; simp
          have hd2 : d ≤ s := by rw [hd]; exact Nat.div_le_self _ _
          rw [← hd] at HLS
          obtain ⟨s2, hs2⟩ : ∃ s2, s2 = lcmTo cs (j + 1) := ⟨_, rfl⟩
          rw [← hs2] at HLS hnl hl18
          have em : (d : Int) * (c : Int) = (s2 : Int) := by rw [← HLS.out]; simp
          have HS2 : Hid (s2 = lcmTo cs (j + 1) ∧ Least cs l2 (j + 1) n) := Lib.hid ⟨hs2, HST.out⟩
          clear hg hd hs2
          go_wp2_with (go_at_call 56; refine (HGC.out _).mono ?_; rintro e w2 ⟨rfl, b3⟩; have HB3 : Hid (Below w.heap.size w w2) := Lib.hid (HB2.out.trans (b3.mono HB2.out.size)); clear b3)
          all_goals
            go_roundw
            case rel => exact ⟨j + 1, n, s2, by omega, by go_num, rfl, rfl, hnl, hl18, HS2, HB3⟩
            case measure => simp [intOf]; omega
    · obtain rfl : j = len := by omega
      have HE : Hid (leastO cs l2 j = some n0) := Lib.hid (leastO_some HS.out.2 HP.out)
      have HSS : Hid (s = lcmTo cs j) := Lib.hid HS.out.1
      go_wp2
      go_ret3
      exact ⟨by unfold leastA leastS; rw [HE.out, HSS.out]; exact rfl, HB.out⟩


end Go.Proofs.Ythnbimfdodfhoaa
