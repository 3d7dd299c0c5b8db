/- Chapter 5: the model's spBefore, StepsIn, TimeOfStep. -/
import Derived.Test.YthnbimfdodfhoaaPa
namespace Go.Proofs.Ythnbimfdodfhoaa
open Go.ChangeShapes Go.WideShapes Go.ChangeAt Go.RowKit
open Pa

namespace Pa
theorem GoodQ.at {qs : List (Nat × Nat)} (h : GoodQ qs) (k : Nat) : 1 ≤ (qs.getD k (1, 0)).1 ∧ (qs.getD k (1, 0)).1 ≤ 60 ∧ (qs.getD k (1, 0)).2 < (qs.getD k (1, 0)).1 := by
  by_cases hk : k < qs.length
  · exact h.each k hk
  · simp only [List.getD_eq_getElem?_getD, List.getElem?_eq_none (by omega : qs.length ≤ k), Option.getD_none]; omega
/-- one's steps before a time -/
def befOne (x y t : Nat) : Nat := if y < t then (t - y - 1) / x + 1 else 0
theorem befOne_le (x y t : Nat) : befOne x y t ≤ t := by
  unfold befOne
  split
  · have := Nat.div_le_self (t - y - 1) x; omega
  · exact Nat.zero_le _
theorem befOne_mono (x y : Nat) {t t' : Nat} (h : t ≤ t') : befOne x y t ≤ befOne x y t' := by
  unfold befOne
  split
  · rw [if_pos (by omega)]
    exact Nat.succ_le_succ (Nat.div_le_div_right (by omega))
  · exact Nat.zero_le _
def befTo (qs : List (Nat × Nat)) (t : Nat) : Nat → Nat
  | 0 => 0
  | k + 1 => befTo qs t k + befOne (qs.getD k (1, 0)).1 (qs.getD k (1, 0)).2 t
theorem befTo_le (qs : List (Nat × Nat)) (t : Nat) : ∀ k, befTo qs t k ≤ k * t
  | 0 => by simp [befTo]
  | k + 1 => by
    have := befTo_le qs t k
    have := befOne_le (qs.getD k (1, 0)).1 (qs.getD k (1, 0)).2 t
    rw [befTo, Nat.succ_mul]; omega
theorem befTo_mono (qs : List (Nat × Nat)) {t t' : Nat} (h : t ≤ t') : ∀ k, befTo qs t k ≤ befTo qs t' k
  | 0 => Nat.le_refl _
  | k + 1 => by
    have := befTo_mono qs h k
    have := befOne_mono (qs.getD k (1, 0)).1 (qs.getD k (1, 0)).2 h
    rw [befTo, befTo]; omega
theorem befTo_yes {qs : List (Nat × Nat)} {t k : Nat} (h : (qs.getD k (1, 0)).2 < t) : befTo qs t (k + 1) = befTo qs t k + ((t - (qs.getD k (1, 0)).2 - 1) / (qs.getD k (1, 0)).1 + 1) := by
  rw [befTo]; unfold befOne; rw [if_pos h]
theorem befTo_no {qs : List (Nat × Nat)} {t k : Nat} (h : ¬ (qs.getD k (1, 0)).2 < t) : befTo qs t (k + 1) = befTo qs t k := by
  rw [befTo]; unfold befOne; rw [if_neg h, Nat.add_zero]
/-- all steps before a time -/
def befN (qs : List (Nat × Nat)) (t : Nat) : Nat := befTo qs t qs.length
theorem befN_le {qs : List (Nat × Nat)} (h : GoodQ qs) (t : Nat) : befN qs t ≤ 6 * t := Nat.le_trans (befTo_le _ _ _) (Nat.mul_le_mul_right _ h.few)
theorem befN_mono (qs : List (Nat × Nat)) {t t' : Nat} (h : t ≤ t') : befN qs t ≤ befN qs t' := befTo_mono qs h _
theorem befN_zero (qs : List (Nat × Nat)) : befN qs 0 = 0 := by
  have : ∀ k, befTo qs 0 k = 0 := fun k => Nat.le_zero.1 (by have := befTo_le qs 0 k; omega)
  exact this _
/-- the last of the first n that has this, or nought -/
def lastTo (p : Nat → Bool) : Nat → Nat
  | 0 => 0
  | k + 1 => if p (k + 1) = true then k + 1 else lastTo p k
theorem lastTo_eq {p : Nat → Bool} {r : Nat} (hr : r = 0 ∨ p r = true) : ∀ n, r ≤ n → (∀ j, r < j → j ≤ n → p j = false) → lastTo p n = r
  | 0, h, _ => by rw [lastTo]; omega
  | n + 1, h, hn => by
    rw [lastTo]
    by_cases e : r = n + 1
    · subst e
      rcases hr with h0 | h0
      · omega
      · rw [if_pos h0]
    · rw [if_neg (by rw [hn (n + 1) (by omega) (Nat.le_refl _)]; decide)]
      exact lastTo_eq hr n (by omega) (fun j h1 h2 => hn j h1 (by omega))
def stepsB (ps : List RPace) (a b : Int) : Bool := goodP ps && inB a 0 1000000000 && inB b 0 1000000000 && decide (a ≤ b)
def stepB (ps : List RPace) (k : Int) : Bool := goodP ps && inB k 0 1000000
def timeN (qs : List (Nat × Nat)) (k : Nat) : Nat := lastTo (fun t => decide (befN qs t ≤ k)) 60000060
end Pa
def outStepsIn_0 (ps : List RPace) (a b : Int) : Int := if stepsB ps a b then ((befN (toQ ps) b.toNat : Nat) : Int) - (befN (toQ ps) a.toNat : Nat) else 0
def outStepsIn_1 (ps : List RPace) (a b : Int) : Bool := stepsB ps a b
def outTimeOfStep_0 (ps : List RPace) (k : Int) : Int := if Pa.stepB ps k then (timeN (toQ ps) k.toNat : Nat) else 0
def outTimeOfStep_1 (ps : List RPace) (k : Int) : Bool := Pa.stepB ps k

set_option maxHeartbeats 2000000 in
theorem spBefore_any (w : World) (a : Option Addr) (len cap : Nat) (qs : List (Nat × Nat)) (t : Nat) (ht : t ≤ 1000000000000) (hg : GoodQ qs) (hc : CameQ w a len qs) :
    Calls Try.prog 61 #[.slice a len cap, .int .i64 t] w fun e w' => e = .returned (.int .i64 (befN qs t : Nat)) ∧ Below w.heap.size w w' := by
  have HZ : Hid (qs.length = len) := Lib.hid hc.1
  have HC := Lib.hid hc
  have HE := Lib.hid hg
  have h6 : len ≤ 6 := by have := hg.few; have := hc.1; omega
  clear hc hg
  go_enter Try.func61, Try.ntmps61
  go_wp2
  go_loopw [5, 10] (fun sv i wr => ∃ k s : Nat, k ≤ len ∧ i = .int .i64 (k : Int) ∧ sv = .int .i64 (s : Int) ∧ s ≤ 6000000000000 ∧ Hid (s = befTo qs t k) ∧ Hid (Below w.heap.size w wr)) (fun _ i _ => len - (intOf i).toNat)
  case atStart => exact ⟨0, 0, Nat.zero_le _, rfl, rfl, by omega, Lib.hid rfl, Lib.hid (Below.refl _ _)⟩
  case round =>
    obtain ⟨k, s, hk, rfl, rfl, hs18, HS, HB⟩ := hrel
    by_cases hlt : k < len
    · obtain ⟨b, off, rfl, hcell⟩ := (HC.out.below HB.out).2 (by omega)
      obtain ⟨e0, e1⟩ := hcell k hlt
      obtain ⟨hp1, hp2, hp3⟩ := HE.out.at k
      have hl18 : befTo qs t (k + 1) ≤ 6000000000000 := Nat.le_trans (befTo_le qs t (k + 1)) (Nat.le_trans (Nat.mul_le_mul (show k + 1 ≤ 6 by omega) ht) (by decide))
      have HSY := Lib.hid (@befTo_yes qs t k)
      have HSN := Lib.hid (@befTo_no qs t k)
      obtain ⟨x, hx⟩ : ∃ x, x = (qs.getD k (1, 0)).1 := ⟨_, rfl⟩
      obtain ⟨y, hy⟩ : ∃ x, x = (qs.getD k (1, 0)).2 := ⟨_, rfl⟩
      rw [← hx] at e0 hp1 hp2 hp3 HSY
      rw [← hy] at e1 hp3 HSY HSN
      have i1 : (0 : Int) ≤ (k : Int) := by omega
      have i2 : (k : Int) < (len : Int) := by omega
      have hx0 : ¬ x = 0 := by omega
      have HBA : Hid (Below w.heap.size w (wr.alloc (.cells #[.int .i64 (x : Int), .int .i64 (y : Int)] 48))) := Lib.hid (HB.out.alloc HB.out.size _)
      clear hcell hx hy
      by_cases hyt : y < t
      · obtain ⟨d, hd⟩ : ∃ d, d = (t - y - 1) / x := ⟨_, rfl⟩
        have ed : ((t : Int) - (y : Int) - 1) / (x : Int) = (d : Int) := by rw [hd, show (t : Int) - (y : Int) - 1 = ((t - y - 1 : Nat) : Int) by omega]; simp
        have hd2 : d ≤ t := by rw [hd]; exact Nat.le_trans (Nat.div_le_self _ _) (by omega)
        have HS2 : Hid (s + (d + 1) = befTo qs t (k + 1)) := Lib.hid (by rw [HSY.out hyt, ← hd, HS.out])
        rw [← HS2.out] at hl18
        clear hd HSY HSN
        go_wp2
        go_roundw
        case rel => exact ⟨k + 1, s + (d + 1), by omega, by go_num, by go_num, hl18, HS2, HBA⟩
        case measure => simp [intOf]; omega
      · have HS2 : Hid (s = befTo qs t (k + 1)) := Lib.hid (by rw [HSN.out hyt, HS.out])
        clear HSY HSN hl18
        go_wp2
        go_roundw
        case rel => exact ⟨k + 1, s, by omega, by go_num, rfl, hs18, HS2, HBA⟩
        case measure => simp [intOf]; omega
    · have HF : Hid (s = befN qs t) := Lib.hid (by unfold befN; rw [HZ.out, show len = k by omega]; exact HS.out)
      go_wp2
      go_ret
      exact ⟨ret_int (by rw [HF.out]), HB.out⟩

set_option maxHeartbeats 2000000 in
theorem specStepsIn_any (w : World) (ad : Option Addr) (len cap : Nat) (ps : List RPace) (a b : Int) (_wa : (Lit.int .i64 a).wf = true) (_wb : (Lit.int .i64 b).wf = true) (hl : len ≤ 1048576) (hc : CamePace w ad len ps) :
    Calls Try.prog 41 #[.slice ad len cap, .int .i64 a, .int .i64 b] w fun e w' => e = .returned (.tuple #[.int .i64 (outStepsIn_0 ps a b), .bool (outStepsIn_1 ps a b)]) ∧ Below w.heap.size w w' := by
  have HG := Lib.hid (spGood_any w ad len cap ps hl hc)
  have HT := Lib.hid (fun t w2 => spTime_any t w2)
  have HC := Lib.hid hc
  clear _wa _wb hc
  by_cases hall : stepsB ps a b = true
  · have hall2 := hall
    unfold stepsB at hall2
    simp only [Bool.and_eq_true] at hall2
    obtain ⟨⟨⟨hb, hb2⟩, hb3⟩, hb4⟩ := hall2
    have hab := of_decide_eq_true hb4
    obtain ⟨ha0, ha1⟩ := inB_yes hb2
    obtain ⟨hc0, hc1⟩ := inB_yes hb3
    obtain ⟨A, rfl⟩ : ∃ A : Nat, a = (A : Int) := ⟨a.toNat, by omega⟩
    obtain ⟨B, rfl⟩ : ∃ A : Nat, b = (A : Int) := ⟨b.toNat, by omega⟩
    obtain ⟨qs, rfl, hgq⟩ := good_nat hb
    have H0 : Hid (outStepsIn_0 (asP qs) A B = (befN qs B : Nat) - (befN qs A : Nat) ∧ outStepsIn_1 (asP qs) A B = true) := Lib.hid (by unfold outStepsIn_0 outStepsIn_1; rw [hall, toQ_asP]; exact ⟨rfl, rfl⟩)
    have HA := Lib.hid (fun w2 (h : Below w.heap.size w w2) => spBefore_any w2 ad len cap qs A (by omega) hgq ((CameQ.of HC.out).below h))
    have HB := Lib.hid (fun w2 (h : Below w.heap.size w w2) => spBefore_any w2 ad len cap qs B (by omega) hgq ((CameQ.of HC.out).below h))
    have hbd1 := befN_le hgq A
    have hbd2 := befN_le hgq B
    have HTA := Lib.hid (HT.out A)
    have HTB := Lib.hid (HT.out B)
    rw [hb] at HG
    rw [hb2] at HTA
    rw [hb3] at HTB
    clear hb hb2 hb3 hb4 hgq hall
    obtain ⟨x, hx⟩ : ∃ x, x = befN qs A := ⟨_, rfl⟩
    obtain ⟨y, hy⟩ : ∃ x, x = befN qs B := ⟨_, rfl⟩
    rw [← hx] at H0 HA hbd1
    rw [← hy] at H0 HB hbd2
    clear hx hy
    go_enter Try.func41, Try.ntmps41
    go_wp2_with fail
    go_at_call 45
    refine HG.out.mono ?_
    rintro e w2 ⟨rfl, b2⟩
    have B2 := Lib.hid b2
    have HA2 := Lib.hid (fun w3 h => HA.out w3 (b2.trans h))
    have HB2 := Lib.hid (HB.out w2 b2)
    clear b2
    go_wp2_with fail
    go_at_call 48
    refine (HTA.out _).mono ?_
    rintro e w' ⟨rfl, rfl⟩
    go_wp2_with fail
    go_at_call 48
    refine (HTB.out _).mono ?_
    rintro e w' ⟨rfl, rfl⟩
    go_wp2_with fail
    go_at_call 61
    refine HB2.out.mono ?_
    rintro e w3 ⟨rfl, b3⟩
    have B3 : Hid (Below w.heap.size w w3) := Lib.hid (B2.out.trans (b3.mono B2.out.size))
    have HA3 := Lib.hid (HA.out w3 B3.out)
    clear b3
    go_wp2_with fail
    go_at_call 61
    refine HA3.out.mono ?_
    rintro e w4 ⟨rfl, b4⟩
    have B4 : Hid (Below w.heap.size w w4) := Lib.hid (B3.out.trans (b4.mono B3.out.size))
    clear b4
    go_wp2
    go_ret2
    exact ⟨by rw [H0.out.1, H0.out.2]; exact rfl, B4.out⟩
  · have hf := Bool.eq_false_iff.2 hall
    have H0 : Hid (outStepsIn_0 ps a b = 0 ∧ outStepsIn_1 ps a b = false) := Lib.hid (by unfold outStepsIn_0 outStepsIn_1; rw [hf]; exact ⟨rfl, rfl⟩)
    unfold stepsB at hf
    clear hall
    have HTA := Lib.hid (HT.out a)
    have HTB := Lib.hid (HT.out b)
    rcases hb : goodP ps with _ | _
    · rw [hb] at HG
      clear hb hf
      go_enter Try.func41, Try.ntmps41
      go_wp2_with (go_at_call 45; refine HG.out.mono ?_; rintro e w2 ⟨rfl, b2⟩; have B2 := Lib.hid b2; clear b2)
      go_ret2
      exact ⟨by rw [H0.out.1, H0.out.2]; exact rfl, B2.out⟩
    · rw [hb] at hf HG
      clear hb
      rcases hb2 : inB a 0 1000000000 with _ | _
      · rw [hb2] at HTA
        clear hb2 hf
        go_enter Try.func41, Try.ntmps41
        go_wp2_with fail
        go_at_call 45
        refine HG.out.mono ?_
        rintro e w2 ⟨rfl, b2⟩
        have B2 := Lib.hid b2
        clear b2
        go_wp2_with (go_at_call 48; refine (HTA.out _).mono ?_; rintro e w' ⟨rfl, rfl⟩)
        go_ret2
        exact ⟨by rw [H0.out.1, H0.out.2]; exact rfl, B2.out⟩
      · rw [hb2] at hf HTA
        clear hb2
        rcases hb3 : inB b 0 1000000000 with _ | _
        · rw [hb3] at HTB
          clear hb3 hf
          go_enter Try.func41, Try.ntmps41
          go_wp2_with fail
          go_at_call 45
          refine HG.out.mono ?_
          rintro e w2 ⟨rfl, b2⟩
          have B2 := Lib.hid b2
          clear b2
          go_wp2_with fail
          go_at_call 48
          refine (HTA.out _).mono ?_
          rintro e w' ⟨rfl, rfl⟩
          go_wp2_with (go_at_call 48; refine (HTB.out _).mono ?_; rintro e w' ⟨rfl, rfl⟩)
          go_ret2
          exact ⟨by rw [H0.out.1, H0.out.2]; exact rfl, B2.out⟩
        · rw [hb3] at hf HTB
          clear hb3
          have hab : b < a := by
            have := of_decide_eq_false (show decide (a ≤ b) = false from hf)
            omega
          clear hf
          go_enter Try.func41, Try.ntmps41
          go_wp2_with fail
          go_at_call 45
          refine HG.out.mono ?_
          rintro e w2 ⟨rfl, b2⟩
          have B2 := Lib.hid b2
          clear b2
          go_wp2_with fail
          go_at_call 48
          refine (HTA.out _).mono ?_
          rintro e w' ⟨rfl, rfl⟩
          go_wp2_with fail
          go_at_call 48
          refine (HTB.out _).mono ?_
          rintro e w' ⟨rfl, rfl⟩
          go_wp2
          go_ret2
          exact ⟨by rw [H0.out.1, H0.out.2]; exact rfl, B2.out⟩

set_option maxHeartbeats 2000000 in
theorem specTimeOfStep_any (w : World) (ad : Option Addr) (len cap : Nat) (ps : List RPace) (k : Int) (_wk : (Lit.int .i64 k).wf = true) (hl : len ≤ 1048576) (hc : CamePace w ad len ps) :
    Calls Try.prog 43 #[.slice ad len cap, .int .i64 k] w fun e w' => e = .returned (.tuple #[.int .i64 (outTimeOfStep_0 ps k), .bool (outTimeOfStep_1 ps k)]) ∧ Below w.heap.size w w' := by
  have HG := Lib.hid (spGood_any w ad len cap ps hl hc)
  have HI := Lib.hid (fun w2 => l1In_any k 0 1000000 w2)
  have HC := Lib.hid hc
  clear _wk hc
  rcases hb : goodP ps with _ | _
  · have H0 : Hid (outTimeOfStep_0 ps k = 0 ∧ outTimeOfStep_1 ps k = false) := Lib.hid (by unfold outTimeOfStep_0 outTimeOfStep_1 Pa.stepB; rw [hb]; exact ⟨rfl, rfl⟩)
    rw [hb] at HG
    clear hb
    go_enter Try.func43, Try.ntmps43
    go_wp2_with (go_at_call 45; refine HG.out.mono ?_; rintro e w2 ⟨rfl, b2⟩; have B2 := Lib.hid b2; clear b2)
    go_ret2
    exact ⟨by rw [H0.out.1, H0.out.2]; exact rfl, B2.out⟩
  · rcases hb2 : inB k 0 1000000 with _ | _
    · have H0 : Hid (outTimeOfStep_0 ps k = 0 ∧ outTimeOfStep_1 ps k = false) := Lib.hid (by unfold outTimeOfStep_0 outTimeOfStep_1 Pa.stepB; rw [hb, hb2]; exact ⟨rfl, rfl⟩)
      rw [hb] at HG
      rw [hb2] at HI
      clear hb hb2
      go_enter Try.func43, Try.ntmps43
      go_wp2_with fail
      go_at_call 45
      refine HG.out.mono ?_
      rintro e w2 ⟨rfl, b2⟩
      have B2 := Lib.hid b2
      clear b2
      go_wp2_with (go_at_call 59; refine (HI.out _).mono ?_; rintro e w' ⟨rfl, rfl⟩)
      go_ret2
      exact ⟨by rw [H0.out.1, H0.out.2]; exact rfl, B2.out⟩
    · obtain ⟨hm0, hm1⟩ := inB_yes hb2
      obtain ⟨K, rfl⟩ : ∃ M : Nat, k = (M : Int) := ⟨k.toNat, by omega⟩
      obtain ⟨qs, rfl, hgq⟩ := good_nat hb
      have H0 : Hid (outTimeOfStep_0 (asP qs) K = (timeN qs K : Nat) ∧ outTimeOfStep_1 (asP qs) K = true) := Lib.hid (by unfold outTimeOfStep_0 outTimeOfStep_1 Pa.stepB; rw [hb, hb2, toQ_asP]; exact ⟨rfl, rfl⟩)
      have HT := Lib.hid (fun w2 (t : Nat) (ht : t ≤ 1000000000000) (h : Below w.heap.size w w2) => spBefore_any w2 ad len cap qs t ht hgq ((CameQ.of HC.out).below h))
      have HML := Lib.hid (fun t => befN_le hgq t)
      rw [hb] at HG
      rw [hb2] at HI
      clear hb hb2 hgq
      go_enter Try.func43, Try.ntmps43
      go_wp2_with fail
      go_at_call 45
      refine HG.out.mono ?_
      rintro e w2 ⟨rfl, b2⟩
      have B2 := Lib.hid b2
      clear b2
      go_wp2_with (go_at_call 59; refine (HI.out _).mono ?_; rintro e w' ⟨rfl, rfl⟩)
      go_loopw [6, 7] (fun c d wr => ∃ x y : Nat, x ≤ y ∧ y ≤ 60000060 ∧ c = .int .i64 (x : Int) ∧ d = .int .i64 (y : Int) ∧ Hid (befN qs x ≤ K) ∧ Hid (∀ j, y < j → K < befN qs j ∨ 60000060 < j) ∧ Hid (Below w.heap.size w wr)) (fun c d _ => (intOf d - intOf c).toNat)
      case atStart => exact ⟨0, 60000060, by omega, Nat.le_refl _, rfl, rfl, Lib.hid (by rw [befN_zero]; exact Nat.zero_le _), Lib.hid (fun j h => .inr h), B2⟩
      case round =>
        obtain ⟨x, y, hxy, hy6, rfl, rfl, HX, HY, HB⟩ := hrel
        by_cases hlt : x < y
        · obtain ⟨m, hm⟩ : ∃ m, m = (x + y + 1) / 2 := ⟨_, rfl⟩
          have hm2 : x < m ∧ m ≤ y := by omega
          obtain ⟨hm3, hm4⟩ := hm2
          have em : ((x : Int) + (y : Int) + 1) / 2 = (m : Int) := by omega
          have HT2 := Lib.hid (HT.out wr m (by omega) HB.out)
          have hbm := HML.out m
          have HMO := Lib.hid (fun j h => @befN_mono qs m j h)
          obtain ⟨z, hz⟩ : ∃ z, z = befN qs m := ⟨_, rfl⟩
          rw [← hz] at HT2 hbm HMO
          have HZ := Lib.hid hz
          clear hz hm
          go_wp2_with fail
          go_at_call 61
          refine HT2.out.mono ?_
          rintro e w3 ⟨rfl, b3⟩
          have B3 : Hid (Below w.heap.size w w3) := Lib.hid (HB.out.trans (b3.mono HB.out.size))
          clear b3
          by_cases hzk : z ≤ K
          · have HX2 : Hid (befN qs m ≤ K) := Lib.hid (by rw [← HZ.out]; exact hzk)
            go_wp2
            go_roundw
            case rel => exact ⟨m, y, hm4, hy6, rfl, rfl, HX2, HY, B3⟩
            case measure => simp [intOf]; omega
          · have HY2 : Hid (∀ j, m - 1 < j → K < befN qs j ∨ 60000060 < j) := Lib.hid (fun j hj => .inl (by have := HMO.out j (by omega); omega))
            go_wp2
            go_roundw
            case rel => exact ⟨x, m - 1, by omega, by omega, rfl, by go_num, HX, HY2, B3⟩
            case measure => simp [intOf]; omega
        · have HF : Hid (outTimeOfStep_0 (asP qs) K = x) := Lib.hid (by
            rw [H0.out.1]; unfold timeN
            rw [lastTo_eq (p := fun t => decide (befN qs t ≤ K)) (r := x) (.inr (decide_eq_true HX.out)) 60000060 (by omega) (fun j h1 h2 => decide_eq_false (by have := HY.out j (by omega); omega))])
          go_wp2
          go_ret2
          exact ⟨by rw [HF.out, H0.out.2]; exact rfl, HB.out⟩

end Go.Proofs.Ythnbimfdodfhoaa
