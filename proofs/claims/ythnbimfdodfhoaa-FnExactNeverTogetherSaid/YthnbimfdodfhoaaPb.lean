/- Chapter 5: the model's spPeriod, PeriodOf; the numbers told with a period. -/
import Derived.Test.YthnbimfdodfhoaaPa
import Derived.Test.YthnbimfdodfhoaaFoF
namespace Go.Proofs.Ythnbimfdodfhoaa
open Go.ChangeShapes Go.WideShapes Go.ChangeAt Go.RowKit
open Fo Pa

namespace Pa
def fsts (qs : List (Nat × Nat)) : List Nat := qs.map Prod.fst
def snds (qs : List (Nat × Nat)) : List Nat := qs.map Prod.snd
theorem getD_fsts (qs : List (Nat × Nat)) (k : Nat) : (fsts qs).getD k 1 = (qs.getD k (1, 0)).1 := by
  unfold fsts; simp only [List.getD_eq_getElem?_getD, List.getElem?_map]; cases qs[k]? <;> rfl
theorem getD_snds (qs : List (Nat × Nat)) (k : Nat) : (snds qs).getD k 0 = (qs.getD k (1, 0)).2 := by
  unfold snds; simp only [List.getD_eq_getElem?_getD, List.getElem?_map]; cases qs[k]? <;> rfl
theorem GoodQ.all {qs : List (Nat × Nat)} (h : GoodQ qs) (k : Nat) : 1 ≤ (qs.getD k (1, 0)).1 ∧ (qs.getD k (1, 0)).1 ≤ 60 ∧ (qs.getD k (1, 0)).2 < (qs.getD k (1, 0)).1 := by
  by_cases hk : k < qs.length
  · exact h.each k hk
  · simp only [List.getD_eq_getElem?_getD, List.getElem?_eq_none (by omega : qs.length ≤ k), Option.getD_none]; omega
theorem GoodQ.fst {qs : List (Nat × Nat)} (h : GoodQ qs) (k : Nat) : 1 ≤ (fsts qs).getD k 1 ∧ (fsts qs).getD k 1 ≤ 1000 := by
  rw [getD_fsts]; have := h.all k; omega
/-- the period -/
def perN (qs : List (Nat × Nat)) : Nat := lcmTo (fsts qs) qs.length
theorem perN_bd {qs : List (Nat × Nat)} (h : GoodQ qs) : 1 ≤ perN qs ∧ perN qs ≤ 1000000000000000000 :=
  ⟨lcmTo_pos (fun i => (h.fst i).1) _, lcm_six (fun i => (h.fst i).2) h.few⟩
end Pa
def outPeriodOf_0 (ps : List RPace) : Int := if goodP ps then (perN (toQ ps) : Nat) else 0
def outPeriodOf_1 (ps : List RPace) : Bool := goodP ps

set_option maxHeartbeats 1000000 in
theorem foCommon_q (n d : Nat) (hn : n ≤ 1000000000000000000) (hd : d ≤ 1000000000000000000) (h1 : 1 ≤ n ∨ 1 ≤ d) (w : World) :
    Calls Try.prog 56 #[.int .i64 n, .int .i64 d] w fun e w' => e = .returned (.int .i64 (Nat.gcd n d : Nat)) ∧ ∃ m, w' = w.drewN m := by
  go_enter Try.func56, Try.ntmps56
  go_wp2
  go_loopw [0, 1] (fun x y wr => ∃ a b : Nat, a ≤ 1000000000000000000 ∧ b ≤ 1000000000000000000 ∧ x = .int .i64 (a : Int) ∧ y = .int .i64 (b : Int) ∧ Hid (Nat.gcd a b = Nat.gcd n d) ∧ (1 ≤ a ∨ 1 ≤ b) ∧ Hid (∃ m, wr = w.drewN m)) (fun _ y _ => (intOf y).toNat)
  case atStart => exact ⟨n, d, hn, hd, rfl, rfl, rfl, h1, Lib.hid ⟨0, rfl⟩⟩
  case round =>
    obtain ⟨a, b, ha2, hb2, rfl, rfl, HG, hab, HB⟩ := hrel
    by_cases hz : 0 < b
    · have HG2 : Hid (Nat.gcd b (a % b) = Nat.gcd n d) := Lib.hid (by rw [← HG.out, Nat.gcd_comm a b, Nat.gcd_rec b a, Nat.gcd_comm])
      have hml := Nat.mod_lt a hz
      have hb0 : ¬ b = 0 := by omega
      go_wp2_with fail
      go_quiet (fail)
      go_wp2
      go_roundw
      case rel => exact ⟨b, a % b, hb2, by omega, rfl, int_eq (by omega), HG2.out, .inl hz, Lib.hid (by obtain ⟨m, rfl⟩ := HB.out; exact ⟨m + _, World.drewN_drewN ..⟩)⟩
      case measure => simp [intOf]; omega
    · obtain rfl : b = 0 := by omega
      have HA : Hid (a = Nat.gcd n d) := Lib.hid (by rw [← HG.out, Nat.gcd_zero_right])
      clear hab hz
      go_wp2
      go_ret
      exact ⟨ret_int (by rw [HA.out]), HB.out⟩

set_option maxHeartbeats 2000000 in
theorem spPeriod_any (w : World) (a : Option Addr) (len cap : Nat) (qs : List (Nat × Nat)) (hg : GoodQ qs) (hc : CameQ w a len qs) :
    Calls Try.prog 54 #[.slice a len cap] w fun e w' => e = .returned (.int .i64 (perN qs : Nat)) ∧ Below w.heap.size w w' := by
  have HZ : Hid (qs.length = len) := Lib.hid hc.1
  have HC := Lib.hid hc
  have HE := Lib.hid hg
  have h6 : len ≤ 6 := by have := hg.few; have := hc.1; omega
  clear hc hg
  go_enter Try.func54, Try.ntmps54
  go_wp2
  go_loopw [3, 8] (fun sv i wr => ∃ k s : Nat, k ≤ len ∧ i = .int .i64 (k : Int) ∧ sv = .int .i64 (s : Int) ∧ 1 ≤ s ∧ s ≤ 1000000000000000000 ∧ Hid (s = lcmTo (fsts qs) k) ∧ Hid (Below w.heap.size w wr)) (fun _ i _ => len - (intOf i).toNat)
  case atStart => exact ⟨0, 1, Nat.zero_le _, rfl, rfl, by omega, by omega, Lib.hid rfl, Lib.hid (Below.refl _ _)⟩
  case round =>
    obtain ⟨k, s, hk, rfl, rfl, hs1, hs18, HS, HB⟩ := hrel
    by_cases hlt : k < len
    · obtain ⟨b, off, rfl, hcell⟩ := (HC.out.below HB.out).2 (by omega)
      obtain ⟨e0, e1⟩ := hcell k hlt
      obtain ⟨hp1, hp2, hp3⟩ := HE.out.all k
      have hl18 := lcm_six (fun i => (HE.out.fst i).2) (show k + 1 ≤ 6 by omega)
      have hl1 := lcmTo_pos (fun i => (HE.out.fst i).1) (k + 1)
      have HLS : Hid (s / Nat.gcd s (qs.getD k (1, 0)).1 * (qs.getD k (1, 0)).1 = lcmTo (fsts qs) (k + 1)) := Lib.hid (by rw [lcm_step, lcmTo, ← HS.out, getD_fsts])
      obtain ⟨x, hx⟩ : ∃ x, x = (qs.getD k (1, 0)).1 := ⟨_, rfl⟩
      obtain ⟨y, hy⟩ : ∃ x, x = (qs.getD k (1, 0)).2 := ⟨_, rfl⟩
      rw [← hx] at e0 hp1 hp2 hp3 HLS
      rw [← hy] at e1 hp3
      have HGC := Lib.hid (fun w2 => foCommon_q s x (by omega) (by omega) (.inr hp1) w2)
      have hg0 : ¬ Nat.gcd s x = 0 := fun h => by have := Nat.eq_zero_of_gcd_eq_zero_right h; omega
      obtain ⟨g, hg⟩ : ∃ g, g = Nat.gcd s x := ⟨_, rfl⟩
      rw [← hg] at HGC HLS hg0
      obtain ⟨d, hd⟩ : ∃ d, d = s / g := ⟨_, rfl⟩
      have ed : (s : Int) / (g : Int) = (d : Int) := by rw [hd]; simp
      have hd2 : d ≤ s := by rw [hd]; exact Nat.div_le_self _ _
      rw [← hd] at HLS
      obtain ⟨s2, hs2⟩ : ∃ s2, s2 = lcmTo (fsts qs) (k + 1) := ⟨_, rfl⟩
      rw [← hs2] at HLS hl18 hl1
      have em : (d : Int) * (x : Int) = (s2 : Int) := by rw [← HLS.out]; simp
      have HS2 := Lib.hid hs2
      have i1 : (0 : Int) ≤ (k : Int) := by omega
      have i2 : (k : Int) < (len : Int) := by omega
      have HBA : Hid (Below w.heap.size w (wr.alloc (.cells #[.int .i64 (x : Int), .int .i64 (y : Int)] 48))) := Lib.hid (HB.out.alloc HB.out.size _)
      have hz := HBA.out.size
      clear hcell hx hy hg hd hs2
      go_wp2_with fail
      go_quiet ((go_at_call 56; exact Calls.quiet_of (HGC.out _)))
      go_wp2
      go_roundw
      case rel => exact ⟨k + 1, s2, by omega, by go_num, rfl, hl1, hl18, HS2, Lib.hid (HBA.out.trans ((drewN_down _ _).mono hz))⟩
      case measure => simp [intOf]; omega
    · have HF : Hid (s = perN qs) := Lib.hid (by unfold perN; rw [HZ.out, show len = k by omega]; exact HS.out)
      go_wp2
      go_ret
      exact ⟨ret_int (by rw [HF.out]), HB.out⟩

set_option maxHeartbeats 1000000 in
theorem specPeriodOf_any (w : World) (a : Option Addr) (len cap : Nat) (ps : List RPace) (hl : len ≤ 1048576) (hc : CamePace w a len ps) :
    Calls Try.prog 26 #[.slice a len cap] w fun e w' => e = .returned (.tuple #[.int .i64 (outPeriodOf_0 ps), .bool (outPeriodOf_1 ps)]) ∧ Below w.heap.size w w' := by
  have HG := Lib.hid (spGood_any w a len cap ps hl hc)
  have HC := Lib.hid hc
  clear hc
  rcases hb : goodP ps with _ | _
  · have H0 : Hid (outPeriodOf_0 ps = 0 ∧ outPeriodOf_1 ps = false) := Lib.hid (by unfold outPeriodOf_0 outPeriodOf_1; rw [hb]; exact ⟨rfl, rfl⟩)
    rw [hb] at HG
    clear hb
    go_enter Try.func26, Try.ntmps26
    go_wp2_with (go_at_call 45; refine HG.out.mono ?_; rintro e w2 ⟨rfl, b2⟩; have B2 := Lib.hid b2; clear b2)
    go_ret2
    exact ⟨by rw [H0.out.1, H0.out.2]; exact rfl, B2.out⟩
  · obtain ⟨qs, rfl, hgq⟩ := good_nat hb
    have H0 : Hid (outPeriodOf_0 (asP qs) = (perN qs : Nat) ∧ outPeriodOf_1 (asP qs) = true) := Lib.hid (by unfold outPeriodOf_0 outPeriodOf_1; rw [hb, toQ_asP]; exact ⟨rfl, rfl⟩)
    have HA := Lib.hid (fun w2 (h : Below w.heap.size w w2) => spPeriod_any w2 a len cap qs hgq ((CameQ.of HC.out).below h))
    rw [hb] at HG
    clear hb hgq
    go_enter Try.func26, Try.ntmps26
    go_wp2_with fail
    go_at_call 45
    refine HG.out.mono ?_
    rintro e w2 ⟨rfl, b2⟩
    have B2 := Lib.hid b2
    have HA2 := Lib.hid (HA.out w2 b2)
    clear b2
    go_wp2_with fail
    go_at_call 54
    refine HA2.out.mono ?_
    rintro e w3 ⟨rfl, b3⟩
    have B3 : Hid (Below w.heap.size w w3) := Lib.hid (B2.out.trans (b3.mono B2.out.size))
    clear b3
    go_wp2
    go_ret2
    exact ⟨by rw [H0.out.1, H0.out.2]; exact rfl, B3.out⟩

end Go.Proofs.Ythnbimfdodfhoaa
