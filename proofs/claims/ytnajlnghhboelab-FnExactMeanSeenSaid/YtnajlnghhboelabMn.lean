/- MeanSeen: both sides. -/
import Derived.Test.YtnajlnghhboelabHeSpec
import Derived.Deep.QuietTactic
namespace Go.Proofs.Ytnajlnghhboelab
open Go.ChangeShapes Go.WideShapes Go.ChangeAt Go.RowKit

namespace Mn
/-- the sum of 1, 1 / 2, .., 1 / k, not in lowest terms -/
def ab : Nat → Nat × Nat
  | 0 => (0, 1)
  | k + 1 => ((ab k).1 * (k + 1) + (ab k).2, (ab k).2 * (k + 1))
def low (n d : Nat) : Nat × Nat := (n / Nat.gcd n d, d / Nat.gcd n d)
def lo : Nat → Nat × Nat
  | 0 => (0, 1)
  | k + 1 => low ((lo k).1 * (k + 1) + (lo k).2) ((lo k).2 * (k + 1))
theorem same : ∀ s, s < 16 → low (ab s).1 (ab s).2 = lo s := by decide +kernel
theorem ab_bd : ∀ s, s < 16 → (ab s).1 ≤ 10000000000000 ∧ 1 ≤ (ab s).2 ∧ (ab s).2 ≤ 10000000000000 := by decide +kernel
theorem lo_bd : ∀ s, s < 16 → (lo s).1 ≤ 10000000000000 ∧ 1 ≤ (lo s).2 ∧ (lo s).2 ≤ 10000000000000 := by decide +kernel
end Mn

theorem wrapq (n a : Nat) (h : n ≤ 1000000000000000) : wrap64 ((n : Int) / (a : Int)) = (n : Int) / (a : Int) := by
  have h1 : n / a ≤ n := Nat.div_le_self n a
  rw [show ((n : Int) / (a : Int)) = ((n / a : Nat) : Int) from rfl]
  obtain ⟨q, hq⟩ : ∃ q, q = n / a := ⟨_, rfl⟩
  rw [← hq] at h1 ⊢
  unfold wrap64
  omega

set_option maxHeartbeats 1000000 in
theorem heLow_any (n d : Nat) (hn : n ≤ 1000000000000000) (hd : d ≤ 1000000000000000) (h1 : 1 ≤ d) (w : World) :
    Calls Try.prog 45 #[.int .i64 n, .int .i64 d] w fun e w' => e = .returned (.tuple #[.int .i64 (((Mn.low n d).1 : Nat) : Int), .int .i64 (((Mn.low n d).2 : Nat) : Int)]) ∧ Below w.heap.size w w' := by
  go_enter Try.func45, Try.ntmps45
  go_wp2
  go_loopw [6, 7] (fun x y wr => ∃ a b : Nat, x = .int .i64 (a : Int) ∧ y = .int .i64 (b : Int) ∧ Hid (Nat.gcd a b = Nat.gcd n d) ∧ (1 ≤ a ∨ 1 ≤ b) ∧ Below w.heap.size w wr) (fun _ y _ => (intOf y).toNat)
  case atStart => exact ⟨n, d, rfl, rfl, rfl, .inr h1, Below.refl _ _⟩
  case round =>
    obtain ⟨a, b, rfl, rfl, HG, hab, hb⟩ := hrel
    have HB := Lib.hid hb
    clear hb
    by_cases hz : 0 < b
    · have HG2 : Hid (Nat.gcd b (a % b) = Nat.gcd n d) := Lib.hid (by rw [← HG.out, Nat.gcd_comm a b, Nat.gcd_rec b a, Nat.gcd_comm])
      have hml := Nat.mod_lt a hz
      have hb0 : ¬ b = 0 := by omega
      go_wp2_with fail
      go_quiet (fail)
      go_wp2
      go_roundw
      case rel => exact ⟨b, a % b, rfl, int_eq (by omega), HG2.out, .inl hz, ⟨HB.out.os, HB.out.tape, HB.out.output, HB.out.size, HB.out.block⟩⟩
      case measure => simp [intOf]; omega
    · obtain rfl : b = 0 := by omega
      have ha : ¬ a = 0 := by omega
      have HA : Hid (a = Nat.gcd n d) := Lib.hid (by rw [← HG.out, Nat.gcd_zero_right])
      clear hab hz
      go_wp2_with fail
      go_quiet (fail)
      go_wp2
      go_ret2
      refine ⟨?_, ⟨HB.out.os, HB.out.tape, HB.out.output, HB.out.size, HB.out.block⟩⟩
      unfold Mn.low
      rw [← HA.out]
      simp
      exact ⟨wrapq n a hn, wrapq d a hd⟩

def outMeanSeen_0 (s : Int) : Int := if inB s 1 15 then ((Mn.lo s.toNat).1 : Nat) else 0
def outMeanSeen_1 (s : Int) : Int := if inB s 1 15 then ((Mn.lo s.toNat).2 : Nat) else 0
def outMeanSeen_2 (s : Int) : Bool := inB s 1 15
set_option maxHeartbeats 1000000 in
theorem specMeanSeen_any (w : World) (s : Int) (_ws : (Lit.int .i64 s).wf = true) :
    Calls Try.prog 26 #[.int .i64 s] w fun e w' => e = .returned (.tuple #[.int .i64 (outMeanSeen_0 s), .int .i64 (outMeanSeen_1 s), .bool (outMeanSeen_2 s)]) ∧ Below w.heap.size w w' := by
  have HI := Lib.hid (l1In_any s 1 15 w)
  clear _ws
  rcases hs : inB s 1 15 with _ | _
  · have H0 : Hid (outMeanSeen_0 s = 0) := Lib.hid (by unfold outMeanSeen_0; rw [hs]; rfl)
    have H1 : Hid (outMeanSeen_1 s = 0) := Lib.hid (by unfold outMeanSeen_1; rw [hs]; rfl)
    have H2 : Hid (outMeanSeen_2 s = false) := hs
    rw [H0.out, H1.out, H2.out]
    rw [hs] at HI
    clear hs
    go_enter Try.func26, Try.ntmps26
    go_wp2_with (go_at_call 44; refine HI.out.mono ?_; rintro e w' ⟨rfl, rfl⟩)
    go_ret3
    exact ⟨rfl, Below.refl _ _⟩
  · have H2 : Hid (outMeanSeen_2 s = true) := hs
    rw [H2.out]
    have hs2 := hs
    unfold inB at hs2
    simp only [decide_eq_true_eq] at hs2
    obtain ⟨n, rfl⟩ : ∃ n : Nat, s = (n : Int) := ⟨s.toNat, by omega⟩
    have H0 : Hid (outMeanSeen_0 n = ((Mn.lo n).1 : Nat)) := Lib.hid (by unfold outMeanSeen_0; rw [hs]; rfl)
    have H1 : Hid (outMeanSeen_1 n = ((Mn.lo n).2 : Nat)) := Lib.hid (by unfold outMeanSeen_1; rw [hs]; rfl)
    rw [H0.out, H1.out]
    rw [hs] at HI
    have hn : n ≤ 15 := by omega
    clear hs hs2 H0 H1 H2
    go_enter Try.func26, Try.ntmps26
    go_wp2_with (go_at_call 44; refine HI.out.mono ?_; rintro e w' ⟨rfl, rfl⟩)
    go_loopw [5, 6, 7] (fun x y i wr => ∃ k : Nat, k ≤ n ∧ i = .int .i64 ((k : Int) + 1) ∧ x = .int .i64 ((Mn.lo k).1 : Nat) ∧ y = .int .i64 ((Mn.lo k).2 : Nat) ∧ Below w.heap.size w wr) (fun _ _ i _ => n + 1 - (intOf i).toNat)
    case atStart => exact ⟨0, Nat.zero_le _, rfl, rfl, rfl, Below.refl _ _⟩
    case round =>
      obtain ⟨k, hk, rfl, rfl, rfl, hb⟩ := hrel
      have hbd := Mn.lo_bd k (by omega)
      by_cases hlt : k < n
      · have HB := Lib.hid hb
        have HS : Hid (Mn.lo (k + 1) = Mn.low ((Mn.lo k).1 * (k + 1) + (Mn.lo k).2) ((Mn.lo k).2 * (k + 1))) := rfl
        obtain ⟨x, hx⟩ : ∃ x, x = (Mn.lo k).1 := ⟨_, rfl⟩
        obtain ⟨y, hy⟩ : ∃ y, y = (Mn.lo k).2 := ⟨_, rfl⟩
        rw [← hx, ← hy] at HS hbd
        rw [← hx, ← hy]
        have hm1 : x * (k + 1) ≤ 10000000000000 * 16 := Nat.mul_le_mul (by omega) (by omega)
        have hm2 : y * (k + 1) ≤ 10000000000000 * 16 := Nat.mul_le_mul (by omega) (by omega)
        have hm3 : 1 * 1 ≤ y * (k + 1) := Nat.mul_le_mul (by omega) (by omega)
        obtain ⟨p, hp⟩ : ∃ p, p = x * (k + 1) := ⟨_, rfl⟩
        obtain ⟨q, hq⟩ : ∃ q, q = y * (k + 1) := ⟨_, rfl⟩
        have E1 : Hid ((x : Int) * ((k : Int) + 1) = (p : Int)) := Lib.hid (by rw [hp]; simp)
        have E2 : Hid ((y : Int) * ((k : Int) + 1) = (q : Int)) := Lib.hid (by rw [hq]; simp)
        rw [← hp, ← hq] at HS
        rw [← hp] at hm1
        rw [← hq] at hm2 hm3
        have HL := Lib.hid (heLow_any (p + y) q (by omega) (by omega) (by omega))
        rw [← HS.out] at HL
        have e1 := E1.out
        have e2 := E2.out
        clear hx hy hp hq hb
        go_wp2_with fail
        go_at_call 45
        refine (HL.out _).mono ?_
        rintro e w2 ⟨rfl, b2⟩
        have HB2 : Hid (Below w.heap.size w w2) := HB.out.trans (b2.mono HB.out.size)
        clear b2
        go_wp2
        go_roundw
        case rel => exact ⟨k + 1, by omega, by go_num, rfl, rfl, HB2.out⟩
        case measure => simp [intOf]; omega
      · have hkn : Hid (k = n) := Lib.hid (by omega)
        have HB := Lib.hid hb
        clear hb
        go_wp2
        go_ret3
        exact ⟨by have := hkn.out; subst this; rfl, HB.out⟩

set_option maxHeartbeats 1000000 in
theorem commonDivisor_any (n d : Nat) (h1 : 1 ≤ d) (w : World) :
    Calls Try.prog 46 #[.int .i64 n, .int .i64 d] w fun e w' => e = .returned (.int .i64 ((Nat.gcd n d : Nat) : Int)) ∧ Below w.heap.size w w' := by
  go_enter Try.func46, Try.ntmps46
  go_wp2
  go_loopw [0, 1] (fun x y wr => ∃ a b : Nat, x = .int .i64 (a : Int) ∧ y = .int .i64 (b : Int) ∧ Hid (Nat.gcd a b = Nat.gcd n d) ∧ (1 ≤ a ∨ 1 ≤ b) ∧ Below w.heap.size w wr) (fun _ y _ => (intOf y).toNat)
  case atStart => exact ⟨n, d, rfl, rfl, rfl, .inr h1, Below.refl _ _⟩
  case round =>
    obtain ⟨a, b, rfl, rfl, HG, hab, hb⟩ := hrel
    have HB := Lib.hid hb
    clear hb
    by_cases hz : 0 < b
    · have HG2 : Hid (Nat.gcd b (a % b) = Nat.gcd n d) := Lib.hid (by rw [← HG.out, Nat.gcd_comm a b, Nat.gcd_rec b a, Nat.gcd_comm])
      have hml := Nat.mod_lt a hz
      have hb0 : ¬ b = 0 := by omega
      go_wp2_with fail
      go_quiet (fail)
      go_wp2
      go_roundw
      case rel => exact ⟨b, a % b, rfl, int_eq (by omega), HG2.out, .inl hz, ⟨HB.out.os, HB.out.tape, HB.out.output, HB.out.size, HB.out.block⟩⟩
      case measure => simp [intOf]; omega
    · obtain rfl : b = 0 := by omega
      have HA : Hid (a = Nat.gcd n d) := Lib.hid (by rw [← HG.out, Nat.gcd_zero_right])
      clear hab hz
      go_wp2
      go_ret
      exact ⟨ret_int (by rw [HA.out]), HB.out⟩

set_option maxHeartbeats 1000000 in
theorem implMeanSeen_any (w : World) (s : Int) (_ws : (Lit.int .i64 s).wf = true) :
    Calls Try.prog 27 #[.int .i64 s] w fun e w' => e = .returned (.tuple #[.int .i64 (outMeanSeen_0 s), .int .i64 (outMeanSeen_1 s), .bool (outMeanSeen_2 s)]) ∧ Below w.heap.size w w' := by
  clear _ws
  rcases hs : inB s 1 15 with _ | _
  · have H0 : Hid (outMeanSeen_0 s = 0) := Lib.hid (by unfold outMeanSeen_0; rw [hs]; rfl)
    have H1 : Hid (outMeanSeen_1 s = 0) := Lib.hid (by unfold outMeanSeen_1; rw [hs]; rfl)
    have H2 : Hid (outMeanSeen_2 s = false) := hs
    rw [H0.out, H1.out, H2.out]
    unfold inB at hs
    simp only [decide_eq_false_iff_not] at hs
    by_cases h0 : s < 1
    · clear hs
      go_enter Try.func27, Try.ntmps27
      go_wp2
      go_ret3
      exact ⟨rfl, Below.refl _ _⟩
    · have h1 : 15 < s := by omega
      clear hs
      go_enter Try.func27, Try.ntmps27
      go_wp2
      go_ret3
      exact ⟨rfl, Below.refl _ _⟩
  · have H2 : Hid (outMeanSeen_2 s = true) := hs
    rw [H2.out]
    have hs2 := hs
    unfold inB at hs2
    simp only [decide_eq_true_eq] at hs2
    obtain ⟨n, rfl⟩ : ∃ n : Nat, s = (n : Int) := ⟨s.toNat, by omega⟩
    have H0 : Hid (outMeanSeen_0 n = ((Mn.ab n).1 / Nat.gcd (Mn.ab n).1 (Mn.ab n).2 : Nat)) := Lib.hid (by unfold outMeanSeen_0; rw [hs]; show (((Mn.lo n).1 : Nat) : Int) = _; rw [← Mn.same n (by omega)]; rfl)
    have H1 : Hid (outMeanSeen_1 n = ((Mn.ab n).2 / Nat.gcd (Mn.ab n).1 (Mn.ab n).2 : Nat)) := Lib.hid (by unfold outMeanSeen_1; rw [hs]; show (((Mn.lo n).2 : Nat) : Int) = _; rw [← Mn.same n (by omega)]; rfl)
    rw [H0.out, H1.out]
    have hn : n ≤ 15 := by omega
    have n1 : ¬ n = 0 := by omega
    clear hs hs2 H0 H1 H2
    have j1 : ¬ (n : Int) < 1 := by omega
    have j2 : ¬ (15 : Int) < (n : Int) := by omega
    go_enter Try.func27, Try.ntmps27
    go_wp2
    go_loop [5, 6, 7] (fun x y i => ∃ k : Nat, k ≤ n ∧ i = .int .i64 ((k : Int) + 1) ∧ x = .int .i64 ((Mn.ab k).1 : Nat) ∧ y = .int .i64 ((Mn.ab k).2 : Nat)) (fun _ _ i => n + 1 - (intOf i).toNat)
    case atStart => exact ⟨0, Nat.zero_le _, rfl, rfl, rfl⟩
    case round =>
      obtain ⟨k, hk, rfl, rfl, rfl⟩ := hrel
      have hbd := Mn.ab_bd k (by omega)
      by_cases hlt : k < n
      · have HS : Hid (Mn.ab (k + 1) = ((Mn.ab k).1 * (k + 1) + (Mn.ab k).2, (Mn.ab k).2 * (k + 1))) := rfl
        obtain ⟨x, hx⟩ : ∃ x, x = (Mn.ab k).1 := ⟨_, rfl⟩
        obtain ⟨y, hy⟩ : ∃ y, y = (Mn.ab k).2 := ⟨_, rfl⟩
        rw [← hx, ← hy] at HS hbd
        rw [← hx, ← hy]
        have hm1 : x * (k + 1) ≤ 10000000000000 * 16 := Nat.mul_le_mul (by omega) (by omega)
        have hm2 : y * (k + 1) ≤ 10000000000000 * 16 := Nat.mul_le_mul (by omega) (by omega)
        obtain ⟨p, hp⟩ : ∃ p, p = x * (k + 1) := ⟨_, rfl⟩
        obtain ⟨q, hq⟩ : ∃ q, q = y * (k + 1) := ⟨_, rfl⟩
        have e1 : (x : Int) * ((k : Int) + 1) = (p : Int) := by rw [hp]; simp
        have e2 : (y : Int) * ((k : Int) + 1) = (q : Int) := by rw [hq]; simp
        rw [← hp, ← hq] at HS
        rw [← hp] at hm1
        rw [← hq] at hm2
        clear hx hy hp hq
        go_wp2
        go_round
        case rel => exact ⟨k + 1, by omega, by go_num, int_eq (by rw [HS.out]; simp), int_eq (by rw [HS.out])⟩
        case measure => simp [intOf]; omega
      · obtain rfl : k = n := by omega
        obtain ⟨x, hx⟩ : ∃ x, x = (Mn.ab k).1 := ⟨_, rfl⟩
        obtain ⟨y, hy⟩ : ∃ y, y = (Mn.ab k).2 := ⟨_, rfl⟩
        rw [← hx, ← hy] at hbd
        rw [← hx, ← hy]
        have HX := Lib.hid hx
        have HY := Lib.hid hy
        have HC := Lib.hid (commonDivisor_any x y (by omega))
        have hg : ¬ Nat.gcd x y = 0 := fun h => by have := Nat.eq_zero_of_gcd_eq_zero_right h; omega
        obtain ⟨g, hgg⟩ : ∃ g, g = Nat.gcd x y := ⟨_, rfl⟩
        rw [← hgg] at HC hg
        have HGG := Lib.hid hgg
        clear hx hy hgg
        go_wp2_with fail
        go_at_call 46
        refine (HC.out _).mono ?_
        rintro e w2 ⟨rfl, b2⟩
        have HB2 := Lib.hid b2
        clear b2
        go_wp2_with fail
        go_quiet (fail)
        go_wp2
        go_ret3
        refine ⟨?_, ⟨HB2.out.os, HB2.out.tape, HB2.out.output, HB2.out.size, HB2.out.block⟩⟩
        rw [← HX.out, ← HY.out, ← HGG.out]
        simp
        exact ⟨wrapq x g (by omega), wrapq y g (by omega)⟩

end Go.Proofs.Ytnajlnghhboelab
