/- Chapter 6, the program: CountSortedFiles by hook lengths. -/
import Derived.Test.YtpoceonmlpnhlabFid
namespace Go.Proofs.Ytpoceonmlpnhlab
open Go.ChangeShapes Go.WideShapes Go.ChangeAt Go.RowKit
open Fi

namespace Fi
/-- all orders of so many -/
def facN : Nat → Nat
  | 0 => 1
  | k + 1 => facN k * (k + 1)
/-- all orders, divided for the first m places -/
def hookTo (r c : Nat) : Nat → Nat
  | 0 => facN (r * c)
  | m + 1 => hookTo r c m / (r - m / c + c - m % c - 1)
theorem hook_all : ∀ r, r < 5 → ∀ c, c < 6 → 1 ≤ r → 1 ≤ c → hookTo r c (r * c) = wayF r c := by decide +kernel
theorem fac_few : ∀ k, k < 21 → facN k ≤ 2432902008176640000 := by decide +kernel
theorem hook_le (r c : Nat) : ∀ m, hookTo r c m ≤ facN (r * c)
  | 0 => Nat.le_refl _
  | m + 1 => by rw [hookTo]; exact Nat.le_trans (Nat.div_le_self _ _) (hook_le r c m)
theorem hook_at {r c i j : Nat} (hj : j < c) : hookTo r c (i * c + j + 1) = hookTo r c (i * c + j) / (r - i + c - j - 1) := by
  have hc : 0 < c := by omega
  have e1 : (i * c + j) / c = i := by rw [Nat.add_comm, Nat.add_mul_div_right _ _ hc, Nat.div_eq_of_lt hj, Nat.zero_add]
  have e2 : (i * c + j) % c = j := by rw [Nat.add_comm, Nat.add_mul_mod_self_right, Nat.mod_eq_of_lt hj]
  rw [hookTo, e1, e2]
end Fi

theorem count_noP {r c : Int} (h : askF r c = false) : outCountSortedFiles_0 r c = 0 ∧ outCountSortedFiles_1 r c = false := by
  unfold outCountSortedFiles_0 outCountSortedFiles_1
  rw [h]
  exact ⟨rfl, rfl⟩
set_option maxHeartbeats 4000000 in
theorem implCountSortedFiles_any (w : World) (r c : Int) (_wr : (Lit.int .i64 r).wf = true) (_wc : (Lit.int .i64 c).wf = true) :
    Calls Try.prog 25 #[.int .i64 r, .int .i64 c] w fun e w' => e = .returned (.tuple #[.int .i64 (outCountSortedFiles_0 r c), .bool (outCountSortedFiles_1 r c)]) ∧ Below w.heap.size w w' := by
  clear _wr _wc
  by_cases h1 : r < 1
  · have H0 := Lib.hid (count_noP (r := r) (c := c) (by unfold askF; rw [inB_no (fun e => by omega)]; rfl))
    go_enter Try.func25, Try.ntmps25
    go_wp2
    go_ret2
    exact ⟨by rw [H0.out.1, H0.out.2]; exact rfl, Below.refl _ _⟩
  by_cases h2 : 4 < r
  · have H0 := Lib.hid (count_noP (r := r) (c := c) (by unfold askF; rw [inB_no (fun e => by omega)]; rfl))
    go_enter Try.func25, Try.ntmps25
    go_wp2
    go_ret2
    exact ⟨by rw [H0.out.1, H0.out.2]; exact rfl, Below.refl _ _⟩
  by_cases h3 : c < 1
  · have H0 := Lib.hid (count_noP (r := r) (c := c) (by unfold askF; rw [inB_no (n := c) (fun e => by omega)]; simp))
    go_enter Try.func25, Try.ntmps25
    go_wp2
    go_ret2
    exact ⟨by rw [H0.out.1, H0.out.2]; exact rfl, Below.refl _ _⟩
  by_cases h4 : 5 < c
  · have H0 := Lib.hid (count_noP (r := r) (c := c) (by unfold askF; rw [inB_no (n := c) (fun e => by omega)]; simp))
    go_enter Try.func25, Try.ntmps25
    go_wp2
    go_ret2
    exact ⟨by rw [H0.out.1, H0.out.2]; exact rfl, Below.refl _ _⟩
  obtain ⟨R, rfl⟩ : ∃ R : Nat, r = (R : Int) := ⟨r.toNat, by omega⟩
  obtain ⟨C, rfl⟩ : ∃ C : Nat, c = (C : Int) := ⟨c.toNat, by omega⟩
  have hR1 : 1 ≤ R := by omega
  have hR4 : R ≤ 4 := by omega
  have hC1 : 1 ≤ C := by omega
  have hC5 : C ≤ 5 := by omega
  have H0 : Hid (outCountSortedFiles_0 R C = (wayF R C : Nat) ∧ outCountSortedFiles_1 R C = true) := Lib.hid (by unfold outCountSortedFiles_0 outCountSortedFiles_1 askF; rw [inB_of ⟨by omega, by omega⟩, inB_of ⟨by omega, by omega⟩, Int.toNat_natCast, Int.toNat_natCast]; exact ⟨rfl, rfl⟩)
  have HHA := Lib.hid (hook_all R (by omega) C (by omega) hR1 hC1)
  obtain ⟨P, hP⟩ : ∃ P, P = R * C := ⟨_, rfl⟩
  have eP : (R : Int) * (C : Int) = (P : Int) := by rw [hP]; simp
  have hP20 : P ≤ 20 := by rw [hP]; exact Nat.mul_le_mul hR4 hC5
  have HP := Lib.hid hP
  have HF20 := Lib.hid (fun m => Nat.le_trans (hook_le R C m) (fac_few (R * C) (by omega)))
  clear h1 h2 h3 h4 hP
  have h1 : ¬ (R : Int) < 1 := by omega
  have h2 : ¬ (4 : Int) < (R : Int) := by omega
  have h3 : ¬ (C : Int) < 1 := by omega
  have h4 : ¬ (5 : Int) < (C : Int) := by omega
  go_enter Try.func25, Try.ntmps25
  go_wp2
  go_loop [6, 27] (fun v i => ∃ k p : Nat, k ≤ P ∧ i = .int .i64 (k : Int) ∧ v = .int .i64 (p : Int) ∧ p ≤ 2432902008176640000 ∧ Hid (p = facN k)) (fun _ i => P - (intOf i).toNat)
  case atStart => exact ⟨0, 1, Nat.zero_le _, rfl, rfl, by omega, Lib.hid rfl⟩
  case round =>
    obtain ⟨k, p, hk, rfl, rfl, hpb, HPK⟩ := hrel
    by_cases hlt : k < P
    · obtain ⟨q, hq⟩ : ∃ q, q = facN (k + 1) := ⟨_, rfl⟩
      have e1 : (p : Int) * ((k : Int) + 1) = (q : Int) := by rw [hq, HPK.out, facN, Int.natCast_mul]; rfl
      have hqb : q ≤ 2432902008176640000 := by rw [hq]; exact fac_few _ (by omega)
      have HQ := Lib.hid hq
      have i1 : (k : Int) < (P : Int) := by omega
      clear hq
      go_wp2
      go_round
      case rel => exact ⟨k + 1, q, by omega, by go_num, rfl, hqb, HQ⟩
      case measure => simp [intOf]; omega
    · have HS : Hid (p = hookTo R C (0 * C)) := Lib.hid (by rw [HPK.out, Nat.zero_mul, hookTo, show k = P by omega, HP.out])
      clear HPK
      go_wp2
      go_loop [6, 36] (fun v i => ∃ x p : Nat, x ≤ R ∧ i = .int .i64 (x : Int) ∧ v = .int .i64 (p : Int) ∧ Hid (p = hookTo R C (x * C))) (fun _ i => R - (intOf i).toNat)
      case atStart => exact ⟨0, p, Nat.zero_le _, rfl, rfl, HS⟩
      case round =>
        obtain ⟨x, p2, hx, rfl, rfl, HX⟩ := hrel
        clear HS
        by_cases hltx : x < R
        · have HX0 : Hid (p2 = hookTo R C (x * C + 0)) := Lib.hid HX.out
          have i2 : (x : Int) < (R : Int) := by omega
          clear HX
          go_wp2
          go_loop [6, 40] (fun v i => ∃ y p : Nat, y ≤ C ∧ i = .int .i64 (y : Int) ∧ v = .int .i64 (p : Int) ∧ Hid (p = hookTo R C (x * C + y))) (fun _ i => C - (intOf i).toNat)
          case atStart => exact ⟨0, p2, Nat.zero_le _, rfl, rfl, HX0⟩
          case round =>
            obtain ⟨y, p3, hy, rfl, rfl, HY⟩ := hrel
            clear HX0
            by_cases hlty : y < C
            · obtain ⟨d, hd⟩ : ∃ d, d = R - x + C - y - 1 := ⟨_, rfl⟩
              have ed : (R : Int) - (x : Int) + (C : Int) - (y : Int) - 1 = (d : Int) := by omega
              have hd1 : 1 ≤ d := by omega
              have hd8 : d ≤ 8 := by omega
              have hd0 : ¬ (d : Int) = 0 := by omega
              have hd0' : ¬ d = 0 := by omega
              have HN : Hid (p3 / d = hookTo R C (x * C + (y + 1))) := Lib.hid (by rw [← Nat.add_assoc, hook_at hlty, ← HY.out, hd])
              have hpb3 : p3 ≤ 2432902008176640000 := by rw [HY.out]; exact HF20.out _
              have i3 : (y : Int) < (C : Int) := by omega
              obtain ⟨q, hq⟩ : ∃ q, q = p3 / d := ⟨_, rfl⟩
              have e2 : (p3 : Int) / (d : Int) = (q : Int) := by rw [hq]; simp
              have hqb : q ≤ 2432902008176640000 := by rw [hq]; exact Nat.le_trans (Nat.div_le_self _ _) hpb3
              rw [← hq] at HN
              clear hd HY hq
              go_wp2
              go_round
              case rel => exact ⟨y + 1, q, by omega, by go_num, rfl, HN⟩
              case measure => simp [intOf]; omega
            · have HN : Hid (p3 = hookTo R C ((x + 1) * C)) := Lib.hid (by rw [Nat.succ_mul, HY.out, show y = C by omega])
              clear HY
              go_wp2
              go_round
              case rel => exact ⟨x + 1, p3, by omega, by go_num, rfl, HN⟩
              case measure => simp [intOf]; omega
        · have HW : Hid (p2 = wayF R C) := Lib.hid (by rw [HX.out, show x = R by omega]; exact HHA.out)
          go_wp2
          go_ret2
          exact ⟨by rw [H0.out.1, H0.out.2, ← HW.out]; exact rfl, Below.refl _ _⟩

end Go.Proofs.Ytpoceonmlpnhlab
