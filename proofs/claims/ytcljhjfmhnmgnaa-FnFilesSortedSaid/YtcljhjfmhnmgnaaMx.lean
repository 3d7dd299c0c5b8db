/- slices.Min, slices.Max at ints. -/
import Derived.Test.YtcljhjfmhnmgnaaHeSpec
import Derived.RegionTactic
import Derived.BigRegion
namespace Go.Proofs.Ytcljhjfmhnmgnaa
open Go.ChangeShapes Go.WideShapes Go.ChangeAt Go.RowKit

/-- the greatest, the least of the first k + 1 -/
def maxTo (zs : List Int) : Nat → Int
  | 0 => zs.getD 0 0
  | k + 1 => max (maxTo zs k) (zs.getD (k + 1) 0)
def minTo (zs : List Int) : Nat → Int
  | 0 => zs.getD 0 0
  | k + 1 => min (minTo zs k) (zs.getD (k + 1) 0)
theorem maxTo_ge (zs : List Int) : ∀ k j, j ≤ k → zs.getD j 0 ≤ maxTo zs k
  | 0, j, h => by obtain rfl : j = 0 := by omega
                  exact Int.le_refl _
  | k + 1, j, h => by
    rw [maxTo]
    by_cases e : j = k + 1
    · subst e; omega
    · have := maxTo_ge zs k j (by omega); omega
theorem minTo_le (zs : List Int) : ∀ k j, j ≤ k → minTo zs k ≤ zs.getD j 0
  | 0, j, h => by obtain rfl : j = 0 := by omega
                  exact Int.le_refl _
  | k + 1, j, h => by
    rw [minTo]
    by_cases e : j = k + 1
    · subst e; omega
    · have := minTo_le zs k j (by omega); omega
theorem maxTo_is (zs : List Int) : ∀ k, ∃ j, j ≤ k ∧ zs.getD j 0 = maxTo zs k
  | 0 => ⟨0, Nat.le_refl _, rfl⟩
  | k + 1 => by
    obtain ⟨j, h1, h2⟩ := maxTo_is zs k
    rw [maxTo]
    by_cases e : maxTo zs k ≤ zs.getD (k + 1) 0
    · exact ⟨k + 1, Nat.le_refl _, by omega⟩
    · exact ⟨j, by omega, by omega⟩
theorem minTo_is (zs : List Int) : ∀ k, ∃ j, j ≤ k ∧ zs.getD j 0 = minTo zs k
  | 0 => ⟨0, Nat.le_refl _, rfl⟩
  | k + 1 => by
    obtain ⟨j, h1, h2⟩ := minTo_is zs k
    rw [minTo]
    by_cases e : zs.getD (k + 1) 0 ≤ minTo zs k
    · exact ⟨k + 1, Nat.le_refl _, by omega⟩
    · exact ⟨j, by omega, by omega⟩

set_option maxRecDepth 20000 in
set_option maxHeartbeats 1000000 in
theorem max_any (w : World) (a : Option Addr) (len cap : Nat) (zs : List Int) (h1 : 0 < len) (hl : len ≤ 4611686018427387904) (hc : Came w a len zs) :
    Calls Try.prog 65 #[.slice a len cap] w fun e w' => e = .returned (.int .i64 (maxTo zs (len - 1))) ∧ w = w' := by
  obtain ⟨b, off, rfl, hcell⟩ := hc.2 h1
  have HC := Lib.hid hc
  have e0 : w.cell? ⟨b, off, none⟩ = some (.int .i64 (zs.getD 0 0)) := hcell 0 h1
  have HM0 : Hid (maxTo zs 0 = zs.getD 0 0) := rfl
  obtain ⟨z0, hz0⟩ : ∃ z, z = zs.getD 0 0 := ⟨_, rfl⟩
  rw [← hz0] at e0 HM0
  clear hcell hc hz0
  have b1 : decide ((len : Int) < 1) = false := by simp; omega
  go_enter Try.func65, Try.ntmps65
  go_wp2
  go_loop [3, 4] (fun m i => ∃ k : Nat, k < len ∧ i = .int .i64 ((k : Int) + 1) ∧ m = .int .i64 (maxTo zs k)) (fun _ i => len + 1 - (intOf i).toNat)
  case atStart => exact ⟨0, h1, rfl, int_eq HM0.out.symm⟩
  case round =>
    obtain ⟨k, hk, rfl, rfl⟩ := hrel
    by_cases hlt : k + 1 < len
    · obtain ⟨b', off', hbo, hcell⟩ := HC.out.2 h1
      cases hbo
      have e1 := hcell (k + 1) hlt
      have HS : Hid (maxTo zs (k + 1) = max (maxTo zs k) (zs.getD (k + 1) 0)) := rfl
      obtain ⟨z, hz⟩ : ∃ z, z = zs.getD (k + 1) 0 := ⟨_, rfl⟩
      obtain ⟨m, hm⟩ : ∃ m, m = maxTo zs k := ⟨_, rfl⟩
      rw [← hz] at e1 HS
      rw [← hm] at HS ⊢
      clear hcell hz hm e0
      go_wp2
      go_round
      case rel => exact ⟨k + 1, by omega, by go_num, int_eq (by rw [HS.out]; omega)⟩
      case measure => simp [intOf]; omega
    · have hkn : Hid (len - 1 = k) := Lib.hid (by omega)
      clear e0
      go_wp2
      go_ret
      exact ⟨ret_int (by rw [hkn.out]), rfl⟩
set_option maxRecDepth 20000 in
set_option maxHeartbeats 1000000 in
theorem min_any (w : World) (a : Option Addr) (len cap : Nat) (zs : List Int) (h1 : 0 < len) (hl : len ≤ 4611686018427387904) (hc : Came w a len zs) :
    Calls Try.prog 64 #[.slice a len cap] w fun e w' => e = .returned (.int .i64 (minTo zs (len - 1))) ∧ w = w' := by
  obtain ⟨b, off, rfl, hcell⟩ := hc.2 h1
  have HC := Lib.hid hc
  have e0 : w.cell? ⟨b, off, none⟩ = some (.int .i64 (zs.getD 0 0)) := hcell 0 h1
  have HM0 : Hid (minTo zs 0 = zs.getD 0 0) := rfl
  obtain ⟨z0, hz0⟩ : ∃ z, z = zs.getD 0 0 := ⟨_, rfl⟩
  rw [← hz0] at e0 HM0
  clear hcell hc hz0
  have b1 : decide ((len : Int) < 1) = false := by simp; omega
  go_enter Try.func64, Try.ntmps64
  go_wp2
  go_loop [3, 4] (fun m i => ∃ k : Nat, k < len ∧ i = .int .i64 ((k : Int) + 1) ∧ m = .int .i64 (minTo zs k)) (fun _ i => len + 1 - (intOf i).toNat)
  case atStart => exact ⟨0, h1, rfl, int_eq HM0.out.symm⟩
  case round =>
    obtain ⟨k, hk, rfl, rfl⟩ := hrel
    by_cases hlt : k + 1 < len
    · obtain ⟨b', off', hbo, hcell⟩ := HC.out.2 h1
      cases hbo
      have e1 := hcell (k + 1) hlt
      have HS : Hid (minTo zs (k + 1) = min (minTo zs k) (zs.getD (k + 1) 0)) := rfl
      obtain ⟨z, hz⟩ : ∃ z, z = zs.getD (k + 1) 0 := ⟨_, rfl⟩
      obtain ⟨m, hm⟩ : ∃ m, m = minTo zs k := ⟨_, rfl⟩
      rw [← hz] at e1 HS
      rw [← hm] at HS ⊢
      clear hcell hz hm e0
      go_wp2
      go_round
      case rel => exact ⟨k + 1, by omega, by go_num, int_eq (by rw [HS.out]; omega)⟩
      case measure => simp [intOf]; omega
    · have hkn : Hid (len - 1 = k) := Lib.hid (by omega)
      clear e0
      go_wp2
      go_ret
      exact ⟨ret_int (by rw [hkn.out]), rfl⟩

theorem allB_minmax {zs : List Int} {lo hi : Int} (h : 0 < zs.length) : allB zs lo hi = (decide (minTo zs (zs.length - 1) ≥ lo) && decide (maxTo zs (zs.length - 1) ≤ hi)) := by
  rw [Bool.eq_iff_iff, Bool.and_eq_true, decide_eq_true_eq, decide_eq_true_eq]
  constructor
  · intro ha
    unfold allB at ha
    rw [List.all_eq_true] at ha
    have hm : ∀ j, j < zs.length → lo ≤ zs.getD j 0 ∧ zs.getD j 0 ≤ hi := fun j hj => by
      have := ha (zs.getD j 0) (by simp only [List.getD_eq_getElem?_getD, List.getElem?_eq_getElem hj, Option.getD_some]; exact List.getElem_mem hj)
      unfold inB at this
      exact of_decide_eq_true this
    obtain ⟨j, h1, h2⟩ := minTo_is zs (zs.length - 1)
    obtain ⟨i, h3, h4⟩ := maxTo_is zs (zs.length - 1)
    have := hm j (by omega)
    have := hm i (by omega)
    omega
  · intro ⟨h1, h2⟩
    refine allB_of fun j hj => ?_
    have := minTo_le zs (zs.length - 1) j (by omega)
    have := maxTo_ge zs (zs.length - 1) j (by omega)
    unfold inB
    simp only [decide_eq_true_eq]
    omega

end Go.Proofs.Ytcljhjfmhnmgnaa
