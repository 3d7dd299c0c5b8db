/- Chapter 6, the model: fiTurn, fiSorted, fiEnd; TurnFiles, AreRowsSorted, AreColumnsSorted, ShortestOfTallest, TallestOfShortest. -/
import Derived.Test.YtcljhjfmhnmgnaaFi
import Derived.Test.YtcljhjfmhnmgnaaLeast
import Derived.Test.YtcljhjfmhnmgnaaMost
import Derived.Test.YtcljhjfmhnmgnaaDrew
namespace Go.Proofs.Ytcljhjfmhnmgnaa
open Go.ChangeShapes Go.WideShapes Go.ChangeAt Go.RowKit
open Fi

namespace Fi
/-- column k -/
def col (zss : List (List Int)) (k : Nat) : List Int := upTo (fun i => (row zss i).getD k 0) zss.length
def turnTo (zss : List (List Int)) (k : Nat) : List (List Int) := (List.range k).map (col zss)
def turnL (zss : List (List Int)) : List (List Int) := turnTo zss (row zss 0).length
theorem turnTo_succ (zss : List (List Int)) (k : Nat) : turnTo zss (k + 1) = turnTo zss k ++ [col zss k] := by unfold turnTo; rw [List.range_succ, List.map_append]; rfl
theorem length_turnTo (zss : List (List Int)) (k : Nat) : (turnTo zss k).length = k := by simp [turnTo]
theorem length_col (zss : List (List Int)) (k : Nat) : (col zss k).length = zss.length := length_upTo _ _
theorem row_turn (zss : List (List Int)) (k : Nat) (h : k < (row zss 0).length) : row (turnL zss) k = col zss k := by
  unfold turnL turnTo
  show ((List.range _).map (col zss)).getD k [] = _
  rw [getD_range _ _ _ h]
theorem length_turnL (zss : List (List Int)) : (turnL zss).length = (row zss 0).length := length_turnTo _ _
theorem good_turn {zss : List (List Int)} {R C : Nat} (h : Good zss R C) : Good (turnL zss) C R := by
  have hC := h.cols 0 (by have := h.r1; omega)
  refine ⟨by rw [length_turnL, hC], h.c1, h.c8, h.r1, h.r8, fun i hi => ?_, fun i hi => ?_⟩
  · rw [row_turn _ _ (by omega), length_col, h.rows]
  · rw [row_turn _ _ (by omega)]
    refine allB_of fun j hj => ?_
    rw [length_col] at hj
    unfold col
    rw [getD_upTo _ _ _ hj]
    exact inB_of (h.get j i (by rw [← h.rows]; exact hj) hi)
theorem tot_good {zss : List (List Int)} {R C : Nat} (h : Good zss R C) : total zss ≤ 64 := by
  have := tot_rows zss C (fun x hx => by
    obtain ⟨i, hi, rfl⟩ := List.getElem_of_mem hx
    have e : zss[i] = row zss i := by unfold row; simp [List.getD_eq_getElem?_getD, hi]
    rw [e, h.cols i (by rw [← h.rows]; exact hi)]
    exact Nat.le_refl _) zss.length
  have h2 : zss.length * C ≤ 8 * 8 := Nat.mul_le_mul (by rw [h.rows]; exact h.r8) h.c8
  unfold total
  omega
theorem Good.fits {zss : List (List Int)} {R C : Nat} (h : Good zss R C) : FitsSS zss := ⟨by have := h.rows; have := h.r8; omega, by have := tot_good h; omega⟩
theorem fits_good {zss : List (List Int)} {R C : Nat} (h : Good zss R C) : zss.length ≤ 1000000000 ∧ total zss ≤ 1000000000 := h.fits.fits

def rowSortedB (r : List Int) : Bool := (List.range (r.length - 1)).all fun k => decide (r.getD k 0 ≤ r.getD (k + 1) 0)
def sortedB (zss : List (List Int)) : Bool := zss.all rowSortedB
theorem rowSorted_iff {r : List Int} : rowSortedB r = true ↔ ∀ k, k + 1 < r.length → r.getD k 0 ≤ r.getD (k + 1) 0 := by
  unfold rowSortedB
  simp only [List.all_eq_true, List.mem_range, decide_eq_true_eq]
  exact ⟨fun h k hk => h k (by omega), fun h k hk => h k (by omega)⟩
theorem rowSorted_not {r : List Int} {k : Nat} (hk : k + 1 < r.length) (h : r.getD (k + 1) 0 < r.getD k 0) : rowSortedB r = false := by
  cases hb : rowSortedB r with
  | false => rfl
  | true => have := rowSorted_iff.1 hb k hk; omega
theorem sorted_all {zss : List (List Int)} (h : ∀ i, i < zss.length → rowSortedB (row zss i) = true) : sortedB zss = true := by
  unfold sortedB
  rw [List.all_eq_true]
  intro r hr
  obtain ⟨i, hi, rfl⟩ := List.getElem_of_mem hr
  have := h i hi
  unfold row at this
  simpa [List.getD_eq_getElem?_getD, hi] using this
theorem sorted_not {zss : List (List Int)} {i : Nat} (hi : i < zss.length) (h : rowSortedB (row zss i) = false) : sortedB zss = false := by
  unfold sortedB
  rw [List.all_eq_false]
  exact ⟨row zss i, row_mem hi, by rw [h]; simp⟩

/-- the least one of the first one and of the first j -/
def leastTo (zs : List Int) : Nat → Int
  | 0 => zs.getD 0 0
  | j + 1 => min (leastTo zs j) (zs.getD j 0)
def mostTo (zs : List Int) : Nat → Int
  | 0 => zs.getD 0 0
  | j + 1 => max (mostTo zs j) (zs.getD j 0)
def leastL (zs : List Int) : Int := leastTo zs zs.length
def mostL (zs : List Int) : Int := mostTo zs zs.length
def shortTo (zss : List (List Int)) : Nat → Int
  | 0 => 999
  | j + 1 => min (shortTo zss j) (mostL (row (turnL zss) j))
def tallTo (zss : List (List Int)) : Nat → Int
  | 0 => 0
  | j + 1 => max (tallTo zss j) (leastL (row zss j))
end Fi

set_option maxRecDepth 20000 in
set_option maxHeartbeats 1000000 in
theorem fiTurn_any (w : World) (a : Option Addr) (len cap : Nat) (zss : List (List Int)) (C : Nat) (h1 : 1 ≤ len) (h64 : len ≤ 64) (hC : C ≤ 64) (hcols : ∀ i, i < len → (row zss i).length = C) (hc : CameSS w a len zss) :
    Calls Try.prog 40 #[.slice a len cap] w fun e w' => ∃ v, e = .returned v ∧ OwnSS w' w.heap.size v (turnL zss) ∧ Below w.heap.size w w' := by
  have HZ : Hid (zss.length = len) := Lib.hid hc.1
  have HC := Lib.hid hc
  have HL := Lib.hid hcols
  have HE : Hid (turnL zss = turnTo zss C) := Lib.hid (by unfold turnL; rw [hcols 0 (by omega)])
  obtain ⟨b, off, a0, c0, rfl, e0, _, _, _⟩ := hc.at 0 (by omega)
  rw [Nat.add_zero, show (zss.getD 0 []).length = C from hcols 0 (by omega)] at e0
  have i1 : (0 : Int) < (len : Int) := by omega
  clear hc hcols
  go_enter Try.func40, Try.ntmps40
  go_wp2
  clear e0
  go_loopw [3, 12] (fun v i wr => ∃ k : Nat, k ≤ C ∧ i = .int .i64 k ∧ Hid (OwnSS wr w.heap.size v (turnTo zss k)) ∧ Hid (Below w.heap.size w wr)) (fun _ i _ => C - (intOf i).toNat)
  case atStart => exact ⟨0, Nat.zero_le _, rfl, Lib.hid (ownSS_nil _ _), Lib.hid (Below.refl _ _)⟩
  case round =>
    obtain ⟨k, hk, rfl, HO, HB⟩ := hrel
    by_cases hlt : k < C
    · obtain ⟨wo, rfl⟩ : ∃ wo : World, wo = wr := ⟨_, rfl⟩
      have i2 : (k : Int) < (C : Int) := by omega
      go_wp2
      go_loopw [5, 17] (fun v i wr => ∃ j : Nat, j ≤ len ∧ i = .int .i64 j ∧ Hid (Own wr wo.heap.size v (upTo (fun i => (row zss i).getD k 0) j)) ∧ Hid (Below wo.heap.size wo wr)) (fun _ i _ => len - (intOf i).toNat)
      case atStart => exact ⟨0, Nat.zero_le _, rfl, Lib.hid (own_nil _ _), Lib.hid (Below.refl _ _)⟩
      case round =>
        obtain ⟨j, hj, rfl, HR, HB2⟩ := hrel
        by_cases hlt2 : j < len
        · obtain ⟨b', off', aj, cj, he, e1, hrow, _, _⟩ := (HC.out.below (HB.out.trans (HB2.out.mono HB.out.size))).at j hlt2
          cases he
          have hq : (zss.getD j []).length = C := HL.out j hlt2
          rw [hq] at e1 hrow
          obtain ⟨b2, off2, rfl, hcell⟩ := hrow.2 (by omega)
          have e2 := hcell k hlt
          have HS := Lib.hid (upTo_succ (fun i => (row zss i).getD k 0) j)
          have hsz := HB2.out.size
          have hbl : (upTo (fun i => (row zss i).getD k 0) j).length ≤ 1000000000 := by rw [length_upTo]; omega
          obtain ⟨z, hz⟩ : ∃ z, z = (zss.getD j []).getD k 0 := ⟨_, rfl⟩
          rw [show (row zss j).getD k 0 = z from by rw [hz]; rfl] at HS
          rw [← hz] at e2
          have i3 : (0 : Int) ≤ (j : Int) := by omega
          have i4 : (j : Int) < (len : Int) := by omega
          have i5 : (0 : Int) ≤ (k : Int) := by omega
          clear hcell hrow hz hq
          go_wp2_with (at_builtin; refine wpList_app rfl _ _ rfl wr _ _ _ _ rfl rfl HR.out hsz hbl ?_; intro v' w5 hO hB5)
          have HR5 : Hid (Own w5 wo.heap.size v' (upTo (fun i => (row zss i).getD k 0) (j + 1))) := Lib.hid (by rw [HS.out]; exact hO)
          have HB5 : Hid (Below wo.heap.size wo w5) := Lib.hid (HB2.out.trans hB5)
          clear hO hB5
          go_wp2
          go_roundw
          case rel => exact ⟨j + 1, by omega, by go_num, HR5, HB5⟩
          case measure => simp [intOf]; omega
        · obtain rfl : j = len := by omega
          have HR2 : Hid (Own wr wo.heap.size _ (col zss k)) := Lib.hid (by unfold col; rw [HZ.out]; exact HR.out)
          have hbl : (turnTo zss k).length ≤ 1000000000 := by rw [length_turnTo]; omega
          have HS := Lib.hid (turnTo_succ zss k)
          have hz := HB.out.size
          have hz2 := HB2.out.size
          obtain ⟨ar, cr, rfl⟩ := HR2.out.any
          clear HR
          go_wp2_with (at_builtin; refine wpList_appRow rfl _ _ rfl wr wo _ _ _ _ _ _ rfl rfl rfl HO.out HB2.out HR2.out hz hbl ?_; intro v' w5 hO hB5)
          have HO5 : Hid (OwnSS w5 w.heap.size v' (turnTo zss (k + 1))) := Lib.hid (by rw [HS.out]; exact hO)
          have HB5 : Hid (Below w.heap.size w w5) := Lib.hid ((HB.out.trans (HB2.out.mono hz)).trans hB5)
          clear hO hB5
          go_wp2
          go_roundw
          case rel => exact ⟨k + 1, by omega, by go_num, HO5, HB5⟩
          case measure => simp [intOf]; omega
    · obtain rfl : k = C := by omega
      go_wp2
      go_ret
      exact ⟨_, rfl, by rw [HE.out]; exact HO.out, HB.out⟩

set_option maxRecDepth 20000 in
set_option maxHeartbeats 1000000 in
theorem fiSorted_any (w : World) (a : Option Addr) (len cap : Nat) (zss : List (List Int)) (h64 : len ≤ 64) (hrl : ∀ i, i < len → (row zss i).length ≤ 64) (hc : CameSS w a len zss) :
    Calls Try.prog 38 #[.slice a len cap] w fun e w' => e = .returned (.bool (sortedB zss)) ∧ Below w.heap.size w w' := by
  have HZ : Hid (zss.length = len) := Lib.hid hc.1
  have HC := Lib.hid hc
  have HL := Lib.hid hrl
  clear hc hrl
  go_enter Try.func38, Try.ntmps38
  go_wp2
  go_loopw [8] (fun i wr => ∃ k : Nat, k ≤ len ∧ i = .int .i64 k ∧ Hid (∀ j, j < k → rowSortedB (row zss j) = true) ∧ Hid (Below w.heap.size w wr)) (fun i _ => len - (intOf i).toNat)
  case atStart => exact ⟨0, Nat.zero_le _, rfl, Lib.hid fun j hj => absurd hj (Nat.not_lt_zero _), Lib.hid (Below.refl _ _)⟩
  case round =>
    obtain ⟨k, hk, rfl, HT, HB⟩ := hrel
    by_cases hlt : k < len
    · obtain ⟨b, off, ak, ck, rfl, e1, hrow, _, _⟩ := (HC.out.below HB.out).at k hlt
      have hql := HL.out k hlt
      have HRW : Hid (Came wr ak (row zss k).length (row zss k)) := Lib.hid hrow
      have e1' : wr.cell? ⟨b, off + k, none⟩ = some (.slice ak (row zss k).length ck) := e1
      obtain ⟨r, hr⟩ : ∃ r, r = row zss k := ⟨_, rfl⟩
      rw [← hr] at HRW e1' hql
      have HR := Lib.hid hr
      obtain ⟨q, hq⟩ : ∃ q, q = r.length := ⟨_, rfl⟩
      rw [← hq] at HRW e1' hql
      have HQ := Lib.hid hq
      have i3 : (0 : Int) ≤ (k : Int) := by omega
      have i4 : (k : Int) < (len : Int) := by omega
      obtain ⟨wo, rfl⟩ : ∃ wo : World, wo = wr := ⟨_, rfl⟩
      clear e1 hrow hr hq
      go_wp2
      go_loopw [5] (fun i wr => ∃ j : Nat, 1 ≤ j ∧ (j ≤ q ∨ j = 1) ∧ i = .int .i64 j ∧ Hid (∀ m, m + 1 < j → r.getD m 0 ≤ r.getD (m + 1) 0) ∧ Hid (Below wo.heap.size wo wr)) (fun i _ => q + 1 - (intOf i).toNat)
      case atStart => exact ⟨1, Nat.le_refl _, .inr rfl, rfl, Lib.hid fun m hm => absurd hm (by omega), Lib.hid (Below.refl _ _)⟩
      case round =>
        obtain ⟨j, hj1, hj2, rfl, HM, HB2⟩ := hrel
        by_cases hlt2 : j < q
        · obtain ⟨m, rfl⟩ : ∃ m, j = m + 1 := ⟨j - 1, by omega⟩
          obtain ⟨b2, off2, rfl, hcell⟩ := (HRW.out.below HB2.out).2 (by omega)
          have c1 := hcell m (by omega)
          have c2 := hcell (m + 1) hlt2
          by_cases hgt : r.getD (m + 1) 0 < r.getD m 0
          · have H0 : Hid (sortedB zss = false) := Lib.hid (sorted_not (i := k) (by have := HZ.out; omega) (by rw [← HR.out]; exact rowSorted_not (by have := HQ.out; omega) hgt))
            obtain ⟨x, hx⟩ : ∃ x, x = r.getD m 0 := ⟨_, rfl⟩
            obtain ⟨y, hy⟩ : ∃ x, x = r.getD (m + 1) 0 := ⟨_, rfl⟩
            rw [← hx] at c1 hgt
            rw [← hy] at c2 hgt
            have i5 : (0 : Int) ≤ (m : Int) := by omega
            have i6 : (m : Int) + 1 < (q : Int) := by omega
            have i7 : (m : Int) < (q : Int) := by omega
            have ew : (m : Int) + 1 - 1 = (m : Int) := by omega
            have bg : decide (y < x) = true := decide_eq_true hgt
            have BW : Hid (Below w.heap.size w wr) := Lib.hid (HB.out.trans (HB2.out.mono HB.out.size))
            clear hcell hx hy hgt hj2
            go_wp2_with fail
            go_quiet (fail)
            go_wp2
            go_ret
            exact ⟨ret_bool H0.out.symm, below_drewN BW.out _⟩
          · have HM2 : Hid (∀ i, i + 1 < m + 1 + 1 → r.getD i 0 ≤ r.getD (i + 1) 0) := Lib.hid (fun i hi => by
              by_cases e : i = m
              · subst e; omega
              · exact HM.out i (by omega))
            obtain ⟨x, hx⟩ : ∃ x, x = r.getD m 0 := ⟨_, rfl⟩
            obtain ⟨y, hy⟩ : ∃ x, x = r.getD (m + 1) 0 := ⟨_, rfl⟩
            rw [← hx] at c1 hgt
            rw [← hy] at c2 hgt
            have i5 : (0 : Int) ≤ (m : Int) := by omega
            have i6 : (m : Int) + 1 < (q : Int) := by omega
            have i7 : (m : Int) < (q : Int) := by omega
            have bg : decide (y < x) = false := decide_eq_false hgt
            clear hcell hx hy hgt hj2
            go_wp2_with fail
            go_quiet (fail)
            go_wp2
            go_roundw
            case rel => exact ⟨m + 1 + 1, by omega, .inl (by omega), by go_num, HM2, Lib.hid (below_drewN HB2.out _)⟩
            case measure => simp [intOf]; omega
        · have HT2 : Hid (∀ i, i < k + 1 → rowSortedB (row zss i) = true) := Lib.hid (fun i hi => by
            by_cases e : i = k
            · subst e
              rw [← HR.out]
              exact rowSorted_iff.2 fun m hm => HM.out m (by have := HQ.out; omega)
            · exact HT.out i (by omega))
          have BW : Hid (Below w.heap.size w wr) := Lib.hid (HB.out.trans (HB2.out.mono HB.out.size))
          clear hj2
          go_wp2
          go_roundw
          case rel => exact ⟨k + 1, by omega, by go_num, HT2, BW⟩
          case measure => simp [intOf]; omega
    · have H0 : Hid (sortedB zss = true) := Lib.hid (sorted_all fun i hi => HT.out i (by have := HZ.out; omega))
      go_wp2
      go_ret
      exact ⟨ret_bool H0.out.symm, HB.out⟩

set_option maxRecDepth 20000 in
set_option maxHeartbeats 1000000 in
theorem fiEnd_any (w : World) (a : Option Addr) (len cap : Nat) (zs : List Int) (h1 : 1 ≤ len) (h64 : len ≤ 64) (hc : Came w a len zs) :
    Calls Try.prog 44 #[.slice a len cap] w fun e w' => e = .returned (.tuple #[.int .i64 (leastL zs), .int .i64 (mostL zs)]) ∧ Below w.heap.size w w' := by
  have HE : Hid (leastL zs = leastTo zs len ∧ mostL zs = mostTo zs len) := Lib.hid (by unfold leastL mostL; rw [hc.1]; exact ⟨rfl, rfl⟩)
  obtain ⟨b, off, rfl, hcell⟩ := hc.2 (by omega)
  have e0 := hcell 0 (by omega)
  rw [Nat.add_zero] at e0
  have HQ := Lib.hid hcell
  have HX := Lib.hid (show zs.getD 0 0 = leastTo zs 0 ∧ zs.getD 0 0 = mostTo zs 0 from ⟨rfl, rfl⟩)
  obtain ⟨z0, hz0⟩ : ∃ z, z = zs.getD 0 0 := ⟨_, rfl⟩
  rw [← hz0] at e0 HX
  have i0 : (0 : Int) < (len : Int) := by omega
  clear hc hcell hz0
  go_enter Try.func44, Try.ntmps44
  go_wp2_with fail
  go_quiet (fail)
  go_wp2
  clear e0
  go_loopw [4, 5, 16] (fun l m i wr => ∃ k : Nat, k ≤ len ∧ i = .int .i64 k ∧ l = .int .i64 (leastTo zs k) ∧ m = .int .i64 (mostTo zs k) ∧ Hid (Below w.heap.size w wr)) (fun _ _ i _ => len - (intOf i).toNat)
  case atStart => exact ⟨0, Nat.zero_le _, rfl, int_eq HX.out.1, int_eq HX.out.2, Lib.hid (below_drewN (Below.refl _ _) _)⟩
  case round =>
    obtain ⟨k, hk, rfl, rfl, rfl, HB⟩ := hrel
    by_cases hlt : k < len
    · have e1 := (HB.out.cell (World.block_lt_of_cell? w _ (HQ.out k hlt))).trans (HQ.out k hlt)
      have HS : Hid (leastTo zs (k + 1) = min (leastTo zs k) (zs.getD k 0) ∧ mostTo zs (k + 1) = max (mostTo zs k) (zs.getD k 0)) := Lib.hid ⟨rfl, rfl⟩
      obtain ⟨z, hz⟩ : ∃ z, z = zs.getD k 0 := ⟨_, rfl⟩
      obtain ⟨x, hx⟩ : ∃ z, z = leastTo zs k := ⟨_, rfl⟩
      obtain ⟨y, hy⟩ : ∃ z, z = mostTo zs k := ⟨_, rfl⟩
      rw [← hz] at e1 HS
      rw [← hx, ← hy] at HS ⊢
      have HLE := Lib.hid (fun w2 => l1Least_any x z w2)
      have HMO := Lib.hid (fun w2 => l1Most_q y z w2)
      have i3 : (0 : Int) ≤ (k : Int) := by omega
      have i4 : (k : Int) < (len : Int) := by omega
      clear hz hx hy
      go_wp2_with fail
      go_at_call 47
      refine (HLE.out _).mono ?_
      rintro e w' ⟨rfl, rfl⟩
      go_wp2_with fail
      go_at_call 45
      refine (HMO.out _).mono ?_
      rintro e w' ⟨rfl, rfl⟩
      go_wp2
      go_roundw
      case rel => exact ⟨k + 1, by omega, by go_num, int_eq HS.out.1.symm, int_eq HS.out.2.symm, HB⟩
      case measure => simp [intOf]; omega
    · obtain rfl : k = len := by omega
      go_wp2
      go_ret2
      exact ⟨by rw [HE.out.1, HE.out.2]; exact rfl, HB.out⟩

end Go.Proofs.Ytcljhjfmhnmgnaa
