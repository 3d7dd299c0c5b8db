/- Chapter 6, the program: all heights in order: slices.Grow, slices.Concat, inOrder. -/
import Derived.Test.YtpoceonmlpnhlabKd
import Derived.Test.YtpoceonmlpnhlabSo
import Derived.Lib.AppendZeros
namespace Go.Proofs.Ytpoceonmlpnhlab
open Go.ChangeShapes Go.WideShapes Go.ChangeAt Go.RowKit
open Fi

set_option maxHeartbeats 2000000 in
theorem grow_any (w : World) (n : Nat) (hn : 1 ≤ n) (hb : n ≤ 1000000) :
    Calls Try.prog 66 #[.slice none 0 0, .int .i64 (n : Int)] w fun e w' => ∃ v, e = .returned v ∧ Own w' w.heap.size v [] ∧ Below w.heap.size w w' := by
  obtain ⟨i0, hi, hz0, hz1, hz2⟩ := info_parts Try.info_int
  have happ := Lib.run_append_nil_zeros (P := Try.prog) w 38 3 38 3 i0 (.int .i64 0) .i64 .i64 Try.underlying38 Try.underlying3 hi hz0 n (by omega) (by omega) (by omega) (by rw [hz2]; omega)
  generalize hcap : grownCap w n 0 3 = cap2 at happ
  have hcapge : n ≤ cap2 := by rw [← hcap]; exact grownCap_ge w _ 0 3
  have hcaple : cap2 ≤ maxLen := by rw [← hcap]; exact grownCap_le_maxLen w _ 0 3 (by unfold maxLen; omega)
  generalize hZ : (Builtin.zeroCells (Value.int .i64 0).cells n ++ Builtin.zeroCells (Value.int .i64 0).cells (cap2 - n)) = Z at happ
  have hZs : Z.size = cap2 := by rw [← hZ]; simp [size_zeroCells, Value.cells]; omega
  have HOW : Hid (Own (w.drew.alloc (.cells Z 3)) w.heap.size (.slice (some ⟨w.heap.size, 0, none⟩) 0 cap2) []) := Lib.hid ⟨rfl, .inr ⟨w.heap.size, cap2, Z, rfl, Nat.le_refl _, heap_alloc_new w.drew _, Nat.zero_le _, hcaple, by rw [hZs, Nat.mul_one], by simp⟩⟩
  have HBW : Hid (Below w.heap.size w (w.drew.alloc (.cells Z 3))) := Lib.hid ⟨rfl, rfl, rfl, by simp, fun k hk => Below.heap_alloc w _ k hk⟩
  have hn0 : (0 : Int) < (n : Int) := by omega
  clear hcap hZ hZs hi hz0 hz1 hz2 hcaple
  go_enter Try.func66, Try.ntmps66
  go_wp2_with (at_builtin; refine Lib.wpList_append_run _ rfl _ _ _ _ rfl _ _ rfl rfl _ _ happ ?_)
  go_ret
  exact ⟨_, rfl, HOW.out, HBW.out⟩

set_option maxHeartbeats 4000000 in
theorem concat_any (w : World) (a : Option Addr) (len cap : Nat) (zss : List (List Int)) (C : Nat) (g : Fi.Good zss len C) (hc : CameSS w a len zss) :
    Calls Try.prog 58 #[.slice a len cap] w fun e w' => ∃ v, e = .returned v ∧ Own w' w.heap.size v (flatTo zss len) ∧ Below w.heap.size w w' := by
  have HC := Lib.hid hc
  have HL := Lib.hid (fun i hi => g.cols i hi)
  have hr1 := g.r1
  have hr8 := g.r8
  have hc1 := g.c1
  have hc8 := g.c8
  have HFL := Lib.hid (fun k hk => length_flatTo g k hk)
  have h64 := Nat.mul_le_mul hr8 hc8
  have h11 := Nat.mul_le_mul hr1 hc1
  obtain ⟨n, hn⟩ : ∃ n, n = len * C := ⟨_, rfl⟩
  have HN := Lib.hid hn
  rw [← hn] at h64 h11
  have HGR := Lib.hid (fun w2 => grow_any w2 n (by omega) (by omega))
  clear hc g hn
  go_enter Try.func58, Try.ntmps58
  go_wp2
  go_loop [3, 11] (fun s i => ∃ k p : Nat, k ≤ len ∧ i = .int .i64 (k : Int) ∧ s = .int .i64 (p : Int) ∧ p ≤ 64 ∧ Hid (p = k * C)) (fun _ i => len - (intOf i).toNat)
  case atStart => exact ⟨0, 0, Nat.zero_le _, rfl, rfl, Nat.zero_le _, Lib.hid (by rw [Nat.zero_mul])⟩
  case round =>
    obtain ⟨k, p, hk, rfl, rfl, hp64, HP⟩ := hrel
    by_cases hlt : k < len
    · obtain ⟨b, off, ak, ck, rfl, e1, _, _, _⟩ := HC.out.at k hlt
      have hq : (zss.getD k []).length = C := HL.out k hlt
      rw [hq] at e1
      have hk8 := Nat.mul_le_mul (show k + 1 ≤ 8 by omega) hc8
      have HP2 : Hid (p + C = (k + 1) * C) := Lib.hid (by rw [HP.out, Nat.succ_mul])
      have hp2 : p + C ≤ 64 := by rw [HP2.out]; exact hk8
      have i1 : (0 : Int) ≤ (k : Int) := by omega
      have i2 : (k : Int) < (len : Int) := by omega
      have i3 : ¬ ((p : Int) + (C : Int)) < 0 := by omega
      clear hq hk8
      go_wp2
      go_round
      case rel => exact ⟨k + 1, p + C, by omega, by go_num, int_eq (by omega), hp2, HP2⟩
      case measure => simp [intOf]; omega
    · have hkn : k = len := by omega
      have hpn : p = n := by rw [HP.out, HN.out, hkn]
      subst hpn
      clear hkn
      go_wp2_with fail
      go_at_call 66
      refine (HGR.out w).mono ?_
      rintro e w2 ⟨v, rfl, o2, b2⟩
      have HO2 : Hid (Own w2 w.heap.size v (flatTo zss 0)) := Lib.hid o2
      have HB2 : Hid (Below w.heap.size w w2) := Lib.hid b2
      clear o2 b2 HGR
      go_wp2
      go_loopw [6, 27] (fun v i wr => ∃ k : Nat, k ≤ len ∧ i = .int .i64 k ∧ Hid (Own wr w.heap.size v (flatTo zss k)) ∧ Hid (Below w.heap.size w wr)) (fun _ i _ => len - (intOf i).toNat)
      case atStart => exact ⟨0, Nat.zero_le _, rfl, HO2, HB2⟩
      case round =>
        obtain ⟨k, hk, rfl, HO, HB⟩ := hrel
        clear HO2 HB2
        by_cases hlt : k < len
        · obtain ⟨b, off, ak, ck, rfl, e1, hrow, _, _⟩ := (HC.out.below HB.out).at k hlt
          have hq : (zss.getD k []).length = C := HL.out k hlt
          rw [hq] at e1 hrow
          obtain ⟨b2, o2, rfl, _⟩ := hrow.2 (by omega)
          have HR := Lib.hid hrow
          have hbl : (flatTo zss k).length + C ≤ 1000000000 := by rw [HFL.out k hk]; have := Nat.mul_le_mul (show k ≤ 8 by omega) hc8; omega
          have hz := HB.out.size
          have i3 : (0 : Int) ≤ (k : Int) := by omega
          have i4 : (k : Int) < (len : Int) := by omega
          clear hq hrow
          go_wp2_with (at_builtin; refine wpList_appAll rfl _ _ rfl w.heap.size _ _ (zss.getD k []) _ _ _ rfl rfl HO.out HR.out hz hbl ?_; intro v6 w6 O6 B6; refine ⟨?_⟩)
          have HO6 : Hid (Own w6 w.heap.size v6 (flatTo zss (k + 1))) := O6
          have HB6 : Hid (Below w.heap.size w w6) := Lib.hid (HB.out.trans B6.out)
          clear O6 B6 HO HB
          go_roundw
          case rel => exact ⟨k + 1, by omega, by go_num, HO6, HB6⟩
          case measure => simp [intOf]; omega
        · obtain rfl : k = len := by omega
          go_wp2
          go_ret
          exact ⟨_, rfl, HO.out, HB.out⟩

theorem sortOwn_any (w : World) (B g n cap : Nat) (zs : List Int) (hn : n = zs.length) (hb : n ≤ 1000000000) (h : Own w B (.slice (some ⟨g, 0, none⟩) n cap) zs) :
    Calls Try.prog 59 #[.slice (some ⟨g, 0, none⟩) n cap] w fun e w' => e = .returned (.tuple #[]) ∧ Own w' B (.slice (some ⟨g, 0, none⟩) n cap) (sortL zs) ∧ Below B w w' := by
  subst hn
  have hcell := fun j hj => h.cell rfl j hj
  have hfree := fun j => h.free rfl j
  obtain ⟨h1, h2⟩ := h
  rcases h2 with ⟨e, _⟩ | ⟨g2, cap2, cur, e, hB, hg, hnc, hcm, hcs, htk⟩
  · cases e
  · injection e with e1 e2 e3
    injection e1 with e1
    injection e1 with e1
    subst e1 e3
    have hlt : g < w.heap.size := lt_of_block hg
    have hH : Go.Sort.Holds (Value.int .i64) w g 0 zs.toArray := fun j hj => by
      rw [List.size_toArray] at hj
      rw [Nat.zero_add]
      refine ⟨?_, hfree _⟩
      rw [hcell j hj]
      simp [List.getD_eq_getElem?_getD]
    have hc := Try.slices_Sort_int g 0 cap zs w hH hlt (by omega)
    rw [merge_sortL] at hc
    refine hc.mono ?_
    rintro e w' ⟨he, m, os, rfl⟩
    have hsl := length_sortL zs
    have hb2 : (Go.Sort.grow (Go.Sort.putRow (Value.int .i64) (Go.Sort.ahead w m) g 0 (sortL zs).toArray) os).heap[g]? = some (.cells (Go.Sort.putCells (Value.int .i64) 0 (sortL zs).toArray cur) 3 (0, 0)) := by
      rw [Go.Sort.heap_grow_old _ _ (by rw [Go.Sort.size_putRow]; exact hlt)]
      unfold Go.Sort.putRow Go.Sort.mapBlock
      have h2 : (Go.Sort.ahead w m).heap[g]? = some (.cells cur 3 (0, 0)) := hg
      simp only [Array.getElem?_modify, if_pos, h2, Option.map_some, Go.Sort.onCells]
    refine ⟨he, ?_, ⟨rfl, rfl, rfl, ?_, fun k hk => ?_⟩⟩
    · refine ⟨by rw [List.length_map, Nat.mul_one], .inr ⟨g, cap, _, by rw [hsl], hB, hb2, by rw [hsl]; exact hnc, hcm, by simp [Go.Sort.putCells]; omega, ?_⟩⟩
      rw [Nat.mul_one, hsl]
      refine List.ext_getElem? fun k => ?_
      rw [List.getElem?_take]
      by_cases hk : k < zs.length
      · have hk2 : k < (sortL zs).length := by omega
        have hk3 : k < cur.size := by omega
        rw [if_pos hk]
        simp only [Go.Sort.putCells, Array.getElem?_toList, Array.getElem?_mapIdx, List.size_toArray, hsl, Nat.zero_add, Nat.sub_zero]
        simp [hk, hk2, hk3]
      · rw [if_neg hk]
        symm
        rw [List.getElem?_eq_none]
        simp; omega
    · rw [Go.Sort.size_grow, Go.Sort.size_putRow]; exact Nat.le_add_right _ _
    · rw [Go.Sort.heap_grow_old _ _ (by rw [Go.Sort.size_putRow]; show k < w.heap.size; omega)]
      unfold Go.Sort.putRow Go.Sort.mapBlock
      have hne : g ≠ k := by omega
      simp only [Array.getElem?_modify, if_neg hne]
      rfl
set_option maxHeartbeats 2000000 in
theorem inOrder_any (w : World) (bs : List Int) (zss : List (List Int)) (R C : Nat) (h : IsZ bs zss R C) :
    Calls Try.prog 43 #[.agg (cellsI bs).toArray] w fun e w' => ∃ v, e = .returned v ∧ Own w' w.heap.size v (allL zss) ∧ Below w.heap.size w w' := by
  have HI := Lib.hid h
  have hfl := isB_len h.is
  have hr8 := h.good.r8
  have HZ : Hid (zss.length = R) := Lib.hid h.good.rows
  have h64 := Nat.mul_le_mul h.good.r8 h.good.c8
  have h11 := Nat.mul_le_mul h.good.r1 h.good.c1
  have HFL : Hid ((flatTo zss R).length = R * C) := Lib.hid (length_flatTo h.good R (Nat.le_refl _))
  have HAL : Hid (allL zss = sortL (flatTo zss R)) := Lib.hid (by unfold allL; rw [h.good.rows])
  have HG := Lib.hid h.good
  obtain ⟨n, hn⟩ : ∃ n, n = R * C := ⟨_, rfl⟩
  rw [← hn] at h64 h11 HFL
  clear h hn
  go_enter Try.func43, Try.ntmps43
  go_wp2_with (refine wpList_box 45 _ rfl rfl (cellsI bs) rfl ?_; intro w1 g1 G1 B1 L1)
  refine ⟨?_⟩
  go_wp2_with (refine wpList_loadAll 45 _ rfl rfl g1 _ (cellsI bs) _ Try.underlying45 rfl 66 Try.size_block rfl B1 hfl ?_)
  refine ⟨?_⟩
  go_wp2_with fail
  go_at_call 49
  refine (lists_any w1 bs _ _ _ HI.out).mono ?_
  rintro e w2 ⟨v, rfl, o2, b2⟩
  obtain ⟨ao, cp, rfl, hcs, _⟩ := o2.cameC
  rw [HZ.out] at hcs ⊢
  have HCO := Lib.hid (concat_any w2 ao R cp zss C HG.out hcs)
  have L2 : Hid (Below w.heap.size w w2) := Lib.hid (L1.out.trans (b2.mono L1.out.size))
  clear o2 b2 hcs L1 B1 G1
  go_wp2_with fail
  go_at_call 58
  refine HCO.out.mono ?_
  rintro e w3 ⟨v, rfl, o3, b3⟩
  obtain ⟨g, cap, rfl, _, _⟩ := o3.point (by rw [HFL.out]; omega)
  have L3 : Hid (Below w.heap.size w w3) := Lib.hid (L2.out.trans (b3.mono L2.out.size))
  rw [HFL.out] at o3 ⊢
  have HSO := Lib.hid (sortOwn_any w3 w.heap.size g n cap (flatTo zss R) HFL.out.symm (by omega) (o3.mono L2.out.size))
  clear o3 b3 HCO L2
  go_wp2_with fail
  go_at_call 59
  refine HSO.out.mono ?_
  rintro e w4 ⟨rfl, o4, b4⟩
  have L4 : Hid (Below w.heap.size w w4) := Lib.hid (L3.out.trans b4)
  have O4 : Hid (Own w4 w.heap.size (.slice (some ⟨g, 0, none⟩) n cap) (allL zss)) := Lib.hid (by rw [HAL.out]; exact o4)
  clear o4 b4
  go_wp2
  go_ret
  exact ⟨_, rfl, O4.out, L4.out⟩

end Go.Proofs.Ytpoceonmlpnhlab
