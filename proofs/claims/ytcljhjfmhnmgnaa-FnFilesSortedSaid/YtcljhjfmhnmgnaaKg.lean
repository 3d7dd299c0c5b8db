/- Chapter 6, the program: the least and the greatest height of a row, what is told of each row. -/
import Derived.Test.YtcljhjfmhnmgnaaKf
namespace Go.Proofs.Ytcljhjfmhnmgnaa
open Go.ChangeShapes Go.WideShapes Go.ChangeAt Go.RowKit
open Fi

set_option maxRecDepth 20000 in
theorem isShorter_any (z m : Int) (w : World) : Calls Try.prog 74 #[.int .i64 z, .int .i64 m] w fun e w' => e = .returned (.bool (decide (z < m))) ∧ w = w' := by
  go_enter Try.func74, Try.ntmps74
  go_wp2
  go_ret
  exact ⟨rfl, rfl⟩

set_option maxRecDepth 20000 in
set_option maxHeartbeats 1000000 in
theorem leastOf_short (w : World) (a : Option Addr) (len cap : Nat) (zs : List Int) (h1 : 1 ≤ len) (hl : len ≤ cap) (hcp : cap ≤ 9223372036854775807) (hc : Came w a len zs) :
    Calls Try.prog 72 #[.slice a len cap, .func (.func 74) #[] #[]] w fun e w' => e = .returned (.int .i64 (minTo zs (len - 1))) ∧ w = w' := by
  obtain ⟨b, off, rfl, hcell⟩ := hc.2 h1
  have HC := Lib.hid hcell
  have e0 : w.cell? ⟨b, off, none⟩ = some (.int .i64 (zs.getD 0 0)) := hcell 0 h1
  have HM0 : Hid (minTo zs 0 = zs.getD 0 0) := rfl
  obtain ⟨z0, hz0⟩ : ∃ z, z = zs.getD 0 0 := ⟨_, rfl⟩
  rw [← hz0] at e0 HM0
  have i0 : (0 : Int) < (len : Int) := by omega
  have i1 : (1 : Int) ≤ (len : Int) := by omega
  have i2 : (len : Int) ≤ (cap : Int) := by omega
  clear hcell hc hz0
  by_cases hcap : cap = 1
  · have hl1 : len = 1 := by omega
    subst hcap
    subst hl1
    go_enter Try.func72, Try.ntmps72
    go_wp2
    go_loop [5, 14] (fun m i => i = .int .i64 0 ∧ m = .int .i64 z0) (fun _ _ => 0)
    case atStart => exact ⟨rfl, rfl⟩
    case round =>
      obtain ⟨rfl, rfl⟩ := hrel
      go_wp2
      go_ret
      exact ⟨ret_int HM0.out.symm, rfl⟩
  · go_enter Try.func72, Try.ntmps72
    go_wp2
    go_loop [5, 14] (fun m i => ∃ k : Nat, k + 1 ≤ len ∧ i = .int .i64 (k : Int) ∧ m = .int .i64 (minTo zs k)) (fun _ i => len - (intOf i).toNat)
    case atStart => exact ⟨0, h1, rfl, int_eq HM0.out.symm⟩
    case round =>
      obtain ⟨k, hk, rfl, rfl⟩ := hrel
      by_cases hlt : k + 1 < len
      · have e1 := HC.out (k + 1) hlt
        rw [show off + (k + 1) = off + 1 + k by omega] at e1
        have HS : Hid (minTo zs (k + 1) = min (minTo zs k) (zs.getD (k + 1) 0)) := rfl
        obtain ⟨z, hz⟩ : ∃ z, z = zs.getD (k + 1) 0 := ⟨_, rfl⟩
        obtain ⟨m, hm⟩ : ∃ m, m = minTo zs k := ⟨_, rfl⟩
        rw [← hz] at e1 HS
        rw [← hm] at HS ⊢
        have i3 : (0 : Int) ≤ (k : Int) := by omega
        have i4 : (k : Int) < (len : Int) - 1 := by omega
        have HL := Lib.hid (isShorter_any z m w)
        clear hz hm e0
        by_cases hzm : z < m
        · rw [decide_eq_true hzm] at HL
          have HR : Hid (minTo zs (k + 1) = z) := Lib.hid (by rw [HS.out]; omega)
          clear hzm
          go_wp2_with fail
          go_at_call 74
          refine HL.out.mono ?_
          rintro e w' ⟨rfl, rfl⟩
          go_wp2
          go_round
          case rel => exact ⟨k + 1, by omega, by go_num, int_eq HR.out.symm⟩
          case measure => simp [intOf]; omega
        · rw [decide_eq_false hzm] at HL
          have HR : Hid (minTo zs (k + 1) = m) := Lib.hid (by rw [HS.out]; omega)
          clear hzm
          go_wp2_with fail
          go_at_call 74
          refine HL.out.mono ?_
          rintro e w' ⟨rfl, rfl⟩
          go_wp2
          go_round
          case rel => exact ⟨k + 1, by omega, by go_num, int_eq HR.out.symm⟩
          case measure => simp [intOf]; omega
      · have hkn : Hid (len - 1 = k) := Lib.hid (by omega)
        clear e0
        go_wp2
        go_ret
        exact ⟨ret_int (by rw [hkn.out]), rfl⟩

set_option maxRecDepth 20000 in
theorem shortest_any (w : World) (a : Option Addr) (len cap : Nat) (zs : List Int) (h1 : 1 ≤ len) (hl : len ≤ cap) (hcp : cap ≤ 9223372036854775807) (hc : Came w a len zs) :
    Calls Try.prog 63 #[.slice a len cap] w fun e w' => e = .returned (.int .i64 (leastL zs)) ∧ w = w' := by
  have HL := Lib.hid (leastOf_short w a len cap zs h1 hl hcp hc)
  have HE : Hid (leastL zs = minTo zs (len - 1)) := Lib.hid (by rw [leastL_min (by have := hc.1; omega), hc.1])
  rw [← HE.out] at HL
  clear hc
  go_enter Try.func63, Try.ntmps63
  go_wp2_with fail
  go_at_call 72
  refine HL.out.mono ?_
  rintro e w' ⟨rfl, rfl⟩
  go_wp2
  go_ret
  exact ⟨rfl, rfl⟩

set_option maxRecDepth 20000 in
theorem isTaller_any (z m : Int) (w : World) : Calls Try.prog 73 #[.int .i64 z, .int .i64 m] w fun e w' => e = .returned (.bool (decide (m < z))) ∧ w = w' := by
  go_enter Try.func73, Try.ntmps73
  go_wp2
  go_ret
  exact ⟨rfl, rfl⟩

set_option maxRecDepth 20000 in
set_option maxHeartbeats 1000000 in
theorem leastOf_tall (w : World) (a : Option Addr) (len cap : Nat) (zs : List Int) (h1 : 1 ≤ len) (hl : len ≤ cap) (hcp : cap ≤ 9223372036854775807) (hc : Came w a len zs) :
    Calls Try.prog 72 #[.slice a len cap, .func (.func 73) #[] #[]] w fun e w' => e = .returned (.int .i64 (maxTo zs (len - 1))) ∧ w = w' := by
  obtain ⟨b, off, rfl, hcell⟩ := hc.2 h1
  have HC := Lib.hid hcell
  have e0 : w.cell? ⟨b, off, none⟩ = some (.int .i64 (zs.getD 0 0)) := hcell 0 h1
  have HM0 : Hid (maxTo zs 0 = zs.getD 0 0) := rfl
  obtain ⟨z0, hz0⟩ : ∃ z, z = zs.getD 0 0 := ⟨_, rfl⟩
  rw [← hz0] at e0 HM0
  have i0 : (0 : Int) < (len : Int) := by omega
  have i1 : (1 : Int) ≤ (len : Int) := by omega
  have i2 : (len : Int) ≤ (cap : Int) := by omega
  clear hcell hc hz0
  by_cases hcap : cap = 1
  · have hl1 : len = 1 := by omega
    subst hcap
    subst hl1
    go_enter Try.func72, Try.ntmps72
    go_wp2
    go_loop [5, 14] (fun m i => i = .int .i64 0 ∧ m = .int .i64 z0) (fun _ _ => 0)
    case atStart => exact ⟨rfl, rfl⟩
    case round =>
      obtain ⟨rfl, rfl⟩ := hrel
      go_wp2
      go_ret
      exact ⟨ret_int HM0.out.symm, rfl⟩
  · go_enter Try.func72, Try.ntmps72
    go_wp2
    go_loop [5, 14] (fun m i => ∃ k : Nat, k + 1 ≤ len ∧ i = .int .i64 (k : Int) ∧ m = .int .i64 (maxTo zs k)) (fun _ i => len - (intOf i).toNat)
    case atStart => exact ⟨0, h1, rfl, int_eq HM0.out.symm⟩
    case round =>
      obtain ⟨k, hk, rfl, rfl⟩ := hrel
      by_cases hlt : k + 1 < len
      · have e1 := HC.out (k + 1) hlt
        rw [show off + (k + 1) = off + 1 + k by omega] at e1
        have HS : Hid (maxTo zs (k + 1) = max (maxTo zs k) (zs.getD (k + 1) 0)) := rfl
        obtain ⟨z, hz⟩ : ∃ z, z = zs.getD (k + 1) 0 := ⟨_, rfl⟩
        obtain ⟨m, hm⟩ : ∃ m, m = maxTo zs k := ⟨_, rfl⟩
        rw [← hz] at e1 HS
        rw [← hm] at HS ⊢
        have i3 : (0 : Int) ≤ (k : Int) := by omega
        have i4 : (k : Int) < (len : Int) - 1 := by omega
        have HL := Lib.hid (isTaller_any z m w)
        clear hz hm e0
        by_cases hzm : m < z
        · rw [decide_eq_true hzm] at HL
          have HR : Hid (maxTo zs (k + 1) = z) := Lib.hid (by rw [HS.out]; omega)
          clear hzm
          go_wp2_with fail
          go_at_call 73
          refine HL.out.mono ?_
          rintro e w' ⟨rfl, rfl⟩
          go_wp2
          go_round
          case rel => exact ⟨k + 1, by omega, by go_num, int_eq HR.out.symm⟩
          case measure => simp [intOf]; omega
        · rw [decide_eq_false hzm] at HL
          have HR : Hid (maxTo zs (k + 1) = m) := Lib.hid (by rw [HS.out]; omega)
          clear hzm
          go_wp2_with fail
          go_at_call 73
          refine HL.out.mono ?_
          rintro e w' ⟨rfl, rfl⟩
          go_wp2
          go_round
          case rel => exact ⟨k + 1, by omega, by go_num, int_eq HR.out.symm⟩
          case measure => simp [intOf]; omega
      · have hkn : Hid (len - 1 = k) := Lib.hid (by omega)
        clear e0
        go_wp2
        go_ret
        exact ⟨ret_int (by rw [hkn.out]), rfl⟩

set_option maxRecDepth 20000 in
theorem tallest_any (w : World) (a : Option Addr) (len cap : Nat) (zs : List Int) (h1 : 1 ≤ len) (hl : len ≤ cap) (hcp : cap ≤ 9223372036854775807) (hc : Came w a len zs) :
    Calls Try.prog 61 #[.slice a len cap] w fun e w' => e = .returned (.int .i64 (mostL zs)) ∧ w = w' := by
  have HL := Lib.hid (leastOf_tall w a len cap zs h1 hl hcp hc)
  have HE : Hid (mostL zs = maxTo zs (len - 1)) := Lib.hid (by rw [mostL_max (by have := hc.1; omega), hc.1])
  rw [← HE.out] at HL
  clear hc
  go_enter Try.func61, Try.ntmps61
  go_wp2_with fail
  go_at_call 72
  refine HL.out.mono ?_
  rintro e w' ⟨rfl, rfl⟩
  go_wp2
  go_ret
  exact ⟨rfl, rfl⟩

set_option maxRecDepth 20000 in
set_option maxHeartbeats 2000000 in
theorem ofRows_shortest (w : World) (bs : List Int) (zss : List (List Int)) (R C : Nat) (h : IsZ bs zss R C) :
    Calls Try.prog 62 #[.agg (cellsI bs).toArray, .func (.func 63) #[] #[]] w fun e w' => ∃ v, e = .returned v ∧ Own w' w.heap.size v (ofL leastL zss R) ∧ Below w.heap.size w w' := by
  have HI := Lib.hid h
  have hfl := isB_len h.is
  have hr8 := h.good.r8
  have hc1 := h.good.c1
  have hc8 := h.good.c8
  have HZ : Hid (zss.length = R) := Lib.hid h.good.rows
  have HCO := Lib.hid (fun i hi => h.good.cols i hi)
  clear h
  go_enter Try.func62, Try.ntmps62
  go_wp2_with (refine wpList_box 42 _ rfl rfl (cellsI bs) rfl ?_; intro w1 g1 G1 B1 L1)
  refine ⟨?_⟩
  go_wp2_with (refine wpList_loadAll 42 _ rfl rfl g1 _ (cellsI bs) _ Try.underlying42 rfl 66 Try.size_block rfl B1 hfl ?_)
  refine ⟨?_⟩
  go_wp2_with fail
  go_at_call 55
  refine (lists_any w1 bs _ _ _ HI.out).mono ?_
  rintro e w2 ⟨v, rfl, o2, b2⟩
  obtain ⟨ao, cp, rfl, hcs, _⟩ := o2.cameC
  rw [HZ.out] at hcs ⊢
  have HCS := Lib.hid hcs
  have L2 : Hid (Below w.heap.size w w2) := Lib.hid (L1.out.trans (b2.mono L1.out.size))
  clear o2 b2 hcs L1 B1 G1
  go_wp2
  go_loopw [5, 11] (fun v i wr => ∃ k : Nat, k ≤ R ∧ i = .int .i64 (k : Int) ∧ Hid (Own wr w2.heap.size v (ofL leastL zss k)) ∧ Hid (Below w2.heap.size w2 wr)) (fun _ i _ => R - (intOf i).toNat)
  case atStart => exact ⟨0, Nat.zero_le _, rfl, Lib.hid (own_nil _ _), Lib.hid (Below.refl _ _)⟩
  case round =>
    obtain ⟨k, hk, rfl, HO, HB⟩ := hrel
    by_cases hlt : k < R
    · obtain ⟨b, off, ak, ck, rfl, e1, hrow, hle, hcc⟩ := (HCS.out.below HB.out).at k hlt
      have hq : (zss.getD k []).length = C := HCO.out k hlt
      rw [hq] at e1 hrow hle
      have HT := Lib.hid (shortest_any wr ak C ck (zss.getD k []) (by omega) hle hcc hrow)
      have HS : Hid (ofL leastL zss (k + 1) = ofL leastL zss k ++ [leastL (zss.getD k [])]) := Lib.hid (upTo_succ _ k)
      obtain ⟨z, hz⟩ : ∃ z, z = leastL (zss.getD k []) := ⟨_, rfl⟩
      rw [← hz] at HT HS
      have hbl : (ofL leastL zss k).length ≤ 1000000000 := by unfold ofL; rw [length_upTo]; omega
      have hz2 := HB.out.size
      have i1 : (0 : Int) ≤ (k : Int) := by omega
      have i2 : (k : Int) < (R : Int) := by omega
      clear hz hq hrow hle hcc
      go_wp2_with fail
      go_at_call 63
      refine HT.out.mono ?_
      rintro e w' ⟨rfl, rfl⟩
      go_wp2_with (at_builtin; refine wpList_app rfl _ _ rfl wr _ _ _ _ rfl rfl HO.out hz2 hbl ?_; intro v5 w5 hO hB5)
      have HO5 : Hid (Own w5 w2.heap.size v5 (ofL leastL zss (k + 1))) := Lib.hid (by rw [HS.out]; exact hO)
      have HB5 : Hid (Below w2.heap.size w2 w5) := Lib.hid (HB.out.trans hB5)
      clear hO hB5
      go_wp2
      go_roundw
      case rel => exact ⟨k + 1, by omega, by go_num, HO5, HB5⟩
      case measure => simp [intOf]; omega
    · obtain rfl : k = R := by omega
      go_wp2
      go_ret
      exact ⟨_, rfl, HO.out.mono L2.out.size, L2.out.trans (HB.out.mono L2.out.size)⟩

set_option maxRecDepth 20000 in
set_option maxHeartbeats 2000000 in
theorem ofRows_tallest (w : World) (bs : List Int) (zss : List (List Int)) (R C : Nat) (h : IsZ bs zss R C) :
    Calls Try.prog 62 #[.agg (cellsI bs).toArray, .func (.func 61) #[] #[]] w fun e w' => ∃ v, e = .returned v ∧ Own w' w.heap.size v (ofL mostL zss R) ∧ Below w.heap.size w w' := by
  have HI := Lib.hid h
  have hfl := isB_len h.is
  have hr8 := h.good.r8
  have hc1 := h.good.c1
  have hc8 := h.good.c8
  have HZ : Hid (zss.length = R) := Lib.hid h.good.rows
  have HCO := Lib.hid (fun i hi => h.good.cols i hi)
  clear h
  go_enter Try.func62, Try.ntmps62
  go_wp2_with (refine wpList_box 42 _ rfl rfl (cellsI bs) rfl ?_; intro w1 g1 G1 B1 L1)
  refine ⟨?_⟩
  go_wp2_with (refine wpList_loadAll 42 _ rfl rfl g1 _ (cellsI bs) _ Try.underlying42 rfl 66 Try.size_block rfl B1 hfl ?_)
  refine ⟨?_⟩
  go_wp2_with fail
  go_at_call 55
  refine (lists_any w1 bs _ _ _ HI.out).mono ?_
  rintro e w2 ⟨v, rfl, o2, b2⟩
  obtain ⟨ao, cp, rfl, hcs, _⟩ := o2.cameC
  rw [HZ.out] at hcs ⊢
  have HCS := Lib.hid hcs
  have L2 : Hid (Below w.heap.size w w2) := Lib.hid (L1.out.trans (b2.mono L1.out.size))
  clear o2 b2 hcs L1 B1 G1
  go_wp2
  go_loopw [5, 11] (fun v i wr => ∃ k : Nat, k ≤ R ∧ i = .int .i64 (k : Int) ∧ Hid (Own wr w2.heap.size v (ofL mostL zss k)) ∧ Hid (Below w2.heap.size w2 wr)) (fun _ i _ => R - (intOf i).toNat)
  case atStart => exact ⟨0, Nat.zero_le _, rfl, Lib.hid (own_nil _ _), Lib.hid (Below.refl _ _)⟩
  case round =>
    obtain ⟨k, hk, rfl, HO, HB⟩ := hrel
    by_cases hlt : k < R
    · obtain ⟨b, off, ak, ck, rfl, e1, hrow, hle, hcc⟩ := (HCS.out.below HB.out).at k hlt
      have hq : (zss.getD k []).length = C := HCO.out k hlt
      rw [hq] at e1 hrow hle
      have HT := Lib.hid (tallest_any wr ak C ck (zss.getD k []) (by omega) hle hcc hrow)
      have HS : Hid (ofL mostL zss (k + 1) = ofL mostL zss k ++ [mostL (zss.getD k [])]) := Lib.hid (upTo_succ _ k)
      obtain ⟨z, hz⟩ : ∃ z, z = mostL (zss.getD k []) := ⟨_, rfl⟩
      rw [← hz] at HT HS
      have hbl : (ofL mostL zss k).length ≤ 1000000000 := by unfold ofL; rw [length_upTo]; omega
      have hz2 := HB.out.size
      have i1 : (0 : Int) ≤ (k : Int) := by omega
      have i2 : (k : Int) < (R : Int) := by omega
      clear hz hq hrow hle hcc
      go_wp2_with fail
      go_at_call 61
      refine HT.out.mono ?_
      rintro e w' ⟨rfl, rfl⟩
      go_wp2_with (at_builtin; refine wpList_app rfl _ _ rfl wr _ _ _ _ rfl rfl HO.out hz2 hbl ?_; intro v5 w5 hO hB5)
      have HO5 : Hid (Own w5 w2.heap.size v5 (ofL mostL zss (k + 1))) := Lib.hid (by rw [HS.out]; exact hO)
      have HB5 : Hid (Below w2.heap.size w2 w5) := Lib.hid (HB.out.trans hB5)
      clear hO hB5
      go_wp2
      go_roundw
      case rel => exact ⟨k + 1, by omega, by go_num, HO5, HB5⟩
      case measure => simp [intOf]; omega
    · obtain rfl : k = R := by omega
      go_wp2
      go_ret
      exact ⟨_, rfl, HO.out.mono L2.out.size, L2.out.trans (HB.out.mono L2.out.size)⟩

theorem short_is {zss : List (List Int)} {R C : Nat} (g : Fi.Good zss R C) : leastL (ofL mostL (turnL zss) C) = shortTo zss C := by
  have hc1 := g.c1
  have hl : (ofL mostL (turnL zss) C).length = C := by unfold ofL; rw [length_upTo]
  rw [leastL_min (by omega), hl, ← short_min (fun j => most_any (good_turn g) j) (C - 1) C (by omega)]
  congr 1; omega
theorem tall_is {zss : List (List Int)} {R C : Nat} (g : Fi.Good zss R C) : mostL (ofL leastL zss R) = tallTo zss R := by
  have hr1 := g.r1
  have hl : (ofL leastL zss R).length = R := by unfold ofL; rw [length_upTo]
  rw [mostL_max (by omega), hl, ← tall_max (fun j => least_any g j) (R - 1) R (by omega)]
  congr 1; omega
set_option maxRecDepth 20000 in
set_option maxHeartbeats 1000000 in
theorem shortTall_any (w : World) (bs : List Int) (zss : List (List Int)) (R C : Nat) (h : IsZ bs zss R C) :
    Calls Try.prog 46 #[.agg (cellsI bs).toArray] w fun e w' => e = .returned (.int .i64 (shortTo zss C)) ∧ Below w.heap.size w w' := by
  have HI := Lib.hid h
  have hfl := isB_len h.is
  have HE := Lib.hid (short_is h.good)
  have hc1 := h.good.c1
  have HLN : Hid ((ofL mostL (turnL zss) C).length = C) := Lib.hid (by unfold ofL; rw [length_upTo])
  clear h
  go_enter Try.func46, Try.ntmps46
  go_wp2_with (refine wpList_box 42 _ rfl rfl (cellsI bs) rfl ?_; intro w1 g1 G1 B1 L1)
  refine ⟨?_⟩
  go_wp2_with (refine wpList_loadAll 42 _ rfl rfl g1 _ (cellsI bs) _ Try.underlying42 rfl 66 Try.size_block rfl B1 hfl ?_)
  refine ⟨?_⟩
  go_wp2_with fail
  go_at_call 41
  refine (turnedB_any w1 bs _ _ _ HI.out).mono ?_
  rintro e w2 ⟨ts, rfl, hi2, b2⟩
  have HI2 := Lib.hid hi2
  have L2 : Hid (Below w.heap.size w w2) := Lib.hid (L1.out.trans (b2.mono L1.out.size))
  clear hi2 b2 L1 B1 G1
  go_wp2_with fail
  go_at_call 62
  refine (ofRows_tallest w2 ts _ _ _ HI2.out).mono ?_
  rintro e w3 ⟨v, rfl, o3, b3⟩
  obtain ⟨ao, cp, rfl, hcm, hle, hcc⟩ := o3.cameC
  rw [HLN.out] at hcm hle ⊢
  have HS := Lib.hid (shortest_any w3 ao C cp _ hc1 hle hcc hcm)
  rw [HE.out] at HS
  have L3 : Hid (Below w.heap.size w w3) := Lib.hid (L2.out.trans (b3.mono L2.out.size))
  clear o3 b3 hcm hle hcc L2
  go_wp2_with fail
  go_at_call 63
  refine HS.out.mono ?_
  rintro e w' ⟨rfl, rfl⟩
  go_wp2
  go_ret
  exact ⟨rfl, L3.out⟩

set_option maxRecDepth 20000 in
set_option maxHeartbeats 1000000 in
theorem tallShort_any (w : World) (bs : List Int) (zss : List (List Int)) (R C : Nat) (h : IsZ bs zss R C) :
    Calls Try.prog 43 #[.agg (cellsI bs).toArray] w fun e w' => e = .returned (.int .i64 (tallTo zss R)) ∧ Below w.heap.size w w' := by
  have HI := Lib.hid h
  have hfl := isB_len h.is
  have HE := Lib.hid (tall_is h.good)
  have hr1 := h.good.r1
  have HLN : Hid ((ofL leastL zss R).length = R) := Lib.hid (by unfold ofL; rw [length_upTo])
  clear h
  go_enter Try.func43, Try.ntmps43
  go_wp2_with (refine wpList_box 42 _ rfl rfl (cellsI bs) rfl ?_; intro w1 g1 G1 B1 L1)
  refine ⟨?_⟩
  go_wp2_with (refine wpList_loadAll 42 _ rfl rfl g1 _ (cellsI bs) _ Try.underlying42 rfl 66 Try.size_block rfl B1 hfl ?_)
  refine ⟨?_⟩
  go_wp2_with fail
  go_at_call 62
  refine (ofRows_shortest w1 bs _ _ _ HI.out).mono ?_
  rintro e w3 ⟨v, rfl, o3, b3⟩
  obtain ⟨ao, cp, rfl, hcm, hle, hcc⟩ := o3.cameC
  rw [HLN.out] at hcm hle ⊢
  have HS := Lib.hid (tallest_any w3 ao R cp _ hr1 hle hcc hcm)
  rw [HE.out] at HS
  have L3 : Hid (Below w.heap.size w w3) := Lib.hid (L1.out.trans (b3.mono L1.out.size))
  clear o3 b3 hcm hle hcc L1 B1 G1
  go_wp2_with fail
  go_at_call 61
  refine HS.out.mono ?_
  rintro e w' ⟨rfl, rfl⟩
  go_wp2
  go_ret
  exact ⟨rfl, L3.out⟩

end Go.Proofs.Ytcljhjfmhnmgnaa
