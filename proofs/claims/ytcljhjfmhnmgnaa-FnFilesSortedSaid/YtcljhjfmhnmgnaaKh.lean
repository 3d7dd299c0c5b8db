/- Chapter 6, the program: what is made of files by a method of blocks. -/
import Derived.Test.YtcljhjfmhnmgnaaKg
namespace Go.Proofs.Ytcljhjfmhnmgnaa
open Go.ChangeShapes Go.WideShapes Go.ChangeAt Go.RowKit
open Fi

set_option maxRecDepth 20000 in
set_option maxHeartbeats 1000000 in
theorem of_AreRowsSorted (w : World) (a : Option Addr) (len cap : Nat) (zss : List (List Int)) (hf : LenSS zss) (hc : CameSS w a len zss) :
    Calls Try.prog 36 #[.slice a len cap, .func (.func 37) #[] #[]] w fun e w' => e = .returned (.tuple #[.bool (outAreRowsSorted_0 zss), .bool (outAreRowsSorted_1 zss)]) ∧ Below w.heap.size w w' := by
  have HG := Lib.hid (areFiles_any w a len cap zss hf hc)
  rcases hb : goodF zss with _ | _
  · have H0 : Hid (outAreRowsSorted_0 zss = false ∧ outAreRowsSorted_1 zss = false) := Lib.hid (by unfold outAreRowsSorted_0 outAreRowsSorted_1; rw [hb]; exact ⟨rfl, rfl⟩)
    rw [hb] at HG
    clear hb hc hf
    go_enter Try.func36, Try.ntmps36
    go_wp2_with (go_at_call 24; refine HG.out.mono ?_; rintro e w' ⟨rfl, rfl⟩)
    go_ret2
    exact ⟨by rw [H0.out.1, H0.out.2]; exact rfl, Below.refl _ _⟩
  · have g := good_of hb
    have H0 : Hid (outAreRowsSorted_0 zss = sortedB zss ∧ outAreRowsSorted_1 zss = true) := Lib.hid (by unfold outAreRowsSorted_0 outAreRowsSorted_1; rw [hb]; exact ⟨rfl, rfl⟩)
    have HBL := Lib.hid (blockOf_any w a len cap zss _ _ g hc)
    rw [hb] at HG
    clear hb hc hf g
    go_enter Try.func36, Try.ntmps36
    go_wp2_with fail
    go_at_call 24
    refine HG.out.mono ?_
    rintro e w' ⟨rfl, rfl⟩
    go_wp2_with fail
    go_at_call 60
    refine HBL.out.mono ?_
    rintro e w2 ⟨bs, rfl, hi, b2⟩
    have HI := Lib.hid hi
    have L2 := Lib.hid b2
    clear hi b2 HBL
    go_wp2_with fail
    go_at_call 37
    refine (rowsAre_any w2 bs _ _ _ HI.out).mono ?_
    rintro e w3 ⟨rfl, b3⟩
    have L3 : Hid (Below w.heap.size w w3) := Lib.hid (L2.out.trans (b3.mono L2.out.size))
    clear b3
    go_wp2
    go_ret2
    exact ⟨by rw [H0.out.1, H0.out.2]; exact rfl, L3.out⟩
set_option maxRecDepth 20000 in
set_option maxHeartbeats 400000 in
theorem implAreRowsSorted_any (w : World) (a : Option Addr) (len cap : Nat) (zss : List (List Int)) (hf : LenSS zss) (hc : CameSS w a len zss) :
    Calls Try.prog 11 #[.slice a len cap] w fun e w' => e = .returned (.tuple #[.bool (outAreRowsSorted_0 zss), .bool (outAreRowsSorted_1 zss)]) ∧ Below w.heap.size w w' := by
  have HO := Lib.hid (of_AreRowsSorted w a len cap zss hf hc)
  clear hf hc
  obtain ⟨x0, hx0⟩ : ∃ x, x = outAreRowsSorted_0 zss := ⟨_, rfl⟩
  obtain ⟨x1, hx1⟩ : ∃ x, x = outAreRowsSorted_1 zss := ⟨_, rfl⟩
  rw [← hx0, ← hx1] at HO ⊢
  clear hx0 hx1
  go_enter Try.func11, Try.ntmps11
  go_wp2_with fail
  go_at_call 36
  refine HO.out.mono ?_
  rintro e w2 ⟨rfl, b2⟩
  have B2 := Lib.hid b2
  clear b2
  go_wp2
  go_ret2
  exact ⟨rfl, B2.out⟩

set_option maxRecDepth 20000 in
set_option maxHeartbeats 1000000 in
theorem of_AreColumnsSorted (w : World) (a : Option Addr) (len cap : Nat) (zss : List (List Int)) (hf : LenSS zss) (hc : CameSS w a len zss) :
    Calls Try.prog 36 #[.slice a len cap, .func (.func 39) #[] #[]] w fun e w' => e = .returned (.tuple #[.bool (outAreColumnsSorted_0 zss), .bool (outAreColumnsSorted_1 zss)]) ∧ Below w.heap.size w w' := by
  have HG := Lib.hid (areFiles_any w a len cap zss hf hc)
  rcases hb : goodF zss with _ | _
  · have H0 : Hid (outAreColumnsSorted_0 zss = false ∧ outAreColumnsSorted_1 zss = false) := Lib.hid (by unfold outAreColumnsSorted_0 outAreColumnsSorted_1; rw [hb]; exact ⟨rfl, rfl⟩)
    rw [hb] at HG
    clear hb hc hf
    go_enter Try.func36, Try.ntmps36
    go_wp2_with (go_at_call 24; refine HG.out.mono ?_; rintro e w' ⟨rfl, rfl⟩)
    go_ret2
    exact ⟨by rw [H0.out.1, H0.out.2]; exact rfl, Below.refl _ _⟩
  · have g := good_of hb
    have H0 : Hid (outAreColumnsSorted_0 zss = sortedB (turnL zss) ∧ outAreColumnsSorted_1 zss = true) := Lib.hid (by unfold outAreColumnsSorted_0 outAreColumnsSorted_1; rw [hb]; exact ⟨rfl, rfl⟩)
    have HBL := Lib.hid (blockOf_any w a len cap zss _ _ g hc)
    rw [hb] at HG
    clear hb hc hf g
    go_enter Try.func36, Try.ntmps36
    go_wp2_with fail
    go_at_call 24
    refine HG.out.mono ?_
    rintro e w' ⟨rfl, rfl⟩
    go_wp2_with fail
    go_at_call 60
    refine HBL.out.mono ?_
    rintro e w2 ⟨bs, rfl, hi, b2⟩
    have HI := Lib.hid hi
    have L2 := Lib.hid b2
    clear hi b2 HBL
    go_wp2_with fail
    go_at_call 39
    refine (colsAre_any w2 bs _ _ _ HI.out).mono ?_
    rintro e w3 ⟨rfl, b3⟩
    have L3 : Hid (Below w.heap.size w w3) := Lib.hid (L2.out.trans (b3.mono L2.out.size))
    clear b3
    go_wp2
    go_ret2
    exact ⟨by rw [H0.out.1, H0.out.2]; exact rfl, L3.out⟩
set_option maxRecDepth 20000 in
set_option maxHeartbeats 400000 in
theorem implAreColumnsSorted_any (w : World) (a : Option Addr) (len cap : Nat) (zss : List (List Int)) (hf : LenSS zss) (hc : CameSS w a len zss) :
    Calls Try.prog 13 #[.slice a len cap] w fun e w' => e = .returned (.tuple #[.bool (outAreColumnsSorted_0 zss), .bool (outAreColumnsSorted_1 zss)]) ∧ Below w.heap.size w w' := by
  have HO := Lib.hid (of_AreColumnsSorted w a len cap zss hf hc)
  clear hf hc
  obtain ⟨x0, hx0⟩ : ∃ x, x = outAreColumnsSorted_0 zss := ⟨_, rfl⟩
  obtain ⟨x1, hx1⟩ : ∃ x, x = outAreColumnsSorted_1 zss := ⟨_, rfl⟩
  rw [← hx0, ← hx1] at HO ⊢
  clear hx0 hx1
  go_enter Try.func13, Try.ntmps13
  go_wp2_with fail
  go_at_call 36
  refine HO.out.mono ?_
  rintro e w2 ⟨rfl, b2⟩
  have B2 := Lib.hid b2
  clear b2
  go_wp2
  go_ret2
  exact ⟨rfl, B2.out⟩

set_option maxRecDepth 20000 in
set_option maxHeartbeats 1000000 in
theorem of_ShortestOfTallest (w : World) (a : Option Addr) (len cap : Nat) (zss : List (List Int)) (hf : LenSS zss) (hc : CameSS w a len zss) :
    Calls Try.prog 42 #[.slice a len cap, .func (.func 46) #[] #[]] w fun e w' => e = .returned (.tuple #[.int .i64 (outShortestOfTallest_0 zss), .bool (outShortestOfTallest_1 zss)]) ∧ Below w.heap.size w w' := by
  have HG := Lib.hid (areFiles_any w a len cap zss hf hc)
  rcases hb : goodF zss with _ | _
  · have H0 : Hid (outShortestOfTallest_0 zss = 0 ∧ outShortestOfTallest_1 zss = false) := Lib.hid (by unfold outShortestOfTallest_0 outShortestOfTallest_1; rw [hb]; exact ⟨rfl, rfl⟩)
    rw [hb] at HG
    clear hb hc hf
    go_enter Try.func42, Try.ntmps42
    go_wp2_with (go_at_call 24; refine HG.out.mono ?_; rintro e w' ⟨rfl, rfl⟩)
    go_ret2
    exact ⟨by rw [H0.out.1, H0.out.2]; exact rfl, Below.refl _ _⟩
  · have g := good_of hb
    have H0 : Hid (outShortestOfTallest_0 zss = shortTo zss (row zss 0).length ∧ outShortestOfTallest_1 zss = true) := Lib.hid (by unfold outShortestOfTallest_0 outShortestOfTallest_1; rw [hb]; exact ⟨rfl, rfl⟩)
    have HBL := Lib.hid (blockOf_any w a len cap zss _ _ g hc)
    rw [hb] at HG
    clear hb hc hf g
    go_enter Try.func42, Try.ntmps42
    go_wp2_with fail
    go_at_call 24
    refine HG.out.mono ?_
    rintro e w' ⟨rfl, rfl⟩
    go_wp2_with fail
    go_at_call 60
    refine HBL.out.mono ?_
    rintro e w2 ⟨bs, rfl, hi, b2⟩
    have HI := Lib.hid hi
    have L2 := Lib.hid b2
    clear hi b2 HBL
    go_wp2_with fail
    go_at_call 46
    refine (shortTall_any w2 bs _ _ _ HI.out).mono ?_
    rintro e w3 ⟨rfl, b3⟩
    have L3 : Hid (Below w.heap.size w w3) := Lib.hid (L2.out.trans (b3.mono L2.out.size))
    clear b3
    go_wp2
    go_ret2
    exact ⟨by rw [H0.out.1, H0.out.2]; exact rfl, L3.out⟩
set_option maxRecDepth 20000 in
set_option maxHeartbeats 400000 in
theorem implShortestOfTallest_any (w : World) (a : Option Addr) (len cap : Nat) (zss : List (List Int)) (hf : LenSS zss) (hc : CameSS w a len zss) :
    Calls Try.prog 19 #[.slice a len cap] w fun e w' => e = .returned (.tuple #[.int .i64 (outShortestOfTallest_0 zss), .bool (outShortestOfTallest_1 zss)]) ∧ Below w.heap.size w w' := by
  have HO := Lib.hid (of_ShortestOfTallest w a len cap zss hf hc)
  clear hf hc
  obtain ⟨x0, hx0⟩ : ∃ x, x = outShortestOfTallest_0 zss := ⟨_, rfl⟩
  obtain ⟨x1, hx1⟩ : ∃ x, x = outShortestOfTallest_1 zss := ⟨_, rfl⟩
  rw [← hx0, ← hx1] at HO ⊢
  clear hx0 hx1
  go_enter Try.func19, Try.ntmps19
  go_wp2_with fail
  go_at_call 42
  refine HO.out.mono ?_
  rintro e w2 ⟨rfl, b2⟩
  have B2 := Lib.hid b2
  clear b2
  go_wp2
  go_ret2
  exact ⟨rfl, B2.out⟩

set_option maxRecDepth 20000 in
set_option maxHeartbeats 1000000 in
theorem of_TallestOfShortest (w : World) (a : Option Addr) (len cap : Nat) (zss : List (List Int)) (hf : LenSS zss) (hc : CameSS w a len zss) :
    Calls Try.prog 42 #[.slice a len cap, .func (.func 43) #[] #[]] w fun e w' => e = .returned (.tuple #[.int .i64 (outTallestOfShortest_0 zss), .bool (outTallestOfShortest_1 zss)]) ∧ Below w.heap.size w w' := by
  have HG := Lib.hid (areFiles_any w a len cap zss hf hc)
  rcases hb : goodF zss with _ | _
  · have H0 : Hid (outTallestOfShortest_0 zss = 0 ∧ outTallestOfShortest_1 zss = false) := Lib.hid (by unfold outTallestOfShortest_0 outTallestOfShortest_1; rw [hb]; exact ⟨rfl, rfl⟩)
    rw [hb] at HG
    clear hb hc hf
    go_enter Try.func42, Try.ntmps42
    go_wp2_with (go_at_call 24; refine HG.out.mono ?_; rintro e w' ⟨rfl, rfl⟩)
    go_ret2
    exact ⟨by rw [H0.out.1, H0.out.2]; exact rfl, Below.refl _ _⟩
  · have g := good_of hb
    have H0 : Hid (outTallestOfShortest_0 zss = tallTo zss zss.length ∧ outTallestOfShortest_1 zss = true) := Lib.hid (by unfold outTallestOfShortest_0 outTallestOfShortest_1; rw [hb]; exact ⟨rfl, rfl⟩)
    have HBL := Lib.hid (blockOf_any w a len cap zss _ _ g hc)
    rw [hb] at HG
    clear hb hc hf g
    go_enter Try.func42, Try.ntmps42
    go_wp2_with fail
    go_at_call 24
    refine HG.out.mono ?_
    rintro e w' ⟨rfl, rfl⟩
    go_wp2_with fail
    go_at_call 60
    refine HBL.out.mono ?_
    rintro e w2 ⟨bs, rfl, hi, b2⟩
    have HI := Lib.hid hi
    have L2 := Lib.hid b2
    clear hi b2 HBL
    go_wp2_with fail
    go_at_call 43
    refine (tallShort_any w2 bs _ _ _ HI.out).mono ?_
    rintro e w3 ⟨rfl, b3⟩
    have L3 : Hid (Below w.heap.size w w3) := Lib.hid (L2.out.trans (b3.mono L2.out.size))
    clear b3
    go_wp2
    go_ret2
    exact ⟨by rw [H0.out.1, H0.out.2]; exact rfl, L3.out⟩
set_option maxRecDepth 20000 in
set_option maxHeartbeats 400000 in
theorem implTallestOfShortest_any (w : World) (a : Option Addr) (len cap : Nat) (zss : List (List Int)) (hf : LenSS zss) (hc : CameSS w a len zss) :
    Calls Try.prog 17 #[.slice a len cap] w fun e w' => e = .returned (.tuple #[.int .i64 (outTallestOfShortest_0 zss), .bool (outTallestOfShortest_1 zss)]) ∧ Below w.heap.size w w' := by
  have HO := Lib.hid (of_TallestOfShortest w a len cap zss hf hc)
  clear hf hc
  obtain ⟨x0, hx0⟩ : ∃ x, x = outTallestOfShortest_0 zss := ⟨_, rfl⟩
  obtain ⟨x1, hx1⟩ : ∃ x, x = outTallestOfShortest_1 zss := ⟨_, rfl⟩
  rw [← hx0, ← hx1] at HO ⊢
  clear hx0 hx1
  go_enter Try.func17, Try.ntmps17
  go_wp2_with fail
  go_at_call 42
  refine HO.out.mono ?_
  rintro e w2 ⟨rfl, b2⟩
  have B2 := Lib.hid b2
  clear b2
  go_wp2
  go_ret2
  exact ⟨rfl, B2.out⟩

set_option maxRecDepth 20000 in
set_option maxHeartbeats 1000000 in
theorem chg_SortFileRows (w : World) (bs : List Int) (zss : List (List Int)) (R C : Nat) (h : IsZ bs zss R C) (p : Nat) (hp : w.cell? ⟨p, 0, none⟩ = some (.func (.func 34) #[] #[])) :
    Calls Try.prog 54 #[.agg (cellsI bs).toArray, .pointer (some ⟨p, 0, none⟩)] w fun e w' => ∃ v, e = .returned v ∧ OwnSS w' w.heap.size v (rowsL zss) ∧ Below w.heap.size w w' := by
  have HI := Lib.hid h
  have hfl := isB_len h.is
  have HP := Lib.hid hp
  clear h hp
  go_enter Try.func54, Try.ntmps54
  go_wp2_with (refine wpList_box 42 _ rfl rfl (cellsI bs) rfl ?_; intro w1 g1 G1 B1 L1)
  refine ⟨?_⟩
  have c1 := (L1.out.cell (World.block_lt_of_cell? w _ HP.out)).trans HP.out
  go_wp2_with (refine wpList_loadAll 42 _ rfl rfl g1 _ (cellsI bs) _ Try.underlying42 rfl 66 Try.size_block rfl B1 hfl ?_)
  refine ⟨?_⟩
  go_wp2_with fail
  go_at_call 34
  refine (rowsB_any w1 bs _ _ _ HI.out).mono ?_
  rintro e w2 ⟨ts, rfl, hi2, b2⟩
  have HI2 := Lib.hid hi2
  have L2 : Hid (Below w.heap.size w w2) := Lib.hid (L1.out.trans (b2.mono L1.out.size))
  clear hi2 b2 L1 B1 G1 c1
  go_wp2_with fail
  go_at_call 55
  refine (lists_any w2 ts _ _ _ HI2.out).mono ?_
  rintro e w3 ⟨v3, rfl, o3, b3⟩
  have L3 : Hid (Below w.heap.size w w3) := Lib.hid (L2.out.trans (b3.mono L2.out.size))
  have O3 := Lib.hid (o3.mono L2.out.size)
  clear b3 o3
  go_wp2
  go_ret
  exact ⟨_, rfl, O3.out, L3.out⟩
set_option maxRecDepth 20000 in
set_option maxHeartbeats 1000000 in
theorem of_SortFileRows (w : World) (a : Option Addr) (len cap : Nat) (zss : List (List Int)) (p : Nat) (hf : LenSS zss) (hc : CameSS w a len zss) (hp : w.cell? ⟨p, 0, none⟩ = some (.func (.func 34) #[] #[])) :
    Calls Try.prog 48 #[.slice a len cap, .func (.func 54) #[] #[.pointer (some ⟨p, 0, none⟩)]] w fun e w' => ∃ v0, e = .returned (.tuple #[v0, .bool (outSortFileRows_1 zss)]) ∧ OwnSS w' w.heap.size v0 (outSortFileRows_0 zss) ∧ Below w.heap.size w w' := by
  have HG := Lib.hid (areFiles_any w a len cap zss hf hc)
  rcases hb : goodF zss with _ | _
  · have H0 : Hid (outSortFileRows_0 zss = [] ∧ outSortFileRows_1 zss = false) := Lib.hid (by unfold outSortFileRows_0 outSortFileRows_1; rw [hb]; exact ⟨rfl, rfl⟩)
    rw [hb] at HG
    clear hb hc hf
    go_enter Try.func48, Try.ntmps48
    go_wp2_with (go_at_call 24; refine HG.out.mono ?_; rintro e w' ⟨rfl, rfl⟩)
    go_ret2
    exact ⟨_, by rw [H0.out.2]; exact rfl, by rw [H0.out.1]; exact ownSS_nil _ _, Below.refl _ _⟩
  · have g := good_of hb
    have H0 : Hid (outSortFileRows_0 zss = rowsL zss ∧ outSortFileRows_1 zss = true) := Lib.hid (by unfold outSortFileRows_0 outSortFileRows_1; rw [hb]; exact ⟨rfl, rfl⟩)
    have HBL := Lib.hid (blockOf_any w a len cap zss _ _ g hc)
    rw [hb] at HG
    have HPC := Lib.hid hp
    clear hp
    clear hb hc hf g
    go_enter Try.func48, Try.ntmps48
    go_wp2_with fail
    go_at_call 24
    refine HG.out.mono ?_
    rintro e w' ⟨rfl, rfl⟩
    go_wp2_with fail
    go_at_call 60
    refine HBL.out.mono ?_
    rintro e w2 ⟨bs, rfl, hi, b2⟩
    have HI := Lib.hid hi
    have L2 := Lib.hid b2
    clear hi b2 HBL
    go_wp2_with fail
    go_at_call 54
    refine (chg_SortFileRows w2 bs _ _ _ HI.out p ((L2.out.cell (World.block_lt_of_cell? w _ HPC.out)).trans HPC.out)).mono ?_
    rintro e w3 ⟨v3, rfl, o3, b3⟩
    have L3 : Hid (Below w.heap.size w w3) := Lib.hid (L2.out.trans (b3.mono L2.out.size))
    have O3 := Lib.hid (o3.mono L2.out.size)
    clear b3 o3
    go_wp2
    go_ret2
    exact ⟨_, by rw [H0.out.2]; exact rfl, by rw [H0.out.1]; exact O3.out, L3.out⟩
set_option maxRecDepth 20000 in
set_option maxHeartbeats 1000000 in
theorem chf_SortFileRows (w : World) (a : Option Addr) (len cap : Nat) (zss : List (List Int)) (hf : LenSS zss) (hc : CameSS w a len zss) :
    Calls Try.prog 29 #[.slice a len cap, .func (.func 34) #[] #[]] w fun e w' => ∃ v0, e = .returned (.tuple #[v0, .bool (outSortFileRows_1 zss)]) ∧ OwnSS w' w.heap.size v0 (outSortFileRows_0 zss) ∧ Below w.heap.size w w' := by
  have HB : Hid (Below w.heap.size w (w.alloc (.cells #[.func (.func 34) #[] #[]] 36))) := Lib.hid ((Below.refl _ _).alloc (Nat.le_refl _) _)
  have HO := Lib.hid (of_SortFileRows (w.alloc (.cells #[.func (.func 34) #[] #[]] 36)) a len cap zss w.heap.size hf (hc.below HB.out) (by simp))
  clear hf hc
  obtain ⟨x0, hx0⟩ : ∃ x, x = outSortFileRows_0 zss := ⟨_, rfl⟩
  obtain ⟨x1, hx1⟩ : ∃ x, x = outSortFileRows_1 zss := ⟨_, rfl⟩
  rw [← hx0, ← hx1] at HO
  rw [← hx0, ← hx1]
  clear hx0 hx1
  go_enter Try.func29, Try.ntmps29
  go_wp2_with fail
  go_at_call 48
  refine HO.out.mono ?_
  rintro e w2 ⟨v, rfl, o2, b2⟩
  have B2 : Hid (Below w.heap.size w w2) := Lib.hid (HB.out.trans (b2.mono HB.out.size))
  have O2 := Lib.hid (o2.mono HB.out.size)
  clear b2 o2
  go_wp2
  go_ret2
  exact ⟨_, rfl, O2.out, B2.out⟩
set_option maxRecDepth 20000 in
set_option maxHeartbeats 400000 in
theorem implSortFileRows_any (w : World) (a : Option Addr) (len cap : Nat) (zss : List (List Int)) (hf : LenSS zss) (hc : CameSS w a len zss) :
    Calls Try.prog 7 #[.slice a len cap] w fun e w' => ∃ v0, e = .returned (.tuple #[v0, .bool (outSortFileRows_1 zss)]) ∧ OwnSS w' w.heap.size v0 (outSortFileRows_0 zss) ∧ Below w.heap.size w w' := by
  have HO := Lib.hid (chf_SortFileRows w a len cap zss hf hc)
  clear hf hc
  obtain ⟨x0, hx0⟩ : ∃ x, x = outSortFileRows_0 zss := ⟨_, rfl⟩
  obtain ⟨x1, hx1⟩ : ∃ x, x = outSortFileRows_1 zss := ⟨_, rfl⟩
  rw [← hx0, ← hx1] at HO ⊢
  clear hx0 hx1
  go_enter Try.func7, Try.ntmps7
  go_wp2_with fail
  go_at_call 29
  refine HO.out.mono ?_
  rintro e w2 ⟨v, rfl, o2, b2⟩
  have B2 := Lib.hid b2
  have O2 := Lib.hid o2
  clear b2 o2
  go_wp2
  go_ret2
  exact ⟨_, rfl, O2.out, B2.out⟩

set_option maxRecDepth 20000 in
set_option maxHeartbeats 1000000 in
theorem chg_SortFileColumns (w : World) (bs : List Int) (zss : List (List Int)) (R C : Nat) (h : IsZ bs zss R C) (p : Nat) (hp : w.cell? ⟨p, 0, none⟩ = some (.func (.func 35) #[] #[])) :
    Calls Try.prog 54 #[.agg (cellsI bs).toArray, .pointer (some ⟨p, 0, none⟩)] w fun e w' => ∃ v, e = .returned v ∧ OwnSS w' w.heap.size v (colsL zss) ∧ Below w.heap.size w w' := by
  have HI := Lib.hid h
  have hfl := isB_len h.is
  have HP := Lib.hid hp
  clear h hp
  go_enter Try.func54, Try.ntmps54
  go_wp2_with (refine wpList_box 42 _ rfl rfl (cellsI bs) rfl ?_; intro w1 g1 G1 B1 L1)
  refine ⟨?_⟩
  have c1 := (L1.out.cell (World.block_lt_of_cell? w _ HP.out)).trans HP.out
  go_wp2_with (refine wpList_loadAll 42 _ rfl rfl g1 _ (cellsI bs) _ Try.underlying42 rfl 66 Try.size_block rfl B1 hfl ?_)
  refine ⟨?_⟩
  go_wp2_with fail
  go_at_call 35
  refine (colsB_any w1 bs _ _ _ HI.out).mono ?_
  rintro e w2 ⟨ts, rfl, hi2, b2⟩
  have HI2 := Lib.hid hi2
  have L2 : Hid (Below w.heap.size w w2) := Lib.hid (L1.out.trans (b2.mono L1.out.size))
  clear hi2 b2 L1 B1 G1 c1
  go_wp2_with fail
  go_at_call 55
  refine (lists_any w2 ts _ _ _ HI2.out).mono ?_
  rintro e w3 ⟨v3, rfl, o3, b3⟩
  have L3 : Hid (Below w.heap.size w w3) := Lib.hid (L2.out.trans (b3.mono L2.out.size))
  have O3 := Lib.hid (o3.mono L2.out.size)
  clear b3 o3
  go_wp2
  go_ret
  exact ⟨_, rfl, O3.out, L3.out⟩
set_option maxRecDepth 20000 in
set_option maxHeartbeats 1000000 in
theorem of_SortFileColumns (w : World) (a : Option Addr) (len cap : Nat) (zss : List (List Int)) (p : Nat) (hf : LenSS zss) (hc : CameSS w a len zss) (hp : w.cell? ⟨p, 0, none⟩ = some (.func (.func 35) #[] #[])) :
    Calls Try.prog 48 #[.slice a len cap, .func (.func 54) #[] #[.pointer (some ⟨p, 0, none⟩)]] w fun e w' => ∃ v0, e = .returned (.tuple #[v0, .bool (outSortFileColumns_1 zss)]) ∧ OwnSS w' w.heap.size v0 (outSortFileColumns_0 zss) ∧ Below w.heap.size w w' := by
  have HG := Lib.hid (areFiles_any w a len cap zss hf hc)
  rcases hb : goodF zss with _ | _
  · have H0 : Hid (outSortFileColumns_0 zss = [] ∧ outSortFileColumns_1 zss = false) := Lib.hid (by unfold outSortFileColumns_0 outSortFileColumns_1; rw [hb]; exact ⟨rfl, rfl⟩)
    rw [hb] at HG
    clear hb hc hf
    go_enter Try.func48, Try.ntmps48
    go_wp2_with (go_at_call 24; refine HG.out.mono ?_; rintro e w' ⟨rfl, rfl⟩)
    go_ret2
    exact ⟨_, by rw [H0.out.2]; exact rfl, by rw [H0.out.1]; exact ownSS_nil _ _, Below.refl _ _⟩
  · have g := good_of hb
    have H0 : Hid (outSortFileColumns_0 zss = colsL zss ∧ outSortFileColumns_1 zss = true) := Lib.hid (by unfold outSortFileColumns_0 outSortFileColumns_1; rw [hb]; exact ⟨rfl, rfl⟩)
    have HBL := Lib.hid (blockOf_any w a len cap zss _ _ g hc)
    rw [hb] at HG
    have HPC := Lib.hid hp
    clear hp
    clear hb hc hf g
    go_enter Try.func48, Try.ntmps48
    go_wp2_with fail
    go_at_call 24
    refine HG.out.mono ?_
    rintro e w' ⟨rfl, rfl⟩
    go_wp2_with fail
    go_at_call 60
    refine HBL.out.mono ?_
    rintro e w2 ⟨bs, rfl, hi, b2⟩
    have HI := Lib.hid hi
    have L2 := Lib.hid b2
    clear hi b2 HBL
    go_wp2_with fail
    go_at_call 54
    refine (chg_SortFileColumns w2 bs _ _ _ HI.out p ((L2.out.cell (World.block_lt_of_cell? w _ HPC.out)).trans HPC.out)).mono ?_
    rintro e w3 ⟨v3, rfl, o3, b3⟩
    have L3 : Hid (Below w.heap.size w w3) := Lib.hid (L2.out.trans (b3.mono L2.out.size))
    have O3 := Lib.hid (o3.mono L2.out.size)
    clear b3 o3
    go_wp2
    go_ret2
    exact ⟨_, by rw [H0.out.2]; exact rfl, by rw [H0.out.1]; exact O3.out, L3.out⟩
set_option maxRecDepth 20000 in
set_option maxHeartbeats 1000000 in
theorem chf_SortFileColumns (w : World) (a : Option Addr) (len cap : Nat) (zss : List (List Int)) (hf : LenSS zss) (hc : CameSS w a len zss) :
    Calls Try.prog 29 #[.slice a len cap, .func (.func 35) #[] #[]] w fun e w' => ∃ v0, e = .returned (.tuple #[v0, .bool (outSortFileColumns_1 zss)]) ∧ OwnSS w' w.heap.size v0 (outSortFileColumns_0 zss) ∧ Below w.heap.size w w' := by
  have HB : Hid (Below w.heap.size w (w.alloc (.cells #[.func (.func 35) #[] #[]] 36))) := Lib.hid ((Below.refl _ _).alloc (Nat.le_refl _) _)
  have HO := Lib.hid (of_SortFileColumns (w.alloc (.cells #[.func (.func 35) #[] #[]] 36)) a len cap zss w.heap.size hf (hc.below HB.out) (by simp))
  clear hf hc
  obtain ⟨x0, hx0⟩ : ∃ x, x = outSortFileColumns_0 zss := ⟨_, rfl⟩
  obtain ⟨x1, hx1⟩ : ∃ x, x = outSortFileColumns_1 zss := ⟨_, rfl⟩
  rw [← hx0, ← hx1] at HO
  rw [← hx0, ← hx1]
  clear hx0 hx1
  go_enter Try.func29, Try.ntmps29
  go_wp2_with fail
  go_at_call 48
  refine HO.out.mono ?_
  rintro e w2 ⟨v, rfl, o2, b2⟩
  have B2 : Hid (Below w.heap.size w w2) := Lib.hid (HB.out.trans (b2.mono HB.out.size))
  have O2 := Lib.hid (o2.mono HB.out.size)
  clear b2 o2
  go_wp2
  go_ret2
  exact ⟨_, rfl, O2.out, B2.out⟩
set_option maxRecDepth 20000 in
set_option maxHeartbeats 400000 in
theorem implSortFileColumns_any (w : World) (a : Option Addr) (len cap : Nat) (zss : List (List Int)) (hf : LenSS zss) (hc : CameSS w a len zss) :
    Calls Try.prog 9 #[.slice a len cap] w fun e w' => ∃ v0, e = .returned (.tuple #[v0, .bool (outSortFileColumns_1 zss)]) ∧ OwnSS w' w.heap.size v0 (outSortFileColumns_0 zss) ∧ Below w.heap.size w w' := by
  have HO := Lib.hid (chf_SortFileColumns w a len cap zss hf hc)
  clear hf hc
  obtain ⟨x0, hx0⟩ : ∃ x, x = outSortFileColumns_0 zss := ⟨_, rfl⟩
  obtain ⟨x1, hx1⟩ : ∃ x, x = outSortFileColumns_1 zss := ⟨_, rfl⟩
  rw [← hx0, ← hx1] at HO ⊢
  clear hx0 hx1
  go_enter Try.func9, Try.ntmps9
  go_wp2_with fail
  go_at_call 29
  refine HO.out.mono ?_
  rintro e w2 ⟨v, rfl, o2, b2⟩
  have B2 := Lib.hid b2
  have O2 := Lib.hid o2
  clear b2 o2
  go_wp2
  go_ret2
  exact ⟨_, rfl, O2.out, B2.out⟩

set_option maxRecDepth 20000 in
set_option maxHeartbeats 1000000 in
theorem chg_SortBoth (w : World) (bs : List Int) (zss : List (List Int)) (R C : Nat) (h : IsZ bs zss R C) (p : Nat) (hp : w.cell? ⟨p, 0, none⟩ = some (.func (.func 30) #[] #[])) :
    Calls Try.prog 54 #[.agg (cellsI bs).toArray, .pointer (some ⟨p, 0, none⟩)] w fun e w' => ∃ v, e = .returned v ∧ OwnSS w' w.heap.size v (colsL (rowsL zss)) ∧ Below w.heap.size w w' := by
  have HI := Lib.hid h
  have hfl := isB_len h.is
  have HP := Lib.hid hp
  clear h hp
  go_enter Try.func54, Try.ntmps54
  go_wp2_with (refine wpList_box 42 _ rfl rfl (cellsI bs) rfl ?_; intro w1 g1 G1 B1 L1)
  refine ⟨?_⟩
  have c1 := (L1.out.cell (World.block_lt_of_cell? w _ HP.out)).trans HP.out
  go_wp2_with (refine wpList_loadAll 42 _ rfl rfl g1 _ (cellsI bs) _ Try.underlying42 rfl 66 Try.size_block rfl B1 hfl ?_)
  refine ⟨?_⟩
  go_wp2_with fail
  go_at_call 30
  refine (bothB_any w1 bs _ _ _ HI.out).mono ?_
  rintro e w2 ⟨ts, rfl, hi2, b2⟩
  have HI2 := Lib.hid hi2
  have L2 : Hid (Below w.heap.size w w2) := Lib.hid (L1.out.trans (b2.mono L1.out.size))
  clear hi2 b2 L1 B1 G1 c1
  go_wp2_with fail
  go_at_call 55
  refine (lists_any w2 ts _ _ _ HI2.out).mono ?_
  rintro e w3 ⟨v3, rfl, o3, b3⟩
  have L3 : Hid (Below w.heap.size w w3) := Lib.hid (L2.out.trans (b3.mono L2.out.size))
  have O3 := Lib.hid (o3.mono L2.out.size)
  clear b3 o3
  go_wp2
  go_ret
  exact ⟨_, rfl, O3.out, L3.out⟩
set_option maxRecDepth 20000 in
set_option maxHeartbeats 1000000 in
theorem of_SortBoth (w : World) (a : Option Addr) (len cap : Nat) (zss : List (List Int)) (p : Nat) (hf : LenSS zss) (hc : CameSS w a len zss) (hp : w.cell? ⟨p, 0, none⟩ = some (.func (.func 30) #[] #[])) :
    Calls Try.prog 48 #[.slice a len cap, .func (.func 54) #[] #[.pointer (some ⟨p, 0, none⟩)]] w fun e w' => ∃ v0, e = .returned (.tuple #[v0, .bool (outSortBoth_1 zss)]) ∧ OwnSS w' w.heap.size v0 (outSortBoth_0 zss) ∧ Below w.heap.size w w' := by
  have HG := Lib.hid (areFiles_any w a len cap zss hf hc)
  rcases hb : goodF zss with _ | _
  · have H0 : Hid (outSortBoth_0 zss = [] ∧ outSortBoth_1 zss = false) := Lib.hid (by unfold outSortBoth_0 outSortBoth_1; rw [hb]; exact ⟨rfl, rfl⟩)
    rw [hb] at HG
    clear hb hc hf
    go_enter Try.func48, Try.ntmps48
    go_wp2_with (go_at_call 24; refine HG.out.mono ?_; rintro e w' ⟨rfl, rfl⟩)
    go_ret2
    exact ⟨_, by rw [H0.out.2]; exact rfl, by rw [H0.out.1]; exact ownSS_nil _ _, Below.refl _ _⟩
  · have g := good_of hb
    have H0 : Hid (outSortBoth_0 zss = colsL (rowsL zss) ∧ outSortBoth_1 zss = true) := Lib.hid (by unfold outSortBoth_0 outSortBoth_1; rw [hb]; exact ⟨rfl, rfl⟩)
    have HBL := Lib.hid (blockOf_any w a len cap zss _ _ g hc)
    rw [hb] at HG
    have HPC := Lib.hid hp
    clear hp
    clear hb hc hf g
    go_enter Try.func48, Try.ntmps48
    go_wp2_with fail
    go_at_call 24
    refine HG.out.mono ?_
    rintro e w' ⟨rfl, rfl⟩
    go_wp2_with fail
    go_at_call 60
    refine HBL.out.mono ?_
    rintro e w2 ⟨bs, rfl, hi, b2⟩
    have HI := Lib.hid hi
    have L2 := Lib.hid b2
    clear hi b2 HBL
    go_wp2_with fail
    go_at_call 54
    refine (chg_SortBoth w2 bs _ _ _ HI.out p ((L2.out.cell (World.block_lt_of_cell? w _ HPC.out)).trans HPC.out)).mono ?_
    rintro e w3 ⟨v3, rfl, o3, b3⟩
    have L3 : Hid (Below w.heap.size w w3) := Lib.hid (L2.out.trans (b3.mono L2.out.size))
    have O3 := Lib.hid (o3.mono L2.out.size)
    clear b3 o3
    go_wp2
    go_ret2
    exact ⟨_, by rw [H0.out.2]; exact rfl, by rw [H0.out.1]; exact O3.out, L3.out⟩
set_option maxRecDepth 20000 in
set_option maxHeartbeats 1000000 in
theorem chf_SortBoth (w : World) (a : Option Addr) (len cap : Nat) (zss : List (List Int)) (hf : LenSS zss) (hc : CameSS w a len zss) :
    Calls Try.prog 29 #[.slice a len cap, .func (.func 30) #[] #[]] w fun e w' => ∃ v0, e = .returned (.tuple #[v0, .bool (outSortBoth_1 zss)]) ∧ OwnSS w' w.heap.size v0 (outSortBoth_0 zss) ∧ Below w.heap.size w w' := by
  have HB : Hid (Below w.heap.size w (w.alloc (.cells #[.func (.func 30) #[] #[]] 36))) := Lib.hid ((Below.refl _ _).alloc (Nat.le_refl _) _)
  have HO := Lib.hid (of_SortBoth (w.alloc (.cells #[.func (.func 30) #[] #[]] 36)) a len cap zss w.heap.size hf (hc.below HB.out) (by simp))
  clear hf hc
  obtain ⟨x0, hx0⟩ : ∃ x, x = outSortBoth_0 zss := ⟨_, rfl⟩
  obtain ⟨x1, hx1⟩ : ∃ x, x = outSortBoth_1 zss := ⟨_, rfl⟩
  rw [← hx0, ← hx1] at HO
  rw [← hx0, ← hx1]
  clear hx0 hx1
  go_enter Try.func29, Try.ntmps29
  go_wp2_with fail
  go_at_call 48
  refine HO.out.mono ?_
  rintro e w2 ⟨v, rfl, o2, b2⟩
  have B2 : Hid (Below w.heap.size w w2) := Lib.hid (HB.out.trans (b2.mono HB.out.size))
  have O2 := Lib.hid (o2.mono HB.out.size)
  clear b2 o2
  go_wp2
  go_ret2
  exact ⟨_, rfl, O2.out, B2.out⟩
set_option maxRecDepth 20000 in
set_option maxHeartbeats 400000 in
theorem implSortBoth_any (w : World) (a : Option Addr) (len cap : Nat) (zss : List (List Int)) (hf : LenSS zss) (hc : CameSS w a len zss) :
    Calls Try.prog 5 #[.slice a len cap] w fun e w' => ∃ v0, e = .returned (.tuple #[v0, .bool (outSortBoth_1 zss)]) ∧ OwnSS w' w.heap.size v0 (outSortBoth_0 zss) ∧ Below w.heap.size w w' := by
  have HO := Lib.hid (chf_SortBoth w a len cap zss hf hc)
  clear hf hc
  obtain ⟨x0, hx0⟩ : ∃ x, x = outSortBoth_0 zss := ⟨_, rfl⟩
  obtain ⟨x1, hx1⟩ : ∃ x, x = outSortBoth_1 zss := ⟨_, rfl⟩
  rw [← hx0, ← hx1] at HO ⊢
  clear hx0 hx1
  go_enter Try.func5, Try.ntmps5
  go_wp2_with fail
  go_at_call 29
  refine HO.out.mono ?_
  rintro e w2 ⟨v, rfl, o2, b2⟩
  have B2 := Lib.hid b2
  have O2 := Lib.hid o2
  clear b2 o2
  go_wp2
  go_ret2
  exact ⟨_, rfl, O2.out, B2.out⟩

set_option maxRecDepth 20000 in
set_option maxHeartbeats 1000000 in
theorem chg_TurnFiles (w : World) (bs : List Int) (zss : List (List Int)) (R C : Nat) (h : IsZ bs zss R C) (p : Nat) (hp : w.cell? ⟨p, 0, none⟩ = some (.func (.func 41) #[] #[])) :
    Calls Try.prog 54 #[.agg (cellsI bs).toArray, .pointer (some ⟨p, 0, none⟩)] w fun e w' => ∃ v, e = .returned v ∧ OwnSS w' w.heap.size v (turnL zss) ∧ Below w.heap.size w w' := by
  have HI := Lib.hid h
  have hfl := isB_len h.is
  have HP := Lib.hid hp
  clear h hp
  go_enter Try.func54, Try.ntmps54
  go_wp2_with (refine wpList_box 42 _ rfl rfl (cellsI bs) rfl ?_; intro w1 g1 G1 B1 L1)
  refine ⟨?_⟩
  have c1 := (L1.out.cell (World.block_lt_of_cell? w _ HP.out)).trans HP.out
  go_wp2_with (refine wpList_loadAll 42 _ rfl rfl g1 _ (cellsI bs) _ Try.underlying42 rfl 66 Try.size_block rfl B1 hfl ?_)
  refine ⟨?_⟩
  go_wp2_with fail
  go_at_call 41
  refine (turnedB_any w1 bs _ _ _ HI.out).mono ?_
  rintro e w2 ⟨ts, rfl, hi2, b2⟩
  have HI2 := Lib.hid hi2
  have L2 : Hid (Below w.heap.size w w2) := Lib.hid (L1.out.trans (b2.mono L1.out.size))
  clear hi2 b2 L1 B1 G1 c1
  go_wp2_with fail
  go_at_call 55
  refine (lists_any w2 ts _ _ _ HI2.out).mono ?_
  rintro e w3 ⟨v3, rfl, o3, b3⟩
  have L3 : Hid (Below w.heap.size w w3) := Lib.hid (L2.out.trans (b3.mono L2.out.size))
  have O3 := Lib.hid (o3.mono L2.out.size)
  clear b3 o3
  go_wp2
  go_ret
  exact ⟨_, rfl, O3.out, L3.out⟩
set_option maxRecDepth 20000 in
set_option maxHeartbeats 1000000 in
theorem of_TurnFiles (w : World) (a : Option Addr) (len cap : Nat) (zss : List (List Int)) (p : Nat) (hf : LenSS zss) (hc : CameSS w a len zss) (hp : w.cell? ⟨p, 0, none⟩ = some (.func (.func 41) #[] #[])) :
    Calls Try.prog 48 #[.slice a len cap, .func (.func 54) #[] #[.pointer (some ⟨p, 0, none⟩)]] w fun e w' => ∃ v0, e = .returned (.tuple #[v0, .bool (outTurnFiles_1 zss)]) ∧ OwnSS w' w.heap.size v0 (outTurnFiles_0 zss) ∧ Below w.heap.size w w' := by
  have HG := Lib.hid (areFiles_any w a len cap zss hf hc)
  rcases hb : goodF zss with _ | _
  · have H0 : Hid (outTurnFiles_0 zss = [] ∧ outTurnFiles_1 zss = false) := Lib.hid (by unfold outTurnFiles_0 outTurnFiles_1; rw [hb]; exact ⟨rfl, rfl⟩)
    rw [hb] at HG
    clear hb hc hf
    go_enter Try.func48, Try.ntmps48
    go_wp2_with (go_at_call 24; refine HG.out.mono ?_; rintro e w' ⟨rfl, rfl⟩)
    go_ret2
    exact ⟨_, by rw [H0.out.2]; exact rfl, by rw [H0.out.1]; exact ownSS_nil _ _, Below.refl _ _⟩
  · have g := good_of hb
    have H0 : Hid (outTurnFiles_0 zss = turnL zss ∧ outTurnFiles_1 zss = true) := Lib.hid (by unfold outTurnFiles_0 outTurnFiles_1; rw [hb]; exact ⟨rfl, rfl⟩)
    have HBL := Lib.hid (blockOf_any w a len cap zss _ _ g hc)
    rw [hb] at HG
    have HPC := Lib.hid hp
    clear hp
    clear hb hc hf g
    go_enter Try.func48, Try.ntmps48
    go_wp2_with fail
    go_at_call 24
    refine HG.out.mono ?_
    rintro e w' ⟨rfl, rfl⟩
    go_wp2_with fail
    go_at_call 60
    refine HBL.out.mono ?_
    rintro e w2 ⟨bs, rfl, hi, b2⟩
    have HI := Lib.hid hi
    have L2 := Lib.hid b2
    clear hi b2 HBL
    go_wp2_with fail
    go_at_call 54
    refine (chg_TurnFiles w2 bs _ _ _ HI.out p ((L2.out.cell (World.block_lt_of_cell? w _ HPC.out)).trans HPC.out)).mono ?_
    rintro e w3 ⟨v3, rfl, o3, b3⟩
    have L3 : Hid (Below w.heap.size w w3) := Lib.hid (L2.out.trans (b3.mono L2.out.size))
    have O3 := Lib.hid (o3.mono L2.out.size)
    clear b3 o3
    go_wp2
    go_ret2
    exact ⟨_, by rw [H0.out.2]; exact rfl, by rw [H0.out.1]; exact O3.out, L3.out⟩
set_option maxRecDepth 20000 in
set_option maxHeartbeats 1000000 in
theorem chf_TurnFiles (w : World) (a : Option Addr) (len cap : Nat) (zss : List (List Int)) (hf : LenSS zss) (hc : CameSS w a len zss) :
    Calls Try.prog 29 #[.slice a len cap, .func (.func 41) #[] #[]] w fun e w' => ∃ v0, e = .returned (.tuple #[v0, .bool (outTurnFiles_1 zss)]) ∧ OwnSS w' w.heap.size v0 (outTurnFiles_0 zss) ∧ Below w.heap.size w w' := by
  have HB : Hid (Below w.heap.size w (w.alloc (.cells #[.func (.func 41) #[] #[]] 36))) := Lib.hid ((Below.refl _ _).alloc (Nat.le_refl _) _)
  have HO := Lib.hid (of_TurnFiles (w.alloc (.cells #[.func (.func 41) #[] #[]] 36)) a len cap zss w.heap.size hf (hc.below HB.out) (by simp))
  clear hf hc
  obtain ⟨x0, hx0⟩ : ∃ x, x = outTurnFiles_0 zss := ⟨_, rfl⟩
  obtain ⟨x1, hx1⟩ : ∃ x, x = outTurnFiles_1 zss := ⟨_, rfl⟩
  rw [← hx0, ← hx1] at HO
  rw [← hx0, ← hx1]
  clear hx0 hx1
  go_enter Try.func29, Try.ntmps29
  go_wp2_with fail
  go_at_call 48
  refine HO.out.mono ?_
  rintro e w2 ⟨v, rfl, o2, b2⟩
  have B2 : Hid (Below w.heap.size w w2) := Lib.hid (HB.out.trans (b2.mono HB.out.size))
  have O2 := Lib.hid (o2.mono HB.out.size)
  clear b2 o2
  go_wp2
  go_ret2
  exact ⟨_, rfl, O2.out, B2.out⟩
set_option maxRecDepth 20000 in
set_option maxHeartbeats 400000 in
theorem implTurnFiles_any (w : World) (a : Option Addr) (len cap : Nat) (zss : List (List Int)) (hf : LenSS zss) (hc : CameSS w a len zss) :
    Calls Try.prog 15 #[.slice a len cap] w fun e w' => ∃ v0, e = .returned (.tuple #[v0, .bool (outTurnFiles_1 zss)]) ∧ OwnSS w' w.heap.size v0 (outTurnFiles_0 zss) ∧ Below w.heap.size w w' := by
  have HO := Lib.hid (chf_TurnFiles w a len cap zss hf hc)
  clear hf hc
  obtain ⟨x0, hx0⟩ : ∃ x, x = outTurnFiles_0 zss := ⟨_, rfl⟩
  obtain ⟨x1, hx1⟩ : ∃ x, x = outTurnFiles_1 zss := ⟨_, rfl⟩
  rw [← hx0, ← hx1] at HO ⊢
  clear hx0 hx1
  go_enter Try.func15, Try.ntmps15
  go_wp2_with fail
  go_at_call 29
  refine HO.out.mono ?_
  rintro e w2 ⟨v, rfl, o2, b2⟩
  have B2 := Lib.hid b2
  have O2 := Lib.hid o2
  clear b2 o2
  go_wp2
  go_ret2
  exact ⟨_, rfl, O2.out, B2.out⟩

end Go.Proofs.Ytcljhjfmhnmgnaa
