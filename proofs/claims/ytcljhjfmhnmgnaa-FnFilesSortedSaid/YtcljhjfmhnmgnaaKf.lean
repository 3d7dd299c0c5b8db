/- Chapter 6, the program: columns of a block put in order; whether rows, columns are in order. -/
import Derived.Test.YtcljhjfmhnmgnaaKe
namespace Go.Proofs.Ytcljhjfmhnmgnaa
open Go.ChangeShapes Go.WideShapes Go.ChangeAt Go.RowKit
open Fi

set_option maxRecDepth 20000 in
set_option maxHeartbeats 1000000 in
theorem colsB_any (w : World) (bs : List Int) (zss : List (List Int)) (R C : Nat) (h : IsZ bs zss R C) :
    Calls Try.prog 35 #[.agg (cellsI bs).toArray] w fun e w' => ∃ bs', e = .returned (.agg (cellsI bs').toArray) ∧ IsZ bs' (colsL zss) R C ∧ Below w.heap.size w w' := by
  have HI := Lib.hid h
  have hfl := isB_len h.is
  clear h
  go_enter Try.func35, Try.ntmps35
  go_wp2_with (refine wpList_box 42 _ rfl rfl (cellsI bs) rfl ?_; intro w1 g1 G1 B1 L1)
  refine ⟨?_⟩
  go_wp2_with (refine wpList_new 42 rfl rfl _ _ Try.info_block ?_; intro w2 g2 G2 B2 L2)
  refine ⟨?_⟩
  have HB1 : Hid (Blk w2 g1 42 (cellsI bs)) := Lib.hid (B1.out.below L2.out B1.out.lt)
  have LA2 : Hid (Below w.heap.size w w2) := L1.out.trans (L2.out.mono L1.out.size)
  have g2l : Hid (w.heap.size ≤ g2) := Lib.hid (by have := G2.out; have := L1.out.size; omega)
  clear G1 G2 B1 L1 L2
  go_wp2_with (refine wpList_loadAll 42 _ rfl rfl g1 _ (cellsI bs) _ Try.underlying42 rfl 66 Try.size_block rfl HB1 hfl ?_)
  refine ⟨?_⟩
  go_wp2_with fail
  go_at_call 41
  refine (turnedB_any w2 bs _ _ _ HI.out).mono ?_
  rintro e w3 ⟨bs3, rfl, hi3, b3⟩
  have HI3 := Lib.hid hi3
  have LA3 : Hid (Below w.heap.size w w3) := Lib.hid (LA2.out.trans (b3.mono LA2.out.size))
  have HZ3 : Hid (Blk w3 g2 42 (cellsI bk0)) := Lib.hid (B2.out.below b3 B2.out.lt)
  clear hi3 b3 B2 LA2
  go_wp2_with fail
  go_at_call 34
  refine (rowsB_any w3 bs3 _ _ _ HI3.out).mono ?_
  rintro e w4 ⟨bs4, rfl, hi4, b4⟩
  have HI4 := Lib.hid hi4
  have LA4 : Hid (Below w.heap.size w w4) := Lib.hid (LA3.out.trans (b4.mono LA3.out.size))
  have HZ4 : Hid (Blk w4 g2 42 (cellsI bk0)) := Lib.hid (HZ3.out.below b4 HZ3.out.lt)
  clear hi4 b4 HZ3 LA3
  go_wp2_with fail
  go_at_call 41
  refine (turnedB_any w4 bs4 _ _ _ HI4.out).mono ?_
  rintro e w5 ⟨bs5, rfl, hi5, b5⟩
  have HI5 := Lib.hid hi5
  have LA5 : Hid (Below w.heap.size w w5) := Lib.hid (LA4.out.trans (b5.mono LA4.out.size))
  have HZ5 : Hid (Blk w5 g2 42 (cellsI bk0)) := Lib.hid (HZ4.out.below b5 HZ4.out.lt)
  clear hi5 b5 HZ4 LA4
  have hfz := isB_len HI5.out.is
  go_wp2_with (refine wpList_storeAll 42 _ _ rfl rfl g2 _ (cellsI bk0) (cellsI bs5) 66 Try.size_block rfl rfl HZ5 hfz length_bk0 (cellsI_one _) ?_; intro w9 B9 L9)
  refine ⟨?_⟩
  go_wp2
  refine ret_cell 2 42 (by kernel_rfl) g2 _ (cellsI bs5) _ Try.underlying42 rfl 66 Try.size_block rfl B9.out hfz rfl ?_
  exact ⟨bs5, rfl, HI5.out, grownBy_below LA5.out L9.out (Nat.le_refl _) g2l.out⟩

set_option maxRecDepth 20000 in
set_option maxHeartbeats 1000000 in
theorem bothB_any (w : World) (bs : List Int) (zss : List (List Int)) (R C : Nat) (h : IsZ bs zss R C) :
    Calls Try.prog 30 #[.agg (cellsI bs).toArray] w fun e w' => ∃ bs', e = .returned (.agg (cellsI bs').toArray) ∧ IsZ bs' (colsL (rowsL zss)) R C ∧ Below w.heap.size w w' := by
  have HI := Lib.hid h
  have hfl := isB_len h.is
  clear h
  go_enter Try.func30, Try.ntmps30
  go_wp2_with (refine wpList_box 42 _ rfl rfl (cellsI bs) rfl ?_; intro w1 g1 G1 B1 L1)
  refine ⟨?_⟩
  go_wp2_with (refine wpList_new 42 rfl rfl _ _ Try.info_block ?_; intro w2 g2 G2 B2 L2)
  refine ⟨?_⟩
  have HB1 : Hid (Blk w2 g1 42 (cellsI bs)) := Lib.hid (B1.out.below L2.out B1.out.lt)
  have LA2 : Hid (Below w.heap.size w w2) := L1.out.trans (L2.out.mono L1.out.size)
  have g2l : Hid (w.heap.size ≤ g2) := Lib.hid (by have := G2.out; have := L1.out.size; omega)
  clear G1 G2 B1 L1 L2
  go_wp2_with (refine wpList_loadAll 42 _ rfl rfl g1 _ (cellsI bs) _ Try.underlying42 rfl 66 Try.size_block rfl HB1 hfl ?_)
  refine ⟨?_⟩
  go_wp2_with fail
  go_at_call 34
  refine (rowsB_any w2 bs _ _ _ HI.out).mono ?_
  rintro e w3 ⟨bs3, rfl, hi3, b3⟩
  have HI3 := Lib.hid hi3
  have LA3 : Hid (Below w.heap.size w w3) := Lib.hid (LA2.out.trans (b3.mono LA2.out.size))
  have HZ3 : Hid (Blk w3 g2 42 (cellsI bk0)) := Lib.hid (B2.out.below b3 B2.out.lt)
  clear hi3 b3 B2 LA2
  go_wp2_with fail
  go_at_call 35
  refine (colsB_any w3 bs3 _ _ _ HI3.out).mono ?_
  rintro e w4 ⟨bs4, rfl, hi4, b4⟩
  have HI4 := Lib.hid hi4
  have LA4 : Hid (Below w.heap.size w w4) := Lib.hid (LA3.out.trans (b4.mono LA3.out.size))
  have HZ4 : Hid (Blk w4 g2 42 (cellsI bk0)) := Lib.hid (HZ3.out.below b4 HZ3.out.lt)
  clear hi4 b4 HZ3 LA3
  have hfz := isB_len HI4.out.is
  go_wp2_with (refine wpList_storeAll 42 _ _ rfl rfl g2 _ (cellsI bk0) (cellsI bs4) 66 Try.size_block rfl rfl HZ4 hfz length_bk0 (cellsI_one _) ?_; intro w9 B9 L9)
  refine ⟨?_⟩
  go_wp2
  refine ret_cell 2 42 (by kernel_rfl) g2 _ (cellsI bs4) _ Try.underlying42 rfl 66 Try.size_block rfl B9.out hfz rfl ?_
  exact ⟨bs4, rfl, HI4.out, grownBy_below LA4.out L9.out (Nat.le_refl _) g2l.out⟩

theorem Try.plain_intR : Try.prog.plainKey 3 = true := by kernel_rfl
theorem Try.cells_intR : Try.prog.cellsOf 3 = 1 := by kernel_rfl
theorem run_eqRow {rs ys : List Int} (h1 : rs.length = 8) (h2 : ys.length = 8) (w : World) : (Op.equalIn 10000 39 (.agg (cellsI rs).toArray) (.agg (cellsI ys).toArray)).run Try.prog w = .ok (decide (rs = ys)) w := by
  obtain ⟨i0, hi, hz0, hz1, hz2⟩ := info_parts Try.info_int
  rw [show (10000 : Nat) = 9999 + 1 from rfl, run_equalIn_array w 9999 _ _ Try.underlying39 hi, show (9999 : Nat) = 9998 + 1 from rfl, run_eqItems_ints 9998 Try.plain_intR Try.underlying3 Try.cells_intR rs ys w _ (fun j hj => by have := List.mem_range.1 hj; omega), eqAll h1 h2]
theorem run_loadRow {w : World} {g : Nat} {t : TypeId} {rs : List Int} (h : Blk w g t (cellsI rs)) (h8 : rs.length = 8) : (Instr.loadAt 39 (.pointer (some ⟨g, 0, none⟩))).run Try.prog w = .ok (.agg (cellsI rs).toArray) w :=
  run_loadAt_mid w g 0 39 (cellsI rs) _ (by have := h.range 0 8; rwa [List.drop_zero, List.take_of_length_le (by rw [length_cellsI]; omega)] at this) Try.underlying39 rfl (by rw [length_cellsI, h8]; exact Try.size_fileRow)
theorem quiet_loadRow {P : Program} {C : World → Prop} {a : Act} {o : Oper} {K : Act → Prop} (ty : TypeId) (x : Operand) (ho : o.op = .load ty x) (p v : Value) (hx : a.eval x = p) (hv : ∀ w, C w → (Instr.loadAt ty p).run P w = .ok v w) (hk : K (a.put o.dst v)) : o.quiet P a C K := by
  subst hx
  refine ⟨v, fun w hw => ?_, hk⟩
  unfold Oper.quietAt
  have e := hv w hw
  have : (execOp a.eval o).run P w = .ok (.value v) w := by
    unfold execOp
    simp only [ho, Sem.run_bind, Sem.run_pure, Result.andThen_ok, e]
  rw [this]
  exact ⟨rfl, rfl⟩
set_option maxRecDepth 20000 in
set_option maxHeartbeats 4000000 in
theorem rowsAre_any (w : World) (bs : List Int) (zss : List (List Int)) (R C : Nat) (h : IsZ bs zss R C) :
    Calls Try.prog 37 #[.agg (cellsI bs).toArray] w fun e w' => e = .returned (.bool (sortedB zss)) ∧ Below w.heap.size w w' := by
  have hr1 := h.good.r1
  have hr8 := h.good.r8
  have hc1 := h.good.c1
  have hc8 := h.good.c8
  have HI := Lib.hid h.is
  have HCO := Lib.hid (fun i hi => h.good.cols i hi)
  have HYE : Hid ((∀ i, i < R → rowSortedB (row zss i) = true) → sortedB zss = true) := Lib.hid (fun hh => sorted_all (fun i hi => hh i (by rw [← h.good.rows]; exact hi)))
  have HNO : Hid (∀ i, i < R → rowSortedB (row zss i) = false → sortedB zss = false) := Lib.hid (fun i hi hh => sorted_not (by rw [h.good.rows]; exact hi) hh)
  clear h
  go_enter Try.func37, Try.ntmps37
  go_wp2_with (refine wpList_box 42 _ rfl rfl (cellsI bs) rfl ?_; intro w1 g1 G1 B1 L1)
  refine ⟨?_⟩
  have c65 : w1.cell? ⟨g1, 65, none⟩ = some (.int .i64 (C : Int)) := by rw [B1.out.celI 65 (by rw [HI.out.len]; omega), HI.out.cols]
  have LA : Hid (Below w.heap.size w w1) := L1
  clear G1 L1
  go_wp2_with fail
  go_at_call 59
  refine (sorter_any w1 (C : Int)).mono ?_
  rintro e w3 ⟨gc, rfl, hgc, c3, b3⟩
  have HC3 := Lib.hid c3
  have HB3 : Hid (Blk w3 g1 42 (cellsI bs)) := Lib.hid (B1.out.below b3 B1.out.lt)
  have LB : Hid (Below w.heap.size w w3) := Lib.hid (LA.out.trans (b3.mono LA.out.size))
  have c64 : w3.cell? ⟨g1, 64, none⟩ = some (.int .i64 (R : Int)) := by rw [HB3.out.celI 64 (by rw [HI.out.len]; omega), HI.out.rows]
  have i4 : (0 : Int) ≤ (R : Int) := by omega
  have i5 : (R : Int) ≤ 8 := by omega
  clear b3 c3 hgc B1 LA c65
  go_wp2
  go_loopw [14] (fun i wr => ∃ k : Nat, k ≤ R ∧ i = .int .i64 (k : Int) ∧ Hid (∀ j, j < k → rowSortedB (row zss j) = true) ∧ Hid (Below w3.heap.size w3 wr)) (fun i _ => R - (intOf i).toNat)
  case atStart => exact ⟨0, Nat.zero_le _, rfl, Lib.hid (fun j hj => absurd hj (Nat.not_lt_zero _)), Lib.hid (Below.refl _ _)⟩
  case round =>
    obtain ⟨k, hk, rfl, HT, HB⟩ := hrel
    clear c64
    by_cases hlt : k < R
    · have HO : Hid (Blk wr g1 42 (cellsI bs)) := Lib.hid (HB3.out.below HB.out HB3.out.lt)
      have hsg := length_seg HI.out.len k (by omega)
      have hst : (seg bs k).take C = row zss k := seg_row HI.out k hlt (HCO.out k hlt) (fun j _ => ⟨trivial, rfl⟩)
      have hol : (ordR C (seg bs k)).length = 8 := by rw [length_ordR (by omega), hsg]
      have hok : decide (seg bs k = ordR C (seg bs k)) = rowSortedB (row zss k) := by rw [ordR_is (by omega), hst]
      have HSG : Hid (((cellsI bs).drop (k * 8)).take 8 = cellsI (seg bs k)) := Lib.hid (cellsI_seg bs k)
      have HS1 := Lib.hid (fun w2 h => sorter1_any w2 (seg bs k) C gc hsg hc8 h)
      have heq := fun w2 => run_eqRow hsg hol w2
      rw [hok] at heq
      have HNK := Lib.hid (HNO.out k hlt)
      have HTK : Hid (rowSortedB (row zss k) = true → ∀ j, j < k + 1 → rowSortedB (row zss j) = true) := Lib.hid (fun hh j hj => by
        by_cases e : j = k
        · subst e; exact hh
        · exact HT.out j (by omega))
      obtain ⟨rs, hrs⟩ : ∃ rs, rs = seg bs k := ⟨_, rfl⟩
      obtain ⟨ys, hys⟩ : ∃ ys, ys = ordR C (seg bs k) := ⟨_, rfl⟩
      obtain ⟨b, hb⟩ : ∃ b, b = rowSortedB (row zss k) := ⟨_, rfl⟩
      have hrl : rs.length = 8 := by rw [hrs]; exact hsg
      rw [← hys] at HS1 heq
      rw [← hrs] at HSG HS1 heq
      rw [← hb] at heq HNK HTK
      have HRL := Lib.hid hrl
      have HEQ := Lib.hid heq
      have i1 : (0 : Int) ≤ (k : Int) := by omega
      have i2 : (k : Int) < 8 := by omega
      have i3 : (k : Int) < (R : Int) := by omega
      clear hrs hys hrl hsg hst hol hok hb heq HT
      go_wp2_with (refine wpList_loadRow 39 _ rfl rfl g1 (k * 8) _ (cellsI bs) (cellsI rs) _ Try.underlying39 rfl 8 Try.size_fileRow rfl HO HSG.out (by rw [length_cellsI]; exact HRL.out) ?_)
      refine ⟨?_⟩
      go_wp2_with (refine wpList_new 39 rfl rfl _ _ Try.info_fileRow ?_; intro w5 g5 G5 B5 L5)
      refine ⟨?_⟩
      have g5l : Hid (w3.heap.size ≤ g5) := Lib.hid (by have := G5.out; have := HB.out.size; omega)
      have HB5 : Hid (Below w3.heap.size w3 w5) := Lib.hid (HB.out.trans (L5.out.mono HB.out.size))
      clear G5 L5
      go_wp2_with (refine wpList_storeAll 39 _ _ rfl rfl g5 _ (cellsI fr0) (cellsI rs) 8 Try.size_fileRow rfl rfl B5 (by rw [length_cellsI]; exact HRL.out) (by rw [length_cellsI]; rfl) (cellsI_one _) ?_; intro w6 B6 L6)
      refine ⟨?_⟩
      have HB6 : Hid (Below w3.heap.size w3 w6) := grownBy_below HB5.out L6.out (Nat.le_refl _) g5l.out
      have HX6 := Lib.hid (fun (X : Lw w6) => run_loadRow (B6.out.below X.b B6.out.lt) HRL.out)
      have HV6 : Hid (∀ w2, (∃ X : Lw w6, w2 = X.w) → (Instr.loadAt 39 (.pointer (some ⟨g5, 0, none⟩))).run Try.prog w2 = .ok (.agg (cellsI rs).toArray) w2) := Lib.hid (by rintro w2 ⟨X, rfl⟩; exact HX6.out X)
      have HY6 := Lib.hid (fun (w2 : World) (h : Below w6.heap.size w6 w2) => HS1.out w2 (((HB6.out.trans (h.mono HB6.out.size)).cell (World.block_lt_of_cell? w3 _ HC3.out)).trans HC3.out))
      clear HB5 L6 B5 HO HB HS1
      cases b with
      | false =>
        have H0 : Hid (sortedB zss = false) := Lib.hid (HNK.out rfl)
        go_wp2_with fail
        have ex2 := HEQ.out
        have ex3 := Try.eqGuardType39
        refine wp_region_lw (by kernel_rfl) (by kernel_rfl) ?_
        repeat (first | (go_big_quiet_want; refine quiet_loadRow _ _ rfl _ _ rfl HV6.out ?_; simp only [Act.put, List.setIfInBounds_toArray, List.set_cons_succ, List.set_cons_zero]; go_big_quiet_on) | go_big_quiet_step ((go_at_call 70; exact lw_call (fun w2 hb => HY6.out w2 hb) _)))
        refine wpQuiet_nil ?_
        rintro w' ⟨X, rfl⟩
        have HB7 : Hid (Below w3.heap.size w3 X.w) := Lib.hid (HB6.out.trans (X.b.mono HB6.out.size))
        clear ex2 ex3 HX6 HV6 HY6
        go_wp2
        go_ret
        exact ⟨ret_bool H0.out.symm, LB.out.trans (HB7.out.mono LB.out.size)⟩
      | true =>
        have HT2 := Lib.hid (HTK.out rfl)
        go_wp2_with fail
        have ex2 := HEQ.out
        have ex3 := Try.eqGuardType39
        refine wp_region_lw (by kernel_rfl) (by kernel_rfl) ?_
        repeat (first | (go_big_quiet_want; refine quiet_loadRow _ _ rfl _ _ rfl HV6.out ?_; simp only [Act.put, List.setIfInBounds_toArray, List.set_cons_succ, List.set_cons_zero]; go_big_quiet_on) | go_big_quiet_step ((go_at_call 70; exact lw_call (fun w2 hb => HY6.out w2 hb) _)))
        refine wpQuiet_nil ?_
        rintro w' ⟨X, rfl⟩
        have HB7 : Hid (Below w3.heap.size w3 X.w) := Lib.hid (HB6.out.trans (X.b.mono HB6.out.size))
        clear ex2 ex3 HX6 HV6 HY6
        go_wp2
        go_roundw
        case rel => exact ⟨k + 1, by omega, by go_num, HT2, HB7⟩
        case measure => simp [intOf]; omega
    · obtain rfl : k = R := by omega
      have H0 : Hid (sortedB zss = true) := Lib.hid (HYE.out HT.out)
      go_wp2
      go_ret
      exact ⟨ret_bool H0.out.symm, LB.out.trans (HB.out.mono LB.out.size)⟩

set_option maxRecDepth 20000 in
set_option maxHeartbeats 1000000 in
theorem colsAre_any (w : World) (bs : List Int) (zss : List (List Int)) (R C : Nat) (h : IsZ bs zss R C) :
    Calls Try.prog 39 #[.agg (cellsI bs).toArray] w fun e w' => e = .returned (.bool (sortedB (turnL zss))) ∧ Below w.heap.size w w' := by
  have HI := Lib.hid h
  have hfl := isB_len h.is
  clear h
  go_enter Try.func39, Try.ntmps39
  go_wp2_with (refine wpList_box 42 _ rfl rfl (cellsI bs) rfl ?_; intro w1 g1 G1 B1 L1)
  refine ⟨?_⟩
  go_wp2_with (refine wpList_loadAll 42 _ rfl rfl g1 _ (cellsI bs) _ Try.underlying42 rfl 66 Try.size_block rfl B1 hfl ?_)
  refine ⟨?_⟩
  go_wp2_with fail
  go_at_call 41
  refine (turnedB_any w1 bs _ _ _ HI.out).mono ?_
  rintro e w2 ⟨ts, rfl, hi2, b2⟩
  have HI2 := Lib.hid hi2
  have L2 : Hid (Below w.heap.size w w2) := Lib.hid (L1.out.trans (b2.mono L1.out.size))
  clear hi2 b2 L1
  go_wp2_with fail
  go_at_call 37
  refine (rowsAre_any w2 ts _ _ _ HI2.out).mono ?_
  rintro e w3 ⟨rfl, b3⟩
  have L3 : Hid (Below w.heap.size w w3) := Lib.hid (L2.out.trans (b3.mono L2.out.size))
  clear b3
  go_wp2
  go_ret
  exact ⟨rfl, L3.out⟩

end Go.Proofs.Ytcljhjfmhnmgnaa
