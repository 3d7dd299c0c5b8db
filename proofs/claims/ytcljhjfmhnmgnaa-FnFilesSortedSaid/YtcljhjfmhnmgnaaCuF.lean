/- The draws of files: sureFiles, files. -/
import Derived.Test.YtcljhjfmhnmgnaaCu
import Derived.Test.YtcljhjfmhnmgnaaFm
import Derived.Test.YtcljhjfmhnmgnaaOw
namespace Go.Proofs.Ytcljhjfmhnmgnaa
open Go.ChangeShapes Go.WideShapes Go.ChangeAt Go.RowKit
open Cu Fi

theorem Cur.below {w w' : World} {g A B : Nat} (h : Cur w g A) (hb : Below B w w') (hg : g < B) : Cur w' g A := by
  obtain ⟨a, len, cap, k, sd, h1, h2, h3, h4, h5, h6, h7⟩ := h.has
  refine ⟨a, len, cap, k, sd, h1.below hb hg, h2, h3, h4, h5, fun hp => ?_, h7⟩
  obtain ⟨b, off, e, hc⟩ := h6 hp
  refine ⟨b, off, e, fun j hj => ?_⟩
  obtain ⟨x, hx, hx2⟩ := hc j hj
  have := h7 hp _ e
  exact ⟨x, hx, (World.cell?_of_block (hb.block b (Nat.lt_trans this hg))).trans hx2⟩
theorem Drawn.below {w w1 w2 : World} {g A : Nat} (h : Drawn w w1 g A) (hb : Below w.heap.size w1 w2) (hg : g < w.heap.size) : Drawn w w2 g A :=
  ⟨h.cur.below hb hg, hb.os.trans h.grown.os, hb.tape.trans h.grown.tape, hb.output.trans h.grown.output, Nat.le_trans h.grown.size hb.size, fun k hk hr => (hb.block k hk).trans (h.grown.block k hk hr)⟩
theorem Drawn.mono {w w1 : World} {g A A' : Nat} (h : Drawn w w1 g A) (hA : A ≤ A') : Drawn w w1 g A' := ⟨h.cur.mono hA, h.grown⟩
theorem drawn_refl {w : World} {g A : Nat} (h : Cur w g A) : Drawn w w g A := ⟨h, World.grownBy.refl _ _⟩
theorem own_drawn {w w' : World} {B g : Nat} {v : Value} {xs : List Int} (h : Own w B v xs) (hg : w.grownBy w' (some g)) (hB : g < B) : Own w' B v xs :=
  h.same fun k ek => hg.block k (World.ownsRow.lt h k ek).2 (fun e => by have := (World.ownsRow.lt h k ek).1; have := Option.some.inj e; omega)
theorem ownSS_drawn {w w' : World} {B g : Nat} {v : Value} {zss : List (List Int)} (h : OwnSS w B v zss) (hg : w.grownBy w' (some g)) (hB : g < B) : OwnSS w' B v zss := by
  obtain ⟨vs, S⟩ := h
  have S1 := S.same (w' := w') (fun k hk hk2 => hg.block k hk2 (fun e => by have := Option.some.inj e; omega))
  exact OwnJ.mono (⟨vs, S1⟩ : OwnJ w' B w.heap.size v zss) (Nat.le_refl _) hg.size
/-- rows that stand, seen from a world cut off behind them -/
theorem ownSS_cut {wo w0 : World} {B g : Nat} {v : Value} {zss : List (List Int)} (own : OwnSS wo B v zss) (hg : wo.grownBy w0 (some g)) (hB : g < B) :
    ∃ wa : World, wa.heap.size = wo.heap.size ∧ OwnSS wa B v zss ∧ Below wa.heap.size wa w0 := by
  have hsz : ({ w0 with heap := w0.heap.extract 0 wo.heap.size } : World).heap.size = wo.heap.size := by
    show (w0.heap.extract 0 wo.heap.size).size = _
    rw [Array.size_extract]; have := hg.size; omega
  have hget : ∀ k, k < wo.heap.size → ({ w0 with heap := w0.heap.extract 0 wo.heap.size } : World).heap[k]? = w0.heap[k]? := fun k hk => by
    show (w0.heap.extract 0 wo.heap.size)[k]? = _
    rw [Array.getElem?_extract, if_pos (by have := hg.size; omega)]; simp
  refine ⟨{ w0 with heap := w0.heap.extract 0 wo.heap.size }, hsz, ?_, ?_⟩
  · obtain ⟨vs, S⟩ := own
    refine ⟨vs, ?_⟩
    rw [hsz]
    exact S.same fun k hk hk2 => (hget k hk2).trans (hg.block k hk2 (fun e => by have := Option.some.inj e; omega))
  · refine ⟨rfl, rfl, rfl, by rw [hsz]; exact hg.size, fun k hk => ?_⟩
    rw [hsz] at hk
    exact (hget k hk).symm

/-- so many rows of C numbers from 1 to 99 -/
structure RowsOf (zss : List (List Int)) (k C : Nat) : Prop where
  len : zss.length = k
  each : ∀ i, i < k → (row zss i).length = C ∧ allB (row zss i) 1 999 = true
theorem RowsOf.app {zss : List (List Int)} {k C : Nat} {zs : List Int} (h : RowsOf zss k C) (h1 : zs.length = C) (h2 : allB zs 1 999 = true) : RowsOf (zss ++ [zs]) (k + 1) C := by
  refine ⟨by rw [List.length_append, h.len]; rfl, fun i hi => ?_⟩
  by_cases e : i < k
  · have : row (zss ++ [zs]) i = row zss i := by
      unfold row; rw [List.getD_eq_getElem?_getD, List.getD_eq_getElem?_getD, List.getElem?_append_left (by rw [h.len]; exact e)]
    rw [this]; exact h.each i e
  · obtain rfl : i = k := by omega
    have : row (zss ++ [zs]) i = zs := by
      unfold row; rw [List.getD_eq_getElem?_getD, List.getElem?_append_right (by rw [h.len]; omega), h.len, Nat.sub_self]; rfl
    rw [this]; exact ⟨h1, h2⟩
theorem RowsOf.good {zss : List (List Int)} {k C : Nat} (h : RowsOf zss k C) (h1 : 1 ≤ k) (h2 : k ≤ 8) (h3 : 1 ≤ C) (h4 : C ≤ 8) : Fi.Good zss k C :=
  ⟨h.len, h1, h2, h3, h4, fun i hi => (h.each i hi).1, fun i hi => (h.each i hi).2⟩
theorem allB_app {zs : List Int} {z : Int} (h : allB zs 1 999 = true) (h1 : 1 ≤ z) (h2 : z ≤ 999) : allB (zs ++ [z]) 1 999 = true := by
  unfold allB at h ⊢
  rw [List.all_append, h]
  simp only [List.all_cons, List.all_nil, Bool.and_true, Bool.true_and]
  exact inB_of ⟨h1, h2⟩
set_option maxRecDepth 20000 in
set_option maxHeartbeats 8000000 in
theorem sureFiles_p (w : World) (g A : Nat) (hA : A ≤ 10000000000) (hc : Cur w g A) :
    Calls Try.prog 75 #[.pointer (some ⟨g, 0, none⟩)] w fun e w' => ∃ v zss R C, e = .returned v ∧ OwnSS w' w.heap.size v zss ∧ Fi.Good zss R C ∧ R ≤ 4 ∧ Drawn w w' g (A + 100) := by
  have HG := Lib.hid hc.lt
  have C1 := Lib.hid (pick_p w g A 4 (by omega) (by omega) (by omega) hc)
  have D0 := Lib.hid (drawn_refl hc)
  clear hc
  go_enter Try.func75, Try.ntmps75
  go_wp2_with fail
  go_at_call 76
  refine C1.out.mono ?_
  rintro e w1 ⟨r1, hr1, rfl, d1⟩
  have C2 := Lib.hid (pick_p w1 g (A + 2) 4 (by omega) (by omega) (by omega) d1.cur)
  have D1 := Lib.hid d1
  clear d1
  go_wp2_with fail
  go_at_call 76
  refine C2.out.mono ?_
  rintro e w2 ⟨r2, hr2, rfl, d2⟩
  have D2 := Lib.hid (D1.out.trans d2)
  clear d2
  have hg2 : g < w2.heap.size := Nat.lt_of_lt_of_le HG.out D2.out.grown.size
  have C3 := Lib.hid (among_p (w2.alloc (.cells #[.int .i64 3, .int .i64 9, .int .i64 99] 3)) g (A + 4) (some ⟨w2.heap.size, 0, none⟩) 3 3 [3, 9, 99] (by omega) (by omega) (by omega)
    ⟨rfl, fun _ => ⟨w2.heap.size, 0, rfl, fun k hk => by
      match k, hk with
      | 0, _ => rw [World.cell?_alloc_new]; rfl
      | 1, _ => rw [World.cell?_alloc_new]; rfl
      | 2, _ => rw [World.cell?_alloc_new]; rfl⟩⟩ (fun x hx => by cases hx; exact (Nat.ne_of_lt hg2).symm) (D2.out.cur.below ((Below.refl _ _).alloc (Nat.le_refl _) _) hg2))
  go_wp2_with fail
  go_at_call 77
  refine C3.out.mono ?_
  rintro e w3 ⟨r3, hr3, rfl, d3⟩
  have D3 := Lib.hid ((D2.out.below ((Below.refl _ _).alloc D2.out.grown.size (.cells #[.int .i64 3, .int .i64 9, .int .i64 99] 3)) HG.out).trans d3)
  clear d3 C1 C2 C3
  obtain ⟨mo, hmo, hm1, hm2⟩ : ∃ mo : Nat, ([3, 9, 99] : List Int).getD r3 0 = (mo : Int) ∧ 1 ≤ mo ∧ mo ≤ 99 := by
    match r3, hr3 with
    | 0, _ => exact ⟨3, rfl, by omega, by omega⟩
    | 1, _ => exact ⟨9, rfl, by omega, by omega⟩
    | 2, _ => exact ⟨99, rfl, by omega, by omega⟩
  rw [hmo]
  obtain ⟨R, hR⟩ : ∃ R : Nat, R = 1 + r1 := ⟨_, rfl⟩
  obtain ⟨C, hC⟩ : ∃ C : Nat, C = 1 + r2 := ⟨_, rfl⟩
  rw [show (1 : Int) + (r1 : Int) = (R : Int) by omega, show (1 : Int) + (r2 : Int) = (C : Int) by omega]
  have hR1 : 1 ≤ R := by omega
  have hR4 : R ≤ 4 := by omega
  have hC1 : 1 ≤ C := by omega
  have hC4 : C ≤ 4 := by omega
  clear hmo hR hC
  go_wp2
  go_loopw [6, 7] (fun v i wr => ∃ (k : Nat) (zss : List (List Int)), k ≤ R ∧ i = .int .i64 (k : Int) ∧ Hid (OwnSS wr w.heap.size v zss) ∧ Hid (RowsOf zss k C) ∧ Hid (Drawn w wr g (A + 6 + 10 * k))) (fun _ i _ => R - (intOf i).toNat)
  case atStart => exact ⟨0, [], Nat.zero_le _, rfl, Lib.hid (ownSS_nil _ _), Lib.hid ⟨rfl, fun i hi => absurd hi (Nat.not_lt_zero _)⟩, Lib.hid (D3.out.mono (by omega))⟩
  case round =>
    obtain ⟨k, zss, hk, rfl, HO, HR, HD⟩ := hrel
    by_cases hlt : k < R
    · obtain ⟨wo, rfl⟩ : ∃ wo : World, wo = wr := ⟨_, rfl⟩
      have i2 : (k : Int) < (R : Int) := by omega
      have HGo : Hid (g < wo.heap.size) := Lib.hid (Nat.lt_of_lt_of_le HG.out HD.out.grown.size)
      go_wp2
      go_loopw [8, 9] (fun v i wr => ∃ (j : Nat) (zs : List Int), j ≤ C ∧ i = .int .i64 (j : Int) ∧ Hid (Own wr wo.heap.size v zs) ∧ Hid (zs.length = j ∧ allB zs 1 999 = true) ∧ Hid (Drawn wo wr g (A + 6 + 10 * k + 2 * j))) (fun _ i _ => C - (intOf i).toNat)
      case atStart => exact ⟨0, [], Nat.zero_le _, rfl, Lib.hid (own_nil _ _), Lib.hid ⟨rfl, rfl⟩, Lib.hid (drawn_refl HD.out.cur)⟩
      case round =>
        obtain ⟨j, zs, hj, rfl, HX, HZ, HE⟩ := hrel
        by_cases hlt2 : j < C
        · have i3 : (j : Int) < (C : Int) := by omega
          have CP := Lib.hid (pick_p wr g (A + 6 + 10 * k + 2 * j) mo (by omega) hm1 (by omega) HE.out.cur)
          go_wp2_with fail
          go_at_call 76
          refine CP.out.mono ?_
          rintro e w4 ⟨r, hr, rfl, d4⟩
          have D4 := Lib.hid (HE.out.trans d4)
          have HX4 := Lib.hid (own_drawn HX.out d4.grown HGo.out)
          have hsz := D4.out.grown.size
          have hbl : zs.length ≤ 1000000000 := by have := HZ.out.1; omega
          have hr99 : (1 : Int) + (r : Int) ≤ 999 := by omega
          clear d4 CP
          go_wp2_with (at_builtin; refine wpList_app rfl _ _ rfl w4 _ _ _ _ rfl rfl HX4.out hsz hbl ?_; intro v' w5 hO hB5)
          have HX5 := Lib.hid hO
          have HZ5 : Hid ((zs ++ [(1 : Int) + (r : Int)]).length = j + 1 ∧ allB (zs ++ [(1 : Int) + (r : Int)]) 1 999 = true) := Lib.hid ⟨by rw [List.length_append, HZ.out.1]; rfl, allB_app HZ.out.2 (by omega) hr99⟩
          have D5 := Lib.hid (D4.out.below hB5 HGo.out)
          clear hO hB5
          go_wp2
          go_roundw
          case rel => exact ⟨j + 1, _, by omega, by go_num, HX5, HZ5, Lib.hid (D5.out.mono (by omega))⟩
          case measure => simp [intOf]; omega
        · obtain rfl : j = C := by omega
          obtain ⟨wa, hwa, HOa, HBa⟩ := ownSS_cut HO.out HE.out.grown HG.out
          have hX := HX.out
          rw [← hwa] at hX
          have hz : w.heap.size ≤ wa.heap.size := by rw [hwa]; exact HD.out.grown.size
          have hbl : zss.length ≤ 1000000000 := by have := HR.out.len; omega
          have HXa := Lib.hid hX
          have HOa := Lib.hid HOa
          have HBa := Lib.hid HBa
          obtain ⟨ar, cr, rfl⟩ := HX.out.any
          clear hX hwa
          go_wp2_with (at_builtin; refine wpList_appRow rfl _ _ rfl wr wa _ _ _ _ _ _ rfl rfl rfl HOa.out HBa.out HXa.out hz hbl ?_; intro v' w5 hO hB5)
          have HO5 := Lib.hid hO
          have HR5 := Lib.hid (HR.out.app HZ.out.1 HZ.out.2)
          have D5 := Lib.hid ((HD.out.trans HE.out).below hB5 HG.out)
          clear hO hB5
          go_wp2
          go_roundw
          case rel => exact ⟨k + 1, _, by omega, by go_num, HO5, HR5, Lib.hid (D5.out.mono (by omega))⟩
          case measure => simp [intOf]; omega
    · obtain rfl : k = R := by omega
      have HGd := Lib.hid (HR.out.good hR1 (by omega) hC1 (by omega))
      have CO := Lib.hid (one_p wr g _ 3 (by omega) (by omega) (by omega) HD.out.cur)
      go_wp2_with fail
      go_at_call 80
      refine CO.out.mono ?_
      rintro e w4 ⟨b, rfl, d4⟩
      have D4 := Lib.hid (HD.out.trans d4)
      have HO4 := Lib.hid (ownSS_drawn HO.out d4.grown HG.out)
      clear d4 CO HO
      rcases b with _ | _
      · go_wp2
        go_ret
        exact ⟨_, zss, k, C, rfl, HO4.out, HGd.out, hR4, D4.out.mono (by omega)⟩
      · obtain ⟨ao, cp, rfl, hcm, _, _⟩ := HO4.out.cameC
        obtain ⟨n, hn⟩ : ∃ n, n = zss.length := ⟨_, rfl⟩
        rw [← hn] at hcm
        have CR := Lib.hid (fiRows_any w4 ao n cp zss (by rw [hn, HGd.out.rows]; omega) (fun i hi => by rw [HGd.out.cols i (by rw [hn, HGd.out.rows] at hi; exact hi)]; omega) hcm)
        rw [← hn]
        clear hn hcm
        go_wp2_with fail
        go_at_call 33
        refine CR.out.mono ?_
        rintro e w5 ⟨v5, rfl, o5, b5⟩
        have D5 := Lib.hid (D4.out.below (b5.mono D4.out.grown.size) HG.out)
        have hz5 := D5.out.grown.size
        obtain ⟨a5, c5, rfl, hcm5, _, _⟩ := o5.cameC
        obtain ⟨n5, hn5⟩ : ∃ n, n = (rowsL zss).length := ⟨_, rfl⟩
        rw [← hn5] at hcm5 ⊢
        have CC := Lib.hid (fiColumns_any w5 a5 n5 c5 (rowsL zss) k C (good_rows HGd.out) hcm5)
        clear o5 b5 hcm5 hn5 CR
        go_wp2_with fail
        go_at_call 32
        refine CC.out.mono ?_
        rintro e w6 ⟨v6, rfl, o6, b6⟩
        have D6 := Lib.hid (D5.out.below (b6.mono hz5) HG.out)
        have O6 := Lib.hid (o6.mono hz5)
        clear o6 b6
        go_wp2
        go_ret
        exact ⟨_, colsL (rowsL zss), k, C, rfl, O6.out, good_cols (good_rows HGd.out), hR4, D6.out.mono (by omega)⟩
end Go.Proofs.Ytcljhjfmhnmgnaa
