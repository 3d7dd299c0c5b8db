/- Chapter 6, the program: files in a block: lists, turned. -/
import Derived.Test.YtcljhjfmhnmgnaaKc
import Derived.StillTailTactics
import Derived.Test.YtcljhjfmhnmgnaaLw
namespace Go.Proofs.Ytcljhjfmhnmgnaa
open Go.ChangeShapes Go.WideShapes Go.ChangeAt Go.RowKit
open Fi

theorem Blk.cameRow {w : World} {g : Nat} {t : TypeId} {bs : List Int} {f : Nat → Nat → Int} {R C : Nat} {P : Nat → Nat → Prop} (h : Blk w g t (cellsI bs)) (hI : IsP bs f R C P) {r : List Int} (i : Nat) (hi : i < R) (hr : r.length = C) (hp : ∀ j, j < C → P i j ∧ f i j = r.getD j 0) : Came w (some ⟨g, i * 8, none⟩) C r := by
  have h8 := hI.c8
  have hr8 := hI.r8
  have hl := hI.len
  refine ⟨hr, fun _ => ⟨g, i * 8, rfl, fun j hj => ?_⟩⟩
  rw [h.celI (i * 8 + j) (by omega), hI.at' i j hi hj (hp j hj).1, (hp j hj).2]

set_option maxRecDepth 20000 in
set_option maxHeartbeats 2000000 in
theorem lists_any (w : World) (bs : List Int) (zss : List (List Int)) (R C : Nat) (h : IsZ bs zss R C) :
    Calls Try.prog 55 #[.agg (cellsI bs).toArray] w fun e w' => ∃ v, e = .returned v ∧ OwnSS w' w.heap.size v zss ∧ Below w.heap.size w w' := by
  obtain ⟨i0, hi, hz0, hz1, hz2⟩ := info_parts Try.info_ints
  have hr1 := h.good.r1
  have hr8 := h.good.r8
  have hc1 := h.good.c1
  have hc8 := h.good.c8
  have HZL : Hid (R = zss.length) := Lib.hid h.good.rows.symm
  have HG := Lib.hid h.good
  have HI := Lib.hid h.is
  clear h
  go_enter Try.func55, Try.ntmps55
  go_wp2_with (refine wpList_box 42 _ rfl rfl (cellsI bs) rfl ?_; intro w0 g0 G0 B0 L0)
  refine ⟨?_⟩
  have c64 : w0.cell? ⟨g0, 64, none⟩ = some (.int .i64 (R : Int)) := by rw [B0.out.celI 64 (by rw [HI.out.len]; omega), HI.out.rows]
  have g0l : g0 < w0.heap.size := B0.out.lt
  have L0' : Hid (Below w.heap.size w w0) := L0
  clear G0 L0
  go_wp2_with (at_make; refine wpList_make_full _ rfl _ _ 22 rfl w0.heap.size 31 i0 (.slice none 0 0) 1 Try.underlying22 hi hz0 hz1 .i64 .i64 _ _ R rfl rfl rfl rfl (by rw [hz2]; omega) (by unfold maxLen; omega) (Nat.le_refl _) ?_; intro w1 hown hgrow)
  have HO := Lib.hid (made_ownSS zss HZL.out hown)
  have HB0 := Lib.hid (below_made hgrow)
  clear hown hgrow
  go_loopw [10] (fun i wr => ∃ k : Nat, k ≤ R ∧ i = .int .i64 k ∧ Hid (OwnSS wr w0.heap.size (.slice (some ⟨w0.heap.size, 0, none⟩) R R) (copyR [] zss k)) ∧ Hid (Below w0.heap.size w0 wr)) (fun i _ => R - (intOf i).toNat)
  case atStart => exact ⟨0, Nat.zero_le _, rfl, HO, HB0⟩
  case round =>
    obtain ⟨k, hk, rfl, HO1, HB⟩ := hrel
    clear HO HB0
    by_cases hlt : k < R
    · have HBK : Hid (Blk wr g0 42 (cellsI bs)) := Lib.hid (B0.out.below HB.out g0l)
      have c65 : wr.cell? ⟨g0, 65, none⟩ = some (.int .i64 (C : Int)) := by rw [HBK.out.celI 65 (by rw [HI.out.len]; omega), HI.out.cols]
      have HRW : Hid (Came wr.drew (some ⟨g0, k * 8, none⟩) C (zss.getD k [])) := Lib.hid (Blk.cameRow (w := wr.drew) HBK.out HI.out k hlt (HG.out.cols k hlt) (fun j _ => ⟨trivial, rfl⟩))
      have HCL := Lib.hid (clone_any wr.drew _ C 8 (zss.getD k []) (by omega) HRW.out)
      have hcl := length_copyR ([] : List Int) zss k (by have := HZL.out; omega)
      obtain ⟨ao, cc, e3⟩ := HO1.out.cell k (by have := HZL.out; omega)
      have f3 := HO1.out.free (by have := HZL.out; omega) k
      have HS := Lib.hid (copyR_succ ([] : List Int) zss k (by have := HZL.out; omega) _ rfl)
      have HP := Lib.hid (fun (w2 : World) (hb : Below wr.heap.size wr w2) (r : Value) (hr : Own w2 wr.heap.size r (zss.getD k [])) => HO1.out.put hb (by have := HZL.out; omega) k (by have := HZL.out; omega) r _ hr HB.out.size)
      rw [HS.out] at HP
      have HE3 := Lib.hid e3
      have HF3 : Hid (∀ w2, Below wr.heap.size wr w2 → w2.frozen? ⟨w0.heap.size, k, none⟩ = false) := Lib.hid (fun w2 h => (HO1.out.below h (Nat.le_refl _)).free (by have := HZL.out; have := length_copyR ([] : List Int) zss k (by omega); omega) k)
      have HC65 := Lib.hid c65
      have i1 : (0 : Int) ≤ (k : Int) := by omega
      have i2 : (k : Int) < (R : Int) := by omega
      have i3 : (k : Int) < 8 := by omega
      have i4 : (0 : Int) ≤ (C : Int) := by omega
      have i5 : (C : Int) ≤ 8 := by omega
      have HRL : Hid ((zss.getD k []).length = C) := Lib.hid (HG.out.cols k hlt)
      have hne : (⟨w0.heap.size, k, none⟩ : Addr) ≠ ⟨g0, 65, none⟩ := fun e => by injection e with e1; omega
      have HNE := Lib.hid hne
      clear hcl HS HRW e3 f3 c64 hne
      go_wp2_with fail
      go_region_held_law (fun w' => w'.cell? ⟨g0, 65, none⟩ = some (.int .i64 (C : Int))) (first | exact HK3.out _ | exact HK2.out | go_keep)
        (first
          | (go_at_call 68; refine HCL.out.mono ?_; rintro e w2 ⟨v, rfl, o2, b2⟩; have HB2 : Hid (Below wr.heap.size wr w2) := Lib.hid ⟨b2.os, b2.tape, b2.output, b2.size, b2.block⟩; have HK2 : Hid (w2.cell? ⟨g0, 65, none⟩ = some (.int .i64 (C : Int))) := Lib.hid ((HB2.out.cell (World.block_lt_of_cell? wr _ HC65.out)).trans HC65.out); have HK3 : Hid (∀ v, (w2.setCell ⟨w0.heap.size, k, none⟩ v).cell? ⟨g0, 65, none⟩ = some (.int .i64 (C : Int))) := Lib.hid (fun v => by rw [World.cell?_setCell_other _ _ _ _ HNE.out]; exact HK2.out); have O2 := Lib.hid o2; have hany := o2.any; rw [HRL.out] at hany; obtain ⟨av, cv, rfl⟩ := hany; have e4 := (HB2.out.cell (World.block_lt_of_cell? wr _ HE3.out)).trans HE3.out; have f4 := HF3.out w2 HB2.out; clear o2 b2))
      have HO2 := Lib.hid (HP.out w2 HB2.out _ O2.out)
      have HB3 := Lib.hid ((HB.out.trans (HB2.out.mono HB.out.size)).setCell (p := ⟨w0.heap.size, k, none⟩) (Nat.le_refl _) (.slice av C cv))
      clear HP HCL HK2 HK3 e4 f4 HO1 HBK
      go_wp2
      go_roundw
      case rel => exact ⟨k + 1, by omega, by go_num, HO2, HB3⟩
      case measure => simp [intOf]; omega
    · have hkn : k = zss.length := by have := HZL.out; omega
      rw [hkn, copyR_all] at HO1
      clear hkn
      go_wp2
      go_ret
      exact ⟨_, rfl, HO1.out.mono L0'.out.size, L0'.out.trans (HB.out.mono L0'.out.size)⟩

theorem isB_len {bs : List Int} {f : Nat → Nat → Int} {R C : Nat} {P : Nat → Nat → Prop} (h : IsP bs f R C P) : (cellsI bs).length = 66 := by rw [length_cellsI]; exact h.len
set_option maxRecDepth 20000 in
set_option maxHeartbeats 4000000 in
theorem turnedB_any (w : World) (bs : List Int) (zss : List (List Int)) (R C : Nat) (h : IsZ bs zss R C) :
    Calls Try.prog 41 #[.agg (cellsI bs).toArray] w fun e w' => ∃ bs', e = .returned (.agg (cellsI bs').toArray) ∧ IsZ bs' (turnL zss) C R ∧ Below w.heap.size w w' := by
  have hr1 := h.good.r1
  have hr8 := h.good.r8
  have hc1 := h.good.c1
  have hc8 := h.good.c8
  have HI := Lib.hid h.is
  have HGT := Lib.hid (good_turn h.good)
  have HFT := Lib.hid (fun i j hi hj => fOf_turn h.good i j hi hj)
  clear h
  go_enter Try.func41, Try.ntmps41
  go_wp2_with (refine wpList_box 42 _ rfl rfl (cellsI bs) rfl ?_; intro w0 g1 G1 B1 L1)
  refine ⟨?_⟩
  go_wp2_with (refine wpList_new 42 rfl rfl _ _ Try.info_block ?_; intro w1 g2 G2 B2 L2)
  refine ⟨?_⟩
  have B1a : Hid (Blk w1 g1 42 (cellsI bs)) := Lib.hid (B1.out.below L2.out B1.out.lt)
  have c64 : w1.cell? ⟨g1, 64, none⟩ = some (.int .i64 (R : Int)) := by rw [B1a.out.celI 64 (by rw [HI.out.len]; omega), HI.out.rows]
  have c65 : w1.cell? ⟨g1, 65, none⟩ = some (.int .i64 (C : Int)) := by rw [B1a.out.celI 65 (by rw [HI.out.len]; omega), HI.out.cols]
  go_wp2_with (refine wpList_build2 42 _ _ _ _ rfl rfl _ _ (cellsI (bkN C R)) rfl rfl (built_block C R) ?_)
  refine ⟨?_⟩
  go_wp2_with (refine wpList_new 42 rfl rfl _ _ Try.info_block ?_; intro w2 g3 G3 B3 L3)
  refine ⟨?_⟩
  go_wp2_with (refine wpList_storeAll 42 _ _ rfl rfl g3 _ (cellsI bk0) (cellsI (bkN C R)) 66 Try.size_block rfl rfl B3 (length_bkN _ _) length_bk0 (cellsI_one _) ?_; intro w3 B4 L4)
  refine ⟨?_⟩
  have g13 : Hid (g1 ≠ g3 ∧ g2 ≠ g3) := Lib.hid (by have := G3.out; have := B1a.out.lt; have := B2.out.lt; omega)
  have g3l : Hid (w.heap.size ≤ g3) := Lib.hid (by have := G3.out; have := L1.out.size; have := L2.out.size; omega)
  have g2l : Hid (w.heap.size ≤ g2) := Lib.hid (by have := G2.out; have := L1.out.size; omega)
  have LA : Hid (Below w.heap.size w w3) := grownBy_below ((L1.out.trans (L2.out.mono L1.out.size)).trans (L3.out.mono (by have := L1.out.size; have := L2.out.size; omega))) L4.out (Nat.le_refl _) g3l.out
  have B1' : Hid (Blk w3 g1 42 (cellsI bs)) := Lib.hid ((B1a.out.below L3.out B1a.out.lt).grown L4.out (fun e => g13.out.1 (Option.some.inj e).symm))
  have B2' : Hid (Blk w3 g2 42 (cellsI bk0)) := Lib.hid ((B2.out.below L3.out B2.out.lt).grown L4.out (fun e => g13.out.2 (Option.some.inj e).symm))
  have HI4 : Hid (IsP (bkN C R) (fOf (turnL zss)) C R (fun _ j => j < 0)) := Lib.hid ((is_bkN (fOf (turnL zss)) hc8 hr8).mono fun i j _ _ h => absurd h (Nat.not_lt_zero _))
  have c64 : w3.cell? ⟨g1, 64, none⟩ = some (.int .i64 (R : Int)) := by rw [B1'.out.celI 64 (by rw [HI.out.len]; omega), HI.out.rows]
  clear G1 G2 G3 L1 L2 L3 L4 B1 B2 B3 B1a c65
  go_wp2
  go_loopw [13] (fun i wr => ∃ (r : Nat) (ts : List Int), r ≤ R ∧ i = .int .i64 (r : Int) ∧ Hid (Blk wr g3 42 (cellsI ts)) ∧ Hid (IsP ts (fOf (turnL zss)) C R (fun _ j => j < r)) ∧ Hid (Blk wr g2 42 (cellsI bk0)) ∧ Hid (Blk wr g1 42 (cellsI bs)) ∧ Hid (Below w.heap.size w wr)) (fun i _ => R - (intOf i).toNat)
  case atStart => exact ⟨0, bkN C R, Nat.zero_le _, rfl, B4, HI4, B2', B1', LA⟩
  case round =>
    obtain ⟨r, ts, hr, rfl, HO, HT, HZ, HS, HB⟩ := hrel
    clear B4 HI4 B2' B1' LA c64
    by_cases hlt : r < R
    · obtain ⟨wo, rfl⟩ : ∃ wo : World, wo = wr := ⟨_, rfl⟩
      have c65 : wo.cell? ⟨g1, 65, none⟩ = some (.int .i64 (C : Int)) := by rw [HS.out.celI 65 (by rw [HI.out.len]; omega), HI.out.cols]
      have HT0 : Hid (IsP ts (fOf (turnL zss)) C R (fun i j => j < r ∨ (j = r ∧ i < 0))) := Lib.hid (HT.out.mono fun i j _ _ h => ⟨by omega, rfl⟩)
      go_wp2
      go_loopw [18] (fun i wr => ∃ (c : Nat) (ts : List Int), c ≤ C ∧ i = .int .i64 (c : Int) ∧ Hid (Blk wr g3 42 (cellsI ts)) ∧ Hid (IsP ts (fOf (turnL zss)) C R (fun i j => j < r ∨ (j = r ∧ i < c))) ∧ Hid (Blk wr g2 42 (cellsI bk0)) ∧ Hid (Blk wr g1 42 (cellsI bs)) ∧ Hid (Below w.heap.size w wr)) (fun i _ => C - (intOf i).toNat)
      case atStart => exact ⟨0, ts, Nat.zero_le _, rfl, HO, HT0, HZ, HS, HB⟩
      case round =>
        obtain ⟨c, us, hc, rfl, HO2, HT2, HZ2, HS2, HB2⟩ := hrel
        clear HO HT HT0 HZ HS HB c65
        by_cases hlt2 : c < C
        · have c1 := HO2.out.celI (c * 8 + r) (by rw [HT2.out.len]; omega)
          have c2 := HS2.out.celI (r * 8 + c) (by rw [HI.out.len]; omega)
          have f1 := HO2.out.free (c * 8 + r)
          have hval : bs.getD (r * 8 + c) 0 = fOf (turnL zss) c r := by rw [HI.out.at' r c hlt hlt2 trivial, HFT.out c r hlt2 hlt]
          obtain ⟨z, hz⟩ : ∃ z, z = bs.getD (r * 8 + c) 0 := ⟨_, rfl⟩
          obtain ⟨y, hy⟩ : ∃ z, z = us.getD (c * 8 + r) 0 := ⟨_, rfl⟩
          rw [← hz] at c2 hval
          rw [← hy] at c1
          have HO3 : Hid (Blk (wr.setCell ⟨g3, c * 8 + r, none⟩ (.int .i64 z)) g3 42 (cellsI (us.set (c * 8 + r) z))) := Lib.hid (HO2.out.setI (c * 8 + r) _)
          have HT3 : Hid (IsP (us.set (c * 8 + r) z) (fOf (turnL zss)) C R (fun i j => j < r ∨ (j = r ∧ i < c + 1))) := Lib.hid ((HT2.out.set c r hlt2 hlt z hval).mono fun i j _ _ h => ⟨by omega, rfl⟩)
          have HZ3 : Hid (Blk (wr.setCell ⟨g3, c * 8 + r, none⟩ (.int .i64 z)) g2 42 (cellsI bk0)) := Lib.hid (HZ2.out.grown (set_grown _ _ _ _) (fun e => g13.out.2 (Option.some.inj e).symm))
          have HS3 : Hid (Blk (wr.setCell ⟨g3, c * 8 + r, none⟩ (.int .i64 z)) g1 42 (cellsI bs)) := Lib.hid (HS2.out.grown (set_grown _ _ _ _) (fun e => g13.out.1 (Option.some.inj e).symm))
          have HB3 : Hid (Below w.heap.size w (wr.setCell ⟨g3, c * 8 + r, none⟩ (.int .i64 z))) := Lib.hid (HB2.out.setCell g3l.out _)
          have i1 : (0 : Int) ≤ (c : Int) := by omega
          have i2 : (c : Int) < 8 := by omega
          have i3 : (0 : Int) ≤ (r : Int) := by omega
          have i4 : (r : Int) < 8 := by omega
          clear hz hy hval HO2 HT2 HZ2 HS2 HB2
          go_wp2_with fail
          go_still_tail 11, (by kernel_rfl)
          change wpList _ _ _ _ _ wr.drew
          go_wp2
          go_roundw
          case rel => exact ⟨c + 1, _, by omega, by go_num, HO3, HT3, HZ3, HS3, Lib.hid ⟨HB3.out.os, HB3.out.tape, HB3.out.output, HB3.out.size, HB3.out.block⟩⟩
          case measure => simp [intOf]; omega
        · have HT3 : Hid (IsP us (fOf (turnL zss)) C R (fun _ j => j < r + 1)) := Lib.hid (HT2.out.mono fun i j hi _ h => ⟨by omega, rfl⟩)
          clear HT2
          go_wp2
          go_roundw
          case rel => exact ⟨r + 1, us, by omega, by go_num, HO2, HT3, HZ2, HS2, HB2⟩
          case measure => simp [intOf]; omega
    · obtain rfl : r = R := by omega
      have hfl := isB_len HT.out
      have HIF : Hid (IsF ts (fOf (turnL zss)) C r) := Lib.hid (HT.out.mono fun i j _ hj _ => ⟨hj, rfl⟩)
      go_wp2_with (refine wpList_loadAll 42 _ rfl rfl g3 _ (cellsI ts) _ Try.underlying42 rfl 66 Try.size_block rfl HO hfl ?_)
      refine ⟨?_⟩
      go_wp2_with (refine wpList_storeAll 42 _ _ rfl rfl g2 _ (cellsI bk0) (cellsI ts) 66 Try.size_block rfl rfl HZ hfl length_bk0 (cellsI_one _) ?_; intro w5 B5 L5)
      refine ⟨?_⟩
      go_wp2
      refine ret_cell 2 42 (by kernel_rfl) g2 _ (cellsI ts) _ Try.underlying42 rfl 66 Try.size_block rfl B5.out hfl rfl ?_
      exact ⟨ts, rfl, ⟨HGT.out, HIF.out⟩, grownBy_below HB.out L5.out (Nat.le_refl _) g2l.out⟩

end Go.Proofs.Ytcljhjfmhnmgnaa
