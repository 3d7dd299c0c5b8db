/- The walk of the law FnExactAddClue (a puzzle by value), out of the contracts of its two functions. -/
import Derived.Test.YtodlpdbmiicdfaaKinds
import Derived.Test.YtodlpdbmiicdfaaRPuzzle
import Derived.Test.YtodlpdbmiicdfaaBxK
import Derived.Test.YtodlpdbmiicdfaaPzl
import Derived.Test.YtodlpdbmiicdfaaZo
import Derived.Deep.DeepCutAuto
namespace Go.Proofs.Ytodlpdbmiicdfaa
open Go.ChangeShapes Go.WideShapes Go.ChangeAt Go.RowKit

set_option maxHeartbeats 8000000 in
set_option maxRecDepth 20000 in
theorem lawAddClue (w : World) (s0 : Int) (a0 : Option Addr) (len0 cap0 : Nat) (z0 : List RClue) (x0 : Int) (x1 : Int) (x2 : Int) (x3 : Int) (r0 : Int) (r1 : List RClue) (r2 : Bool) (ho : r1.length ≤ 1048576) (hc0 : CameClue w a0 len0 z0) (hk0 : len0 ≤ 9223372036854775807)
    (hS : len0 ≤ 1048576 → ∀ (w : World) (a0 : Option Addr) (cap0 : Nat), CameClue w a0 len0 z0 → (len0 ≤ cap0 ∧ cap0 ≤ 9223372036854775807) → Calls Try.prog 25 #[.agg #[.int .i64 s0, .slice a0 len0 cap0], .agg #[.int .i64 x0, .int .i64 x1, .int .i64 x2, .int .i64 x3]] w fun e w' => ∃ v0, e = .returned (.tuple #[.agg #[.int .i64 r0, v0], .bool r2]) ∧ OwnClue w' w.heap.size v0 r1 ∧ Below w.heap.size w w')
    (hI : len0 ≤ 1048576 → ∀ (w : World) (a0 : Option Addr) (cap0 : Nat), CameClue w a0 len0 z0 → (len0 ≤ cap0 ∧ cap0 ≤ 9223372036854775807) → Calls Try.prog 26 #[.agg #[.int .i64 s0, .slice a0 len0 cap0], .agg #[.int .i64 x0, .int .i64 x1, .int .i64 x2, .int .i64 x3]] w fun e w' => ∃ v0, e = .returned (.tuple #[.agg #[.int .i64 r0, v0], .bool r2]) ∧ OwnClue w' w.heap.size v0 r1 ∧ Below w.heap.size w w') :
    Calls Try.prog 6 #[.agg #[.int .i64 s0, .slice a0 len0 cap0], .agg #[.int .i64 x0, .int .i64 x1, .int .i64 x2, .int .i64 x3]] w fun e w' => e = .returned (.bool true) ∧ Below w.heap.size w w' := by
  have HS := Lib.hid hS
  have HI := Lib.hid hI
  have HZ0 : Hid (z0.length = len0) := Lib.hid hc0.1
  have HW0 : Hid (Below w.heap.size w ((w.alloc (.cells #[.int .i64 s0, .slice a0 len0 cap0] 30)).alloc (.cells #[.int .i64 x0, .int .i64 x1, .int .i64 x2, .int .i64 x3] 23))) := Lib.hid (((Below.refl _ _).alloc (Nat.le_refl _) _).alloc (by simp) _)
  have HT0 := Lib.hid (fun w2 (hl0 : len0 ≤ 1048576) (h : Below ((w.alloc (.cells #[.int .i64 s0, .slice a0 len0 cap0] 30)).alloc (.cells #[.int .i64 x0, .int .i64 x1, .int .i64 x2, .int .i64 x3] 23)).heap.size ((w.alloc (.cells #[.int .i64 s0, .slice a0 len0 cap0] 30)).alloc (.cells #[.int .i64 x0, .int .i64 x1, .int .i64 x2, .int .i64 x3] 23)) w2) => toPuzzle_any w2 s0 a0 len0 cap0 z0 hl0 (hc0.below (HW0.out.trans (h.mono HW0.out.size))))
  have HX0 := Lib.hid (szPuzzle_any ((w.alloc (.cells #[.int .i64 s0, .slice a0 len0 cap0] 30)).alloc (.cells #[.int .i64 x0, .int .i64 x1, .int .i64 x2, .int .i64 x3] 23)) s0 a0 len0 cap0 hk0)
  have y0 : ((w.alloc (.cells #[.int .i64 s0, .slice a0 len0 cap0] 30)).alloc (.cells #[.int .i64 x0, .int .i64 x1, .int .i64 x2, .int .i64 x3] 23)).heap.size = w.heap.size + 2 := by rw [rz_size1, rz_size1]
  obtain ⟨n0, hn0⟩ : ∃ n, n = r1.length := ⟨_, rfl⟩
  have HN0 := Lib.hid hn0
  have hm0 : n0 ≤ 1048576 := by omega
  clear hn0
  clear hS hI hc0
  have B0 : Hid (Below ((w.alloc (.cells #[.int .i64 s0, .slice a0 len0 cap0] 30)).alloc (.cells #[.int .i64 x0, .int .i64 x1, .int .i64 x2, .int .i64 x3] 23)).heap.size ((w.alloc (.cells #[.int .i64 s0, .slice a0 len0 cap0] 30)).alloc (.cells #[.int .i64 x0, .int .i64 x1, .int .i64 x2, .int .i64 x3] 23)) ((w.alloc (.cells #[.int .i64 s0, .slice a0 len0 cap0] 30)).alloc (.cells #[.int .i64 x0, .int .i64 x1, .int .i64 x2, .int .i64 x3] 23))) := Lib.hid (Below.refl _ _)
  have PA_0 : Hid (BoxZ ((w.alloc (.cells #[.int .i64 s0, .slice a0 len0 cap0] 30)).alloc (.cells #[.int .i64 x0, .int .i64 x1, .int .i64 x2, .int .i64 x3] 23)) w.heap.size s0 (.slice a0 len0 cap0)) := Lib.hid ((BoxZ.new w s0 _ _).alloc _)
  have PC_0 : Hid (BoxK ((w.alloc (.cells #[.int .i64 s0, .slice a0 len0 cap0] 30)).alloc (.cells #[.int .i64 x0, .int .i64 x1, .int .i64 x2, .int .i64 x3] 23)) (w.heap.size + 1) x0 x1 x2 x3) := Lib.hid (by have h := boxK_new (t := 23) (w.alloc (.cells #[.int .i64 s0, .slice a0 len0 cap0] 30)) x0 x1 x2 x3; rwa [rz_size1] at h)
  obtain ⟨k0, k1⟩ := PA_0.out
  go_enter Try.func6, Try.ntmps6
  go_wp2_with fail
  go_at_call 16
  refine HX0.out.mono ?_
  rintro e w1 ⟨r, rfl, hr0, hr1, hr2, b1⟩
  have y1 := b1.size
  have PA_1 := Lib.hid (PA_0.out.below b1 PA_0.out.lt)
  have PC_1 := Lib.hid (PC_0.out.below b1 PC_0.out.lt)
  clear PC_0
  have B1 : Hid (Below ((w.alloc (.cells #[.int .i64 s0, .slice a0 len0 cap0] 30)).alloc (.cells #[.int .i64 x0, .int .i64 x1, .int .i64 x2, .int .i64 x3] 23)).heap.size ((w.alloc (.cells #[.int .i64 s0, .slice a0 len0 cap0] 30)).alloc (.cells #[.int .i64 x0, .int .i64 x1, .int .i64 x2, .int .i64 x3] 23)) w1) := Lib.hid b1
  clear B0 b1 HX0 PA_0 k0 k1
  by_cases hneg : r < 0
  · clear hr2
    go_wp2
    go_ret
    exact ⟨rfl, HW0.out.trans (B1.out.mono HW0.out.size)⟩
  have hl0 : len0 ≤ 1048576 := hr2 (by omega)
  have hzl0 : z0.length ≤ 1048576 := by have := HZ0.out; omega
  have HT0 := Lib.hid (fun w2 h => HT0.out w2 hl0 h)
  have HS := Lib.hid (HS.out hl0)
  have HI := Lib.hid (HI.out hl0)
  clear hr2
  obtain ⟨kPA0, kPA1⟩ := PA_1.out
  obtain ⟨kc0, kc1, kc2, kc3⟩ := PC_1.out
  have hTa := HT0.out
  have HTA := Lib.hid hTa
  clear hTa
  have hSS := HS.out
  have HSS := Lib.hid hSS
  clear hSS
  have HTC := Lib.hid (fun w2 => toClue_any x0 x1 x2 x3 w2)
  go_upto_region 5 with (fail)
  go_cut [6, 7] (fun p6 p7 wx => ∃ (g : Nat) (va : Option Addr) (vc lo hi : Nat), p6 = .pointer (some ⟨g, 0, none⟩) ∧ p7 = .bool r2 ∧ Hid (OwnIClue wx lo hi (.slice va n0 vc) r1) ∧ Hid (BoxZ wx g r0 (.slice va n0 vc)) ∧ Hid (w1.heap.size ≤ lo ∧ w1.heap.size ≤ g ∧ (g < lo ∨ hi ≤ g) ∧ g < wx.heap.size ∧ hi ≤ wx.heap.size) ∧ Hid (Below w1.heap.size w1 wx))
  case first =>
    go_region_held_law (fun w' => w'.cell? ⟨w.heap.size, 0, none⟩ = some (.int .i64 s0) ∧ w'.cell? ⟨w.heap.size, 1, none⟩ = some (.slice a0 len0 cap0) ∧ w'.cell? ⟨w.heap.size + 1, 0, none⟩ = some (.int .i64 x0) ∧ w'.cell? ⟨w.heap.size + 1, 1, none⟩ = some (.int .i64 x1) ∧ w'.cell? ⟨w.heap.size + 1, 2, none⟩ = some (.int .i64 x2) ∧ w'.cell? ⟨w.heap.size + 1, 3, none⟩ = some (.int .i64 x3)) (first | exact ⟨(BoxZ.below (h := PA_1.out) bl PA_1.out.lt).c0, (BoxZ.below (h := PA_1.out) bl PA_1.out.lt).c1, (BoxK.below (h := PC_1.out) bl PC_1.out.lt).c0, (BoxK.below (h := PC_1.out) bl PC_1.out.lt).c1, (BoxK.below (h := PC_1.out) bl PC_1.out.lt).c2, (BoxK.below (h := PC_1.out) bl PC_1.out.lt).c3⟩ | exact ⟨(BoxZ.alloc (h := BoxZ.below (h := PA_1.out) bl PA_1.out.lt) _).c0, (BoxZ.alloc (h := BoxZ.below (h := PA_1.out) bl PA_1.out.lt) _).c1, (BoxK.alloc (h := BoxK.below (h := PC_1.out) bl PC_1.out.lt) _).c0, (BoxK.alloc (h := BoxK.below (h := PC_1.out) bl PC_1.out.lt) _).c1, (BoxK.alloc (h := BoxK.below (h := PC_1.out) bl PC_1.out.lt) _).c2, (BoxK.alloc (h := BoxK.below (h := PC_1.out) bl PC_1.out.lt) _).c3⟩ | exact ⟨(BoxZ.alloc (h := PA_1.out) _).c0, (BoxZ.alloc (h := PA_1.out) _).c1, (BoxK.alloc (h := PC_1.out) _).c0, (BoxK.alloc (h := PC_1.out) _).c1, (BoxK.alloc (h := PC_1.out) _).c2, (BoxK.alloc (h := PC_1.out) _).c3⟩ | exact ⟨rz_far (rz_far (BoxZ.below (h := PA_1.out) bl PA_1.out.lt).c0 (by omega)) (by omega), rz_far (rz_far (BoxZ.below (h := PA_1.out) bl PA_1.out.lt).c1 (by omega)) (by omega), rz_far (rz_far (BoxK.below (h := PC_1.out) bl PC_1.out.lt).c0 (by omega)) (by omega), rz_far (rz_far (BoxK.below (h := PC_1.out) bl PC_1.out.lt).c1 (by omega)) (by omega), rz_far (rz_far (BoxK.below (h := PC_1.out) bl PC_1.out.lt).c2 (by omega)) (by omega), rz_far (rz_far (BoxK.below (h := PC_1.out) bl PC_1.out.lt).c3 (by omega)) (by omega)⟩ | go_keep)
      (first
      | (go_at_call 14; refine (HTC.out _).mono ?_; rintro e wq ⟨rfl, bq⟩; have yb := bq.size; have bm : Below w1.heap.size w1 wq := (by first | exact bl.trans (bq.mono bl.size) | exact (bl.alloc bl.size _).trans (bq.mono (Nat.le_trans bl.size (by simp only [rz_size1]; omega))) | exact ⟨bq.os, bq.tape, bq.output, bq.size, bq.block⟩ | exact Below.trans ((Below.refl w1.heap.size w1).alloc (Nat.le_refl _) (.cells #[.int .i64 0, .slice none 0 0] 35)) (Below.mono (show Below (w1.alloc (.cells #[.int .i64 0, .slice none 0 0] 35)).heap.size (w1.alloc (.cells #[.int .i64 0, .slice none 0 0] 35)) wq from ⟨bq.os, bq.tape, bq.output, bq.size, bq.block⟩) (by simp only [rz_size1]; omega))); ((first | have gb := Blk.below (h := gb) bq gb.lt | have gb := Blk.below (h := blk_new _ 35 [.int .i64 0, .slice none 0 0]) bq (Blk.lt (blk_new _ _ _)) | have gb := Blk.below (h := blk_new w1 35 [.int .i64 0, .slice none 0 0]) (show Below (w1.alloc (.cells #[.int .i64 0, .slice none 0 0] 35)).heap.size (w1.alloc (.cells #[.int .i64 0, .slice none 0 0] 35)) _ from ⟨bq.os, bq.tape, bq.output, bq.size, bq.block⟩) (Blk.lt (blk_new _ _ _)) | skip); (try have yg := Blk.lt gb)); (first | have th := CameClue.below (h := th) bq | have th := CameClue.below (h := CameClue.below (h := th) ((Below.refl _ _).alloc (Nat.le_refl _) _)) bq | skip); (try clear bl); have bl := bm; clear bm; have yl := bl.size; clear bq)
      | (go_at_call 18; refine (HTA.out _ (by first | exact B1.out.trans (Below.mono bl (by omega)) | exact B1.out.trans (Below.mono (bl.alloc bl.size _) (by omega)) | exact ⟨B1.out.os, B1.out.tape, B1.out.output, B1.out.size, B1.out.block⟩ | exact below_drewC (B1.out.alloc B1.out.size _))).mono ?_; rintro e wt ⟨tv, rfl, ot, bt⟩; have yb := bt.size; have bm : Below w1.heap.size w1 wt := (by first | exact bl.trans (bt.mono bl.size) | exact (bl.alloc bl.size _).trans (bt.mono (Nat.le_trans bl.size (by simp only [rz_size1]; omega))) | exact ⟨bt.os, bt.tape, bt.output, bt.size, bt.block⟩ | exact Below.trans ((Below.refl w1.heap.size w1).alloc (Nat.le_refl _) (.cells #[.int .i64 0, .slice none 0 0] 35)) (Below.mono (show Below (w1.alloc (.cells #[.int .i64 0, .slice none 0 0] 35)).heap.size (w1.alloc (.cells #[.int .i64 0, .slice none 0 0] 35)) wt from ⟨bt.os, bt.tape, bt.output, bt.size, bt.block⟩) (by simp only [rz_size1]; omega))); ((first | have gb := Blk.below (h := gb) bt gb.lt | have gb := Blk.below (h := blk_new _ 35 [.int .i64 0, .slice none 0 0]) bt (Blk.lt (blk_new _ _ _)) | have gb := Blk.below (h := blk_new w1 35 [.int .i64 0, .slice none 0 0]) (show Below (w1.alloc (.cells #[.int .i64 0, .slice none 0 0] 35)).heap.size (w1.alloc (.cells #[.int .i64 0, .slice none 0 0] 35)) _ from ⟨bt.os, bt.tape, bt.output, bt.size, bt.block⟩) (Blk.lt (blk_new _ _ _)) | skip); (try have yg := Blk.lt gb)); obtain ⟨ta, tc, te, th, tk⟩ := ot.cameC; rw [HZ0.out] at te th tk; subst te; clear ot; (try clear bl); have bl := bm; clear bm; have yl := bl.size; clear bt)
      | (go_at_call 25; refine (HSS.out _ ta tc (by first | exact th | exact CameClue.below (h := th) ((Below.refl _ _).alloc (Nat.le_refl _) _)) tk).mono ?_; rintro e w5 ⟨v5, rfl, o5, b5⟩; have yb := b5.size; have bm : Below w1.heap.size w1 w5 := (by first | exact bl.trans (b5.mono bl.size) | exact (bl.alloc bl.size _).trans (b5.mono (Nat.le_trans bl.size (by simp only [rz_size1]; omega))) | exact ⟨b5.os, b5.tape, b5.output, b5.size, b5.block⟩ | exact Below.trans ((Below.refl w1.heap.size w1).alloc (Nat.le_refl _) (.cells #[.int .i64 0, .slice none 0 0] 35)) (Below.mono (show Below (w1.alloc (.cells #[.int .i64 0, .slice none 0 0] 35)).heap.size (w1.alloc (.cells #[.int .i64 0, .slice none 0 0] 35)) w5 from ⟨b5.os, b5.tape, b5.output, b5.size, b5.block⟩) (by simp only [rz_size1]; omega))); ((first | have gb := Blk.below (h := gb) b5 gb.lt | have gb := Blk.below (h := blk_new _ 35 [.int .i64 0, .slice none 0 0]) b5 (Blk.lt (blk_new _ _ _)) | have gb := Blk.below (h := blk_new w1 35 [.int .i64 0, .slice none 0 0]) (show Below (w1.alloc (.cells #[.int .i64 0, .slice none 0 0] 35)).heap.size (w1.alloc (.cells #[.int .i64 0, .slice none 0 0] 35)) _ from ⟨b5.os, b5.tape, b5.output, b5.size, b5.block⟩) (Blk.lt (blk_new _ _ _)) | skip); (try have yg := Blk.lt gb)); have o6 := OwnIClue.of o5; obtain ⟨va, vc, ve⟩ := o5.any; rw [← HN0.out] at ve; subst ve; clear o5; (try have s0 := Blk.cell gb 0); (try have s1 := Blk.cell gb 1); (try have g0 := Blk.free gb 0); (try have g1 := Blk.free gb 1); (try simp only [List.getElem?_cons_zero, List.getElem?_cons_succ] at s0 s1); (try clear bl); have bl := bm; clear bm; have yl := bl.size; clear b5))
    all_goals
      (go_wp2_with fail; go_meet)
    all_goals
      first
        | exact ⟨_, va, vc, _, _, rfl, rfl, Lib.hid (o6.below ((Below.refl _ _).alloc (Nat.le_refl _) _) (Nat.le_refl _)), Lib.hid (BoxZ.new w5 _ _ _), Lib.hid (by refine ⟨?_, ?_, ?_, ?_, ?_⟩ <;> ((try simp only [rz_size1]) <;> omega)), Lib.hid (bl.alloc bl.size _)⟩
        | exact ⟨_, va, vc, _, _, rfl, rfl, Lib.hid (ownI_far (ownI_far o6 (by first | omega | (rw [rz_size1]; omega)) 0 _) (by first | omega | (rw [rz_size1]; omega)) 1 _), Lib.hid ⟨rz_set0 s0 s1, rz_set1 s0 s1⟩, Lib.hid (by refine ⟨?_, ?_, ?_, ?_, ?_⟩ <;> ((try simp only [rz_size1, size_set]) <;> omega)), Lib.hid ((bl.setCell (by dsimp only; omega) _).setCell (by dsimp only; omega) _)⟩
  obtain ⟨vg, va, vc, vlo, vhi, rfl, rfl, V_2, BV_2, hn, bl⟩ := hcut
  obtain ⟨w2, rfl⟩ : ∃ x : World, x = wc := ⟨_, rfl⟩
  obtain ⟨q21, q22, q23, q24, q25⟩ := hn.out
  have b2 := bl.out
  have y2 := b2.size
  have PA_2 := Lib.hid (PA_1.out.below b2 PA_1.out.lt)
  have PC_2 := Lib.hid (PC_1.out.below b2 PC_1.out.lt)
  have B2 : Hid (Below ((w.alloc (.cells #[.int .i64 s0, .slice a0 len0 cap0] 30)).alloc (.cells #[.int .i64 x0, .int .i64 x1, .int .i64 x2, .int .i64 x3] 23)).heap.size ((w.alloc (.cells #[.int .i64 s0, .slice a0 len0 cap0] 30)).alloc (.cells #[.int .i64 x0, .int .i64 x1, .int .i64 x2, .int .i64 x3] 23)) w2) := Lib.hid (B1.out.trans (b2.mono (by omega)))
  clear PA_1 PC_1 B1 b2 bl hn HTA HSS HTC kc0 kc1 kc2 kc3 kPA0 kPA1
  obtain ⟨kPA0, kPA1⟩ := PA_2.out
  have hT := HT0.out w2 B2.out
  have HTT := Lib.hid hT
  clear hT
  go_wp2_with fail
  go_at_call 18
  refine HTT.out.mono ?_
  rintro e w3 ⟨xv, rfl, o3, b3⟩
  have y3 := b3.size
  have PA_3 := Lib.hid (PA_2.out.below b3 PA_2.out.lt)
  have PC_3 := Lib.hid (PC_2.out.below b3 PC_2.out.lt)
  have V_3 := Lib.hid (V_2.out.below b3 (by omega))
  have BV_3 := Lib.hid (BV_2.out.below b3 BV_2.out.lt)
  have B3 : Hid (Below ((w.alloc (.cells #[.int .i64 s0, .slice a0 len0 cap0] 30)).alloc (.cells #[.int .i64 x0, .int .i64 x1, .int .i64 x2, .int .i64 x3] 23)).heap.size ((w.alloc (.cells #[.int .i64 s0, .slice a0 len0 cap0] 30)).alloc (.cells #[.int .i64 x0, .int .i64 x1, .int .i64 x2, .int .i64 x3] 23)) w3) := Lib.hid (B2.out.trans (b3.mono (by omega)))
  clear PA_2 PC_2 V_2 BV_2 B2 HTT kPA0 kPA1
  have X_3 := Lib.hid (OwnIClue.of o3)
  obtain ⟨xa, xc, xe, xh, xk⟩ := X_3.out.1.cameC
  rw [HZ0.out] at xe xh xk
  subst xe
  clear o3 b3
  have y4 : (w3.alloc (.cells #[.int .i64 s0, .slice xa len0 xc] 35)).heap.size = w3.heap.size + 1 := rz_size1 _ _
  have PA_4 := Lib.hid (PA_3.out.alloc (.cells #[.int .i64 s0, .slice xa len0 xc] 35))
  have PC_4 := Lib.hid (PC_3.out.alloc (.cells #[.int .i64 s0, .slice xa len0 xc] 35))
  have V_4 := Lib.hid (V_3.out.below ((Below.refl w3.heap.size w3).alloc (Nat.le_refl _) (.cells #[.int .i64 s0, .slice xa len0 xc] 35)) (by omega))
  have BV_4 := Lib.hid (BV_3.out.alloc (.cells #[.int .i64 s0, .slice xa len0 xc] 35))
  have X_4 := Lib.hid (X_3.out.below ((Below.refl w3.heap.size w3).alloc (Nat.le_refl _) (.cells #[.int .i64 s0, .slice xa len0 xc] 35)) (by omega))
  have BX_4 : Hid (BoxZ (w3.alloc (.cells #[.int .i64 s0, .slice xa len0 xc] 35)) w3.heap.size s0 (.slice xa len0 xc)) := Lib.hid (BoxZ.new w3 _ _ _)
  have B4 : Hid (Below ((w.alloc (.cells #[.int .i64 s0, .slice a0 len0 cap0] 30)).alloc (.cells #[.int .i64 x0, .int .i64 x1, .int .i64 x2, .int .i64 x3] 23)).heap.size ((w.alloc (.cells #[.int .i64 s0, .slice a0 len0 cap0] 30)).alloc (.cells #[.int .i64 x0, .int .i64 x1, .int .i64 x2, .int .i64 x3] 23)) (w3.alloc (.cells #[.int .i64 s0, .slice xa len0 xc] 35))) := Lib.hid (B3.out.alloc (by have := B3.out.size; omega) _)
  clear PA_3 PC_3 V_3 BV_3 X_3 B3
  have xhh := X_4.out.1.cameC
  clear xh
  obtain ⟨xa', xc', xe, xhh, _⟩ := xhh
  rw [HZ0.out] at xe xhh
  injection xe with xe1 _ xe3
  subst xe1 xe3
  obtain ⟨kPA0, kPA1⟩ := PA_4.out
  obtain ⟨kBX0, kBX1⟩ := BX_4.out
  obtain ⟨kc0, kc1, kc2, kc3⟩ := PC_4.out
  have hTa := HT0.out
  have HTA := Lib.hid hTa
  clear hTa
  have hSS := HI.out
  have HSS := Lib.hid hSS
  clear hSS
  have HTC := Lib.hid (fun w2 => toClue_any x0 x1 x2 x3 w2)
  go_upto_region 7 with (fail)
  go_cut [9, 10] (fun p6 p7 wx => ∃ (g : Nat) (va : Option Addr) (vc lo hi : Nat), p6 = .pointer (some ⟨g, 0, none⟩) ∧ p7 = .bool r2 ∧ Hid (OwnIClue wx lo hi (.slice va n0 vc) r1) ∧ Hid (BoxZ wx g r0 (.slice va n0 vc)) ∧ Hid ((w3.alloc (.cells #[.int .i64 s0, .slice xa len0 xc] 35)).heap.size ≤ lo ∧ (w3.alloc (.cells #[.int .i64 s0, .slice xa len0 xc] 35)).heap.size ≤ g ∧ (g < lo ∨ hi ≤ g) ∧ g < wx.heap.size ∧ hi ≤ wx.heap.size) ∧ Hid (Below (w3.alloc (.cells #[.int .i64 s0, .slice xa len0 xc] 35)).heap.size (w3.alloc (.cells #[.int .i64 s0, .slice xa len0 xc] 35)) wx))
  case first =>
    go_region_held_law (fun w' => w'.cell? ⟨w.heap.size, 0, none⟩ = some (.int .i64 s0) ∧ w'.cell? ⟨w.heap.size, 1, none⟩ = some (.slice a0 len0 cap0) ∧ w'.cell? ⟨w.heap.size + 1, 0, none⟩ = some (.int .i64 x0) ∧ w'.cell? ⟨w.heap.size + 1, 1, none⟩ = some (.int .i64 x1) ∧ w'.cell? ⟨w.heap.size + 1, 2, none⟩ = some (.int .i64 x2) ∧ w'.cell? ⟨w.heap.size + 1, 3, none⟩ = some (.int .i64 x3) ∧ w'.cell? ⟨w3.heap.size, 0, none⟩ = some (.int .i64 s0) ∧ w'.cell? ⟨w3.heap.size, 1, none⟩ = some (.slice xa len0 xc)) (first | exact ⟨(BoxZ.below (h := PA_4.out) bl PA_4.out.lt).c0, (BoxZ.below (h := PA_4.out) bl PA_4.out.lt).c1, (BoxK.below (h := PC_4.out) bl PC_4.out.lt).c0, (BoxK.below (h := PC_4.out) bl PC_4.out.lt).c1, (BoxK.below (h := PC_4.out) bl PC_4.out.lt).c2, (BoxK.below (h := PC_4.out) bl PC_4.out.lt).c3, (BoxZ.below (h := BX_4.out) bl BX_4.out.lt).c0, (BoxZ.below (h := BX_4.out) bl BX_4.out.lt).c1⟩ | exact ⟨(BoxZ.alloc (h := BoxZ.below (h := PA_4.out) bl PA_4.out.lt) _).c0, (BoxZ.alloc (h := BoxZ.below (h := PA_4.out) bl PA_4.out.lt) _).c1, (BoxK.alloc (h := BoxK.below (h := PC_4.out) bl PC_4.out.lt) _).c0, (BoxK.alloc (h := BoxK.below (h := PC_4.out) bl PC_4.out.lt) _).c1, (BoxK.alloc (h := BoxK.below (h := PC_4.out) bl PC_4.out.lt) _).c2, (BoxK.alloc (h := BoxK.below (h := PC_4.out) bl PC_4.out.lt) _).c3, (BoxZ.alloc (h := BoxZ.below (h := BX_4.out) bl BX_4.out.lt) _).c0, (BoxZ.alloc (h := BoxZ.below (h := BX_4.out) bl BX_4.out.lt) _).c1⟩ | exact ⟨(BoxZ.alloc (h := PA_4.out) _).c0, (BoxZ.alloc (h := PA_4.out) _).c1, (BoxK.alloc (h := PC_4.out) _).c0, (BoxK.alloc (h := PC_4.out) _).c1, (BoxK.alloc (h := PC_4.out) _).c2, (BoxK.alloc (h := PC_4.out) _).c3, (BoxZ.alloc (h := BX_4.out) _).c0, (BoxZ.alloc (h := BX_4.out) _).c1⟩ | exact ⟨rz_far (rz_far (BoxZ.below (h := PA_4.out) bl PA_4.out.lt).c0 (by omega)) (by omega), rz_far (rz_far (BoxZ.below (h := PA_4.out) bl PA_4.out.lt).c1 (by omega)) (by omega), rz_far (rz_far (BoxK.below (h := PC_4.out) bl PC_4.out.lt).c0 (by omega)) (by omega), rz_far (rz_far (BoxK.below (h := PC_4.out) bl PC_4.out.lt).c1 (by omega)) (by omega), rz_far (rz_far (BoxK.below (h := PC_4.out) bl PC_4.out.lt).c2 (by omega)) (by omega), rz_far (rz_far (BoxK.below (h := PC_4.out) bl PC_4.out.lt).c3 (by omega)) (by omega), rz_far (rz_far (BoxZ.below (h := BX_4.out) bl BX_4.out.lt).c0 (by omega)) (by omega), rz_far (rz_far (BoxZ.below (h := BX_4.out) bl BX_4.out.lt).c1 (by omega)) (by omega)⟩ | go_keep)
      (first
      | (go_at_call 14; refine (HTC.out _).mono ?_; rintro e wq ⟨rfl, bq⟩; have yb := bq.size; have bm : Below (w3.alloc (.cells #[.int .i64 s0, .slice xa len0 xc] 35)).heap.size (w3.alloc (.cells #[.int .i64 s0, .slice xa len0 xc] 35)) wq := (by first | exact bl.trans (bq.mono bl.size) | exact (bl.alloc bl.size _).trans (bq.mono (Nat.le_trans bl.size (by simp only [rz_size1]; omega))) | exact ⟨bq.os, bq.tape, bq.output, bq.size, bq.block⟩ | exact Below.trans ((Below.refl (w3.alloc (.cells #[.int .i64 s0, .slice xa len0 xc] 35)).heap.size (w3.alloc (.cells #[.int .i64 s0, .slice xa len0 xc] 35))).alloc (Nat.le_refl _) (.cells #[.int .i64 0, .slice none 0 0] 35)) (Below.mono (show Below ((w3.alloc (.cells #[.int .i64 s0, .slice xa len0 xc] 35)).alloc (.cells #[.int .i64 0, .slice none 0 0] 35)).heap.size ((w3.alloc (.cells #[.int .i64 s0, .slice xa len0 xc] 35)).alloc (.cells #[.int .i64 0, .slice none 0 0] 35)) wq from ⟨bq.os, bq.tape, bq.output, bq.size, bq.block⟩) (by simp only [rz_size1]; omega))); ((first | have gb := Blk.below (h := gb) bq gb.lt | have gb := Blk.below (h := blk_new _ 35 [.int .i64 0, .slice none 0 0]) bq (Blk.lt (blk_new _ _ _)) | have gb := Blk.below (h := blk_new (w3.alloc (.cells #[.int .i64 s0, .slice xa len0 xc] 35)) 35 [.int .i64 0, .slice none 0 0]) (show Below ((w3.alloc (.cells #[.int .i64 s0, .slice xa len0 xc] 35)).alloc (.cells #[.int .i64 0, .slice none 0 0] 35)).heap.size ((w3.alloc (.cells #[.int .i64 s0, .slice xa len0 xc] 35)).alloc (.cells #[.int .i64 0, .slice none 0 0] 35)) _ from ⟨bq.os, bq.tape, bq.output, bq.size, bq.block⟩) (Blk.lt (blk_new _ _ _)) | skip); (try simp only [rz_size1] at gb); (try have yg := Blk.lt gb)); (first | have th := CameClue.below (h := th) bq | have th := CameClue.below (h := CameClue.below (h := th) ((Below.refl _ _).alloc (Nat.le_refl _) _)) bq | skip); (try clear bl); have bl := bm; clear bm; have yl := bl.size; clear bq)
      | (go_at_call 26; refine (HSS.out _ xa xc (by first | exact CameClue.below (h := xhh) bl | exact CameClue.below (h := xhh) (bl.alloc bl.size _)) xk).mono ?_; rintro e w5 ⟨v5, rfl, o5, b5⟩; have yb := b5.size; have bm : Below (w3.alloc (.cells #[.int .i64 s0, .slice xa len0 xc] 35)).heap.size (w3.alloc (.cells #[.int .i64 s0, .slice xa len0 xc] 35)) w5 := (by first | exact bl.trans (b5.mono bl.size) | exact (bl.alloc bl.size _).trans (b5.mono (Nat.le_trans bl.size (by simp only [rz_size1]; omega))) | exact ⟨b5.os, b5.tape, b5.output, b5.size, b5.block⟩ | exact Below.trans ((Below.refl (w3.alloc (.cells #[.int .i64 s0, .slice xa len0 xc] 35)).heap.size (w3.alloc (.cells #[.int .i64 s0, .slice xa len0 xc] 35))).alloc (Nat.le_refl _) (.cells #[.int .i64 0, .slice none 0 0] 35)) (Below.mono (show Below ((w3.alloc (.cells #[.int .i64 s0, .slice xa len0 xc] 35)).alloc (.cells #[.int .i64 0, .slice none 0 0] 35)).heap.size ((w3.alloc (.cells #[.int .i64 s0, .slice xa len0 xc] 35)).alloc (.cells #[.int .i64 0, .slice none 0 0] 35)) w5 from ⟨b5.os, b5.tape, b5.output, b5.size, b5.block⟩) (by simp only [rz_size1]; omega))); ((first | have gb := Blk.below (h := gb) b5 gb.lt | have gb := Blk.below (h := blk_new _ 35 [.int .i64 0, .slice none 0 0]) b5 (Blk.lt (blk_new _ _ _)) | have gb := Blk.below (h := blk_new (w3.alloc (.cells #[.int .i64 s0, .slice xa len0 xc] 35)) 35 [.int .i64 0, .slice none 0 0]) (show Below ((w3.alloc (.cells #[.int .i64 s0, .slice xa len0 xc] 35)).alloc (.cells #[.int .i64 0, .slice none 0 0] 35)).heap.size ((w3.alloc (.cells #[.int .i64 s0, .slice xa len0 xc] 35)).alloc (.cells #[.int .i64 0, .slice none 0 0] 35)) _ from ⟨b5.os, b5.tape, b5.output, b5.size, b5.block⟩) (Blk.lt (blk_new _ _ _)) | skip); (try simp only [rz_size1] at gb); (try have yg := Blk.lt gb)); have o6 := OwnIClue.of o5; obtain ⟨va, vc, ve⟩ := o5.any; rw [← HN0.out] at ve; subst ve; clear o5; (try have s0 := Blk.cell gb 0); (try have s1 := Blk.cell gb 1); (try have g0 := Blk.free gb 0); (try have g1 := Blk.free gb 1); (try simp only [List.getElem?_cons_zero, List.getElem?_cons_succ] at s0 s1); (try clear bl); have bl := bm; clear bm; have yl := bl.size; clear b5))
    all_goals
      (go_wp2_with fail; go_meet)
    all_goals
      first
        | exact ⟨_, va, vc, _, _, rfl, rfl, Lib.hid (o6.below ((Below.refl _ _).alloc (Nat.le_refl _) _) (Nat.le_refl _)), Lib.hid (BoxZ.new w5 _ _ _), Lib.hid (by refine ⟨?_, ?_, ?_, ?_, ?_⟩ <;> ((try simp only [rz_size1]) <;> omega)), Lib.hid (bl.alloc bl.size _)⟩
        | exact ⟨_, va, vc, _, _, rfl, rfl, Lib.hid (ownI_far (ownI_far o6 (by first | omega | (rw [rz_size1]; omega)) 0 _) (by first | omega | (rw [rz_size1]; omega)) 1 _), Lib.hid ⟨rz_set0 s0 s1, rz_set1 s0 s1⟩, Lib.hid (by refine ⟨?_, ?_, ?_, ?_, ?_⟩ <;> ((try simp only [rz_size1, size_set]) <;> omega)), Lib.hid ((bl.setCell (by dsimp only; omega) _).setCell (by dsimp only; omega) _)⟩
  obtain ⟨gg, ga, gc, glo, ghi, rfl, rfl, G_5, BG_5, hn, bl⟩ := hcut
  obtain ⟨w5, rfl⟩ : ∃ x : World, x = wc := ⟨_, rfl⟩
  obtain ⟨q51, q52, q53, q54, q55⟩ := hn.out
  have b5 := bl.out
  have y5 := b5.size
  have PA_5 := Lib.hid (PA_4.out.below b5 PA_4.out.lt)
  have PC_5 := Lib.hid (PC_4.out.below b5 PC_4.out.lt)
  have V_5 := Lib.hid (V_4.out.below b5 (by omega))
  have BV_5 := Lib.hid (BV_4.out.below b5 BV_4.out.lt)
  have X_5 := Lib.hid (X_4.out.below b5 (by omega))
  have BX_5 := Lib.hid (BX_4.out.below b5 BX_4.out.lt)
  have B5 : Hid (Below ((w.alloc (.cells #[.int .i64 s0, .slice a0 len0 cap0] 30)).alloc (.cells #[.int .i64 x0, .int .i64 x1, .int .i64 x2, .int .i64 x3] 23)).heap.size ((w.alloc (.cells #[.int .i64 s0, .slice a0 len0 cap0] 30)).alloc (.cells #[.int .i64 x0, .int .i64 x1, .int .i64 x2, .int .i64 x3] 23)) w5) := Lib.hid (B4.out.trans (b5.mono (by omega)))
  clear PA_4 PC_4 V_4 BV_4 X_4 BX_4 B4 b5 bl hn HTA HSS HTC kc0 kc1 kc2 kc3 kPA0 kPA1 kBX0 kBX1
  clear xhh xk
  obtain ⟨kBG0, kBG1⟩ := BG_5.out
  obtain ⟨kBV0, kBV1⟩ := BV_5.out
  have EE := Lib.hid (eqPuzzle_two w5 _ _ _ _ _ _ r0 r1 (by omega) G_5.out V_5.out)
  go_wp2_with fail
  go_at_call 20
  refine EE.out.mono ?_
  rintro e w6 ⟨rfl, b6⟩
  have y6 := b6.size
  have PA_6 := Lib.hid (PA_5.out.below b6 PA_5.out.lt)
  have PC_6 := Lib.hid (PC_5.out.below b6 PC_5.out.lt)
  have V_6 := Lib.hid (V_5.out.below b6 (by omega))
  have BV_6 := Lib.hid (BV_5.out.below b6 BV_5.out.lt)
  have X_6 := Lib.hid (X_5.out.below b6 (by omega))
  have BX_6 := Lib.hid (BX_5.out.below b6 BX_5.out.lt)
  have G_6 := Lib.hid (G_5.out.below b6 (by omega))
  have BG_6 := Lib.hid (BG_5.out.below b6 BG_5.out.lt)
  have B6 : Hid (Below ((w.alloc (.cells #[.int .i64 s0, .slice a0 len0 cap0] 30)).alloc (.cells #[.int .i64 x0, .int .i64 x1, .int .i64 x2, .int .i64 x3] 23)).heap.size ((w.alloc (.cells #[.int .i64 s0, .slice a0 len0 cap0] 30)).alloc (.cells #[.int .i64 x0, .int .i64 x1, .int .i64 x2, .int .i64 x3] 23)) w6) := Lib.hid (B5.out.trans (b6.mono (by omega)))
  clear PA_5 PC_5 V_5 BV_5 X_5 BX_5 G_5 BG_5 B5 EE kBG0 kBG1 kBV0 kBV1
  clear b6
  obtain ⟨kBX0, kBX1⟩ := BX_6.out
  obtain ⟨kPA0, kPA1⟩ := PA_6.out
  have hTa := HT0.out
  have HTA := Lib.hid hTa
  clear hTa
  go_wp2_with fail
  go_region_held_law (fun w' => w'.cell? ⟨w.heap.size, 0, none⟩ = some (.int .i64 s0) ∧ w'.cell? ⟨w.heap.size, 1, none⟩ = some (.slice a0 len0 cap0) ∧ w'.cell? ⟨w3.heap.size, 0, none⟩ = some (.int .i64 s0) ∧ w'.cell? ⟨w3.heap.size, 1, none⟩ = some (.slice xa len0 xc)) (first | exact ⟨pt.c0, pt.c1, xt.c0, xt.c1⟩ | exact ⟨pe.c0, pe.c1, xe.c0, xe.c1⟩ | go_keep)
    (first
      | (go_at_call 18; refine (HTA.out _ (by exact ⟨B6.out.os, B6.out.tape, B6.out.output, B6.out.size, B6.out.block⟩)).mono ?_; rintro e wt ⟨tv, rfl, ot, bt⟩; obtain ⟨ta, tc, rfl⟩ := ot.any; have pt := BoxZ.below (g := w.heap.size) (s := s0) (v := .slice a0 len0 cap0) (h := by exact ⟨PA_6.out.c0, PA_6.out.c1⟩) bt PA_6.out.lt; have xt := BoxZ.below (g := w3.heap.size) (s := s0) (v := .slice xa len0 xc) (h := by exact ⟨BX_6.out.c0, BX_6.out.c1⟩) bt BX_6.out.lt; have yt := bt.size)
      | (go_at_call 20; refine (eqPuzzle_two wt _ _ _ _ _ _ s0 z0 (by omega) (OwnIClue.below (h := by exact ⟨X_6.out.1, X_6.out.2⟩) bt (by show _ ≤ w6.heap.size; omega)) (OwnIClue.of ot)).mono ?_; rintro e wf ⟨rfl, be⟩; have pe := pt.below be pt.lt; have xe := xt.below be xt.lt))
  have bf : Below w6.heap.size w6 wf := (show Below w6.heap.size w6 wt from ⟨bt.os, bt.tape, bt.output, bt.size, bt.block⟩).trans (be.mono bt.size)
  have y7 := bf.size
  have PA_7 := Lib.hid (PA_6.out.below bf PA_6.out.lt)
  have PC_7 := Lib.hid (PC_6.out.below bf PC_6.out.lt)
  have V_7 := Lib.hid (V_6.out.below bf (by omega))
  have BV_7 := Lib.hid (BV_6.out.below bf BV_6.out.lt)
  have X_7 := Lib.hid (X_6.out.below bf (by omega))
  have BX_7 := Lib.hid (BX_6.out.below bf BX_6.out.lt)
  have G_7 := Lib.hid (G_6.out.below bf (by omega))
  have BG_7 := Lib.hid (BG_6.out.below bf BG_6.out.lt)
  have B7 : Hid (Below ((w.alloc (.cells #[.int .i64 s0, .slice a0 len0 cap0] 30)).alloc (.cells #[.int .i64 x0, .int .i64 x1, .int .i64 x2, .int .i64 x3] 23)).heap.size ((w.alloc (.cells #[.int .i64 s0, .slice a0 len0 cap0] 30)).alloc (.cells #[.int .i64 x0, .int .i64 x1, .int .i64 x2, .int .i64 x3] 23)) wf) := Lib.hid (B6.out.trans (bf.mono (by omega)))
  clear PA_6 PC_6 V_6 BV_6 X_6 BX_6 G_6 BG_6 B6 kBX0 kBX1 kPA0 kPA1 HTA bt be ot pt xt pe xe yt bf
  obtain ⟨kBX0, kBX1⟩ := BX_7.out
  have EE := Lib.hid (markPuzzle_in wf _ _ _ s0 z0 (by omega) (by omega) X_7.out)
  go_wp2_with fail
  go_at_call 23
  refine EE.out.mono ?_
  rintro e w8 ⟨rfl, o8, b8⟩
  have y8 := b8.size
  have PA_8 := Lib.hid (PA_7.out.betw b8 (by omega))
  have PC_8 := Lib.hid (PC_7.out.betw b8 (by omega))
  have V_8 := Lib.hid (V_7.out.betw b8 (by omega) (by omega))
  have BV_8 := Lib.hid (BV_7.out.betw b8 (by omega))
  have BX_8 := Lib.hid (BX_7.out.betw b8 (by omega))
  have G_8 := Lib.hid (G_7.out.betw b8 (by omega) (by omega))
  have BG_8 := Lib.hid (BG_7.out.betw b8 (by omega))
  have B8 : Hid (Below ((w.alloc (.cells #[.int .i64 s0, .slice a0 len0 cap0] 30)).alloc (.cells #[.int .i64 x0, .int .i64 x1, .int .i64 x2, .int .i64 x3] 23)).heap.size ((w.alloc (.cells #[.int .i64 s0, .slice a0 len0 cap0] 30)).alloc (.cells #[.int .i64 x0, .int .i64 x1, .int .i64 x2, .int .i64 x3] 23)) w8) := Lib.hid (betw_below B7.out b8 (by omega))
  clear PA_7 PC_7 V_7 BV_7 X_7 BX_7 G_7 BG_7 B7 EE kBX0 kBX1
  have X_8 := Lib.hid o8
  clear o8 b8
  rw [HZ0.out] at X_8 ⊢
  obtain ⟨kBG0, kBG1⟩ := BG_8.out
  obtain ⟨kBV0, kBV1⟩ := BV_8.out
  have EE := Lib.hid (eqPuzzle_two w8 _ _ _ _ _ _ r0 r1 (by omega) G_8.out V_8.out)
  go_wp2_with fail
  go_at_call 20
  refine EE.out.mono ?_
  rintro e w9 ⟨rfl, b9⟩
  have y9 := b9.size
  have PA_9 := Lib.hid (PA_8.out.below b9 PA_8.out.lt)
  have PC_9 := Lib.hid (PC_8.out.below b9 PC_8.out.lt)
  have V_9 := Lib.hid (V_8.out.below b9 (by omega))
  have BV_9 := Lib.hid (BV_8.out.below b9 BV_8.out.lt)
  have X_9 := Lib.hid (X_8.out.below b9 (by omega))
  have BX_9 := Lib.hid (BX_8.out.below b9 BX_8.out.lt)
  have G_9 := Lib.hid (G_8.out.below b9 (by omega))
  have BG_9 := Lib.hid (BG_8.out.below b9 BG_8.out.lt)
  have B9 : Hid (Below ((w.alloc (.cells #[.int .i64 s0, .slice a0 len0 cap0] 30)).alloc (.cells #[.int .i64 x0, .int .i64 x1, .int .i64 x2, .int .i64 x3] 23)).heap.size ((w.alloc (.cells #[.int .i64 s0, .slice a0 len0 cap0] 30)).alloc (.cells #[.int .i64 x0, .int .i64 x1, .int .i64 x2, .int .i64 x3] 23)) w9) := Lib.hid (B8.out.trans (b9.mono (by omega)))
  clear PA_8 PC_8 V_8 BV_8 X_8 BX_8 G_8 BG_8 B8 EE kBG0 kBG1 kBV0 kBV1
  clear b9
  clear X_9 BX_9
  obtain ⟨kBG0, kBG1⟩ := BG_9.out
  have EE := Lib.hid (markPuzzle_in w9 _ _ _ r0 r1 (by omega) (by omega) G_9.out)
  go_wp2_with fail
  go_at_call 23
  refine EE.out.mono ?_
  rintro e w10 ⟨rfl, o10, b10⟩
  have y10 := b10.size
  have PA_10 := Lib.hid (PA_9.out.betw b10 (by omega))
  have PC_10 := Lib.hid (PC_9.out.betw b10 (by omega))
  have V_10 := Lib.hid (V_9.out.betw b10 (by omega) (by omega))
  have BV_10 := Lib.hid (BV_9.out.betw b10 (by omega))
  have BG_10 := Lib.hid (BG_9.out.betw b10 (by omega))
  have B10 : Hid (Below ((w.alloc (.cells #[.int .i64 s0, .slice a0 len0 cap0] 30)).alloc (.cells #[.int .i64 x0, .int .i64 x1, .int .i64 x2, .int .i64 x3] 23)).heap.size ((w.alloc (.cells #[.int .i64 s0, .slice a0 len0 cap0] 30)).alloc (.cells #[.int .i64 x0, .int .i64 x1, .int .i64 x2, .int .i64 x3] 23)) w10) := Lib.hid (betw_below B9.out b10 (by omega))
  clear PA_9 PC_9 V_9 BV_9 G_9 BG_9 B9 EE kBG0 kBG1
  have G_10 := Lib.hid o10
  clear o10 b10
  rw [← HN0.out] at G_10 ⊢
  obtain ⟨kBG0, kBG1⟩ := BG_10.out
  have EE := Lib.hid (heldPuzzle_in w10 _ _ _ r0 n0 hm0 (by omega) G_10.out)
  go_wp2_with fail
  go_at_call 24
  refine EE.out.mono ?_
  rintro e w11 ⟨rfl, b11⟩
  have y11 := b11.size
  have PA_11 := Lib.hid (PA_10.out.below b11 PA_10.out.lt)
  have PC_11 := Lib.hid (PC_10.out.below b11 PC_10.out.lt)
  have V_11 := Lib.hid (V_10.out.below b11 (by omega))
  have BV_11 := Lib.hid (BV_10.out.below b11 BV_10.out.lt)
  have G_11 := Lib.hid (G_10.out.below b11 (by omega))
  have BG_11 := Lib.hid (BG_10.out.below b11 BG_10.out.lt)
  have B11 : Hid (Below ((w.alloc (.cells #[.int .i64 s0, .slice a0 len0 cap0] 30)).alloc (.cells #[.int .i64 x0, .int .i64 x1, .int .i64 x2, .int .i64 x3] 23)).heap.size ((w.alloc (.cells #[.int .i64 s0, .slice a0 len0 cap0] 30)).alloc (.cells #[.int .i64 x0, .int .i64 x1, .int .i64 x2, .int .i64 x3] 23)) w11) := Lib.hid (B10.out.trans (b11.mono (by omega)))
  clear PA_10 PC_10 V_10 BV_10 G_10 BG_10 B10 EE kBG0 kBG1
  clear b11
  obtain ⟨kPA0, kPA1⟩ := PA_11.out
  obtain ⟨kc0, kc1, kc2, kc3⟩ := PC_11.out
  have hTa := HT0.out
  have HTA := Lib.hid hTa
  clear hTa
  have hSS := HI.out
  have HSS := Lib.hid hSS
  clear hSS
  have HTC := Lib.hid (fun w2 => toClue_any x0 x1 x2 x3 w2)
  go_upto_region 24 with (fail)
  go_cut [14, 15] (fun p6 p7 wx => ∃ (g : Nat) (va : Option Addr) (vc lo hi : Nat), p6 = .pointer (some ⟨g, 0, none⟩) ∧ p7 = .bool r2 ∧ Hid (OwnIClue wx lo hi (.slice va n0 vc) r1) ∧ Hid (BoxZ wx g r0 (.slice va n0 vc)) ∧ Hid (w11.heap.size ≤ lo ∧ w11.heap.size ≤ g ∧ (g < lo ∨ hi ≤ g) ∧ g < wx.heap.size ∧ hi ≤ wx.heap.size) ∧ Hid (Below w11.heap.size w11 wx))
  case first =>
    go_region_held_law (fun w' => w'.cell? ⟨w.heap.size, 0, none⟩ = some (.int .i64 s0) ∧ w'.cell? ⟨w.heap.size, 1, none⟩ = some (.slice a0 len0 cap0) ∧ w'.cell? ⟨w.heap.size + 1, 0, none⟩ = some (.int .i64 x0) ∧ w'.cell? ⟨w.heap.size + 1, 1, none⟩ = some (.int .i64 x1) ∧ w'.cell? ⟨w.heap.size + 1, 2, none⟩ = some (.int .i64 x2) ∧ w'.cell? ⟨w.heap.size + 1, 3, none⟩ = some (.int .i64 x3)) (first | exact ⟨(BoxZ.below (h := PA_11.out) bl PA_11.out.lt).c0, (BoxZ.below (h := PA_11.out) bl PA_11.out.lt).c1, (BoxK.below (h := PC_11.out) bl PC_11.out.lt).c0, (BoxK.below (h := PC_11.out) bl PC_11.out.lt).c1, (BoxK.below (h := PC_11.out) bl PC_11.out.lt).c2, (BoxK.below (h := PC_11.out) bl PC_11.out.lt).c3⟩ | exact ⟨(BoxZ.alloc (h := BoxZ.below (h := PA_11.out) bl PA_11.out.lt) _).c0, (BoxZ.alloc (h := BoxZ.below (h := PA_11.out) bl PA_11.out.lt) _).c1, (BoxK.alloc (h := BoxK.below (h := PC_11.out) bl PC_11.out.lt) _).c0, (BoxK.alloc (h := BoxK.below (h := PC_11.out) bl PC_11.out.lt) _).c1, (BoxK.alloc (h := BoxK.below (h := PC_11.out) bl PC_11.out.lt) _).c2, (BoxK.alloc (h := BoxK.below (h := PC_11.out) bl PC_11.out.lt) _).c3⟩ | exact ⟨(BoxZ.alloc (h := PA_11.out) _).c0, (BoxZ.alloc (h := PA_11.out) _).c1, (BoxK.alloc (h := PC_11.out) _).c0, (BoxK.alloc (h := PC_11.out) _).c1, (BoxK.alloc (h := PC_11.out) _).c2, (BoxK.alloc (h := PC_11.out) _).c3⟩ | exact ⟨rz_far (rz_far (BoxZ.below (h := PA_11.out) bl PA_11.out.lt).c0 (by omega)) (by omega), rz_far (rz_far (BoxZ.below (h := PA_11.out) bl PA_11.out.lt).c1 (by omega)) (by omega), rz_far (rz_far (BoxK.below (h := PC_11.out) bl PC_11.out.lt).c0 (by omega)) (by omega), rz_far (rz_far (BoxK.below (h := PC_11.out) bl PC_11.out.lt).c1 (by omega)) (by omega), rz_far (rz_far (BoxK.below (h := PC_11.out) bl PC_11.out.lt).c2 (by omega)) (by omega), rz_far (rz_far (BoxK.below (h := PC_11.out) bl PC_11.out.lt).c3 (by omega)) (by omega)⟩ | go_keep)
      (first
      | (go_at_call 14; refine (HTC.out _).mono ?_; rintro e wq ⟨rfl, bq⟩; have yb := bq.size; have bm : Below w11.heap.size w11 wq := (by first | exact bl.trans (bq.mono bl.size) | exact (bl.alloc bl.size _).trans (bq.mono (Nat.le_trans bl.size (by simp only [rz_size1]; omega))) | exact ⟨bq.os, bq.tape, bq.output, bq.size, bq.block⟩ | exact Below.trans ((Below.refl w11.heap.size w11).alloc (Nat.le_refl _) (.cells #[.int .i64 0, .slice none 0 0] 35)) (Below.mono (show Below (w11.alloc (.cells #[.int .i64 0, .slice none 0 0] 35)).heap.size (w11.alloc (.cells #[.int .i64 0, .slice none 0 0] 35)) wq from ⟨bq.os, bq.tape, bq.output, bq.size, bq.block⟩) (by simp only [rz_size1]; omega))); ((first | have gb := Blk.below (h := gb) bq gb.lt | have gb := Blk.below (h := blk_new _ 35 [.int .i64 0, .slice none 0 0]) bq (Blk.lt (blk_new _ _ _)) | have gb := Blk.below (h := blk_new w11 35 [.int .i64 0, .slice none 0 0]) (show Below (w11.alloc (.cells #[.int .i64 0, .slice none 0 0] 35)).heap.size (w11.alloc (.cells #[.int .i64 0, .slice none 0 0] 35)) _ from ⟨bq.os, bq.tape, bq.output, bq.size, bq.block⟩) (Blk.lt (blk_new _ _ _)) | skip); (try have yg := Blk.lt gb)); (first | have th := CameClue.below (h := th) bq | have th := CameClue.below (h := CameClue.below (h := th) ((Below.refl _ _).alloc (Nat.le_refl _) _)) bq | skip); (try clear bl); have bl := bm; clear bm; have yl := bl.size; clear bq)
      | (go_at_call 18; refine (HTA.out _ (by first | exact B11.out.trans (Below.mono bl (by omega)) | exact B11.out.trans (Below.mono (bl.alloc bl.size _) (by omega)) | exact ⟨B11.out.os, B11.out.tape, B11.out.output, B11.out.size, B11.out.block⟩ | exact below_drewC (B11.out.alloc B11.out.size _))).mono ?_; rintro e wt ⟨tv, rfl, ot, bt⟩; have yb := bt.size; have bm : Below w11.heap.size w11 wt := (by first | exact bl.trans (bt.mono bl.size) | exact (bl.alloc bl.size _).trans (bt.mono (Nat.le_trans bl.size (by simp only [rz_size1]; omega))) | exact ⟨bt.os, bt.tape, bt.output, bt.size, bt.block⟩ | exact Below.trans ((Below.refl w11.heap.size w11).alloc (Nat.le_refl _) (.cells #[.int .i64 0, .slice none 0 0] 35)) (Below.mono (show Below (w11.alloc (.cells #[.int .i64 0, .slice none 0 0] 35)).heap.size (w11.alloc (.cells #[.int .i64 0, .slice none 0 0] 35)) wt from ⟨bt.os, bt.tape, bt.output, bt.size, bt.block⟩) (by simp only [rz_size1]; omega))); ((first | have gb := Blk.below (h := gb) bt gb.lt | have gb := Blk.below (h := blk_new _ 35 [.int .i64 0, .slice none 0 0]) bt (Blk.lt (blk_new _ _ _)) | have gb := Blk.below (h := blk_new w11 35 [.int .i64 0, .slice none 0 0]) (show Below (w11.alloc (.cells #[.int .i64 0, .slice none 0 0] 35)).heap.size (w11.alloc (.cells #[.int .i64 0, .slice none 0 0] 35)) _ from ⟨bt.os, bt.tape, bt.output, bt.size, bt.block⟩) (Blk.lt (blk_new _ _ _)) | skip); (try have yg := Blk.lt gb)); obtain ⟨ta, tc, te, th, tk⟩ := ot.cameC; rw [HZ0.out] at te th tk; subst te; clear ot; (try clear bl); have bl := bm; clear bm; have yl := bl.size; clear bt)
      | (go_at_call 26; refine (HSS.out _ ta tc (by first | exact th | exact CameClue.below (h := th) ((Below.refl _ _).alloc (Nat.le_refl _) _)) tk).mono ?_; rintro e w5 ⟨v5, rfl, o5, b5⟩; have yb := b5.size; have bm : Below w11.heap.size w11 w5 := (by first | exact bl.trans (b5.mono bl.size) | exact (bl.alloc bl.size _).trans (b5.mono (Nat.le_trans bl.size (by simp only [rz_size1]; omega))) | exact ⟨b5.os, b5.tape, b5.output, b5.size, b5.block⟩ | exact Below.trans ((Below.refl w11.heap.size w11).alloc (Nat.le_refl _) (.cells #[.int .i64 0, .slice none 0 0] 35)) (Below.mono (show Below (w11.alloc (.cells #[.int .i64 0, .slice none 0 0] 35)).heap.size (w11.alloc (.cells #[.int .i64 0, .slice none 0 0] 35)) w5 from ⟨b5.os, b5.tape, b5.output, b5.size, b5.block⟩) (by simp only [rz_size1]; omega))); ((first | have gb := Blk.below (h := gb) b5 gb.lt | have gb := Blk.below (h := blk_new _ 35 [.int .i64 0, .slice none 0 0]) b5 (Blk.lt (blk_new _ _ _)) | have gb := Blk.below (h := blk_new w11 35 [.int .i64 0, .slice none 0 0]) (show Below (w11.alloc (.cells #[.int .i64 0, .slice none 0 0] 35)).heap.size (w11.alloc (.cells #[.int .i64 0, .slice none 0 0] 35)) _ from ⟨b5.os, b5.tape, b5.output, b5.size, b5.block⟩) (Blk.lt (blk_new _ _ _)) | skip); (try have yg := Blk.lt gb)); have o6 := OwnIClue.of o5; obtain ⟨va, vc, ve⟩ := o5.any; rw [← HN0.out] at ve; subst ve; clear o5; (try have s0 := Blk.cell gb 0); (try have s1 := Blk.cell gb 1); (try have g0 := Blk.free gb 0); (try have g1 := Blk.free gb 1); (try simp only [List.getElem?_cons_zero, List.getElem?_cons_succ] at s0 s1); (try clear bl); have bl := bm; clear bm; have yl := bl.size; clear b5))
    all_goals
      (go_wp2_with fail; go_meet)
    all_goals
      first
        | exact ⟨_, va, vc, _, _, rfl, rfl, Lib.hid (o6.below ((Below.refl _ _).alloc (Nat.le_refl _) _) (Nat.le_refl _)), Lib.hid (BoxZ.new w5 _ _ _), Lib.hid (by refine ⟨?_, ?_, ?_, ?_, ?_⟩ <;> ((try simp only [rz_size1]) <;> omega)), Lib.hid (bl.alloc bl.size _)⟩
        | exact ⟨_, va, vc, _, _, rfl, rfl, Lib.hid (ownI_far (ownI_far o6 (by first | omega | (rw [rz_size1]; omega)) 0 _) (by first | omega | (rw [rz_size1]; omega)) 1 _), Lib.hid ⟨rz_set0 s0 s1, rz_set1 s0 s1⟩, Lib.hid (by refine ⟨?_, ?_, ?_, ?_, ?_⟩ <;> ((try simp only [rz_size1, size_set]) <;> omega)), Lib.hid ((bl.setCell (by dsimp only; omega) _).setCell (by dsimp only; omega) _)⟩
  obtain ⟨hg, ha, hc, hlo, hhi, rfl, rfl, H_12, BH_12, hn, bl⟩ := hcut
  obtain ⟨w12, rfl⟩ : ∃ x : World, x = wc := ⟨_, rfl⟩
  obtain ⟨q121, q122, q123, q124, q125⟩ := hn.out
  have b12 := bl.out
  have y12 := b12.size
  have PA_12 := Lib.hid (PA_11.out.below b12 PA_11.out.lt)
  have PC_12 := Lib.hid (PC_11.out.below b12 PC_11.out.lt)
  have V_12 := Lib.hid (V_11.out.below b12 (by omega))
  have BV_12 := Lib.hid (BV_11.out.below b12 BV_11.out.lt)
  have G_12 := Lib.hid (G_11.out.below b12 (by omega))
  have BG_12 := Lib.hid (BG_11.out.below b12 BG_11.out.lt)
  have B12 : Hid (Below ((w.alloc (.cells #[.int .i64 s0, .slice a0 len0 cap0] 30)).alloc (.cells #[.int .i64 x0, .int .i64 x1, .int .i64 x2, .int .i64 x3] 23)).heap.size ((w.alloc (.cells #[.int .i64 s0, .slice a0 len0 cap0] 30)).alloc (.cells #[.int .i64 x0, .int .i64 x1, .int .i64 x2, .int .i64 x3] 23)) w12) := Lib.hid (B11.out.trans (b12.mono (by omega)))
  clear PA_11 PC_11 V_11 BV_11 G_11 BG_11 B11 b12 bl hn HTA HSS HTC kc0 kc1 kc2 kc3 kPA0 kPA1
  obtain ⟨kBH0, kBH1⟩ := BH_12.out
  obtain ⟨kBV0, kBV1⟩ := BV_12.out
  have EE := Lib.hid (eqPuzzle_two w12 _ _ _ _ _ _ r0 r1 (by omega) H_12.out V_12.out)
  go_wp2_with fail
  go_at_call 20
  refine EE.out.mono ?_
  rintro e w13 ⟨rfl, b13⟩
  have y13 := b13.size
  have PA_13 := Lib.hid (PA_12.out.below b13 PA_12.out.lt)
  have PC_13 := Lib.hid (PC_12.out.below b13 PC_12.out.lt)
  have V_13 := Lib.hid (V_12.out.below b13 (by omega))
  have BV_13 := Lib.hid (BV_12.out.below b13 BV_12.out.lt)
  have G_13 := Lib.hid (G_12.out.below b13 (by omega))
  have BG_13 := Lib.hid (BG_12.out.below b13 BG_12.out.lt)
  have H_13 := Lib.hid (H_12.out.below b13 (by omega))
  have BH_13 := Lib.hid (BH_12.out.below b13 BH_12.out.lt)
  have B13 : Hid (Below ((w.alloc (.cells #[.int .i64 s0, .slice a0 len0 cap0] 30)).alloc (.cells #[.int .i64 x0, .int .i64 x1, .int .i64 x2, .int .i64 x3] 23)).heap.size ((w.alloc (.cells #[.int .i64 s0, .slice a0 len0 cap0] 30)).alloc (.cells #[.int .i64 x0, .int .i64 x1, .int .i64 x2, .int .i64 x3] 23)) w13) := Lib.hid (B12.out.trans (b13.mono (by omega)))
  clear PA_12 PC_12 V_12 BV_12 G_12 BG_12 H_12 BH_12 B12 EE kBH0 kBH1 kBV0 kBV1
  clear b13
  clear H_13 BH_13
  obtain ⟨kBG0, kBG1⟩ := BG_13.out
  have EE := Lib.hid (heldPuzzle_in w13 _ _ _ r0 n0 hm0 (by omega) G_13.out)
  go_wp2_with fail
  go_at_call 24
  refine EE.out.mono ?_
  rintro e w14 ⟨rfl, b14⟩
  have y14 := b14.size
  have PA_14 := Lib.hid (PA_13.out.below b14 PA_13.out.lt)
  have PC_14 := Lib.hid (PC_13.out.below b14 PC_13.out.lt)
  have V_14 := Lib.hid (V_13.out.below b14 (by omega))
  have BV_14 := Lib.hid (BV_13.out.below b14 BV_13.out.lt)
  have G_14 := Lib.hid (G_13.out.below b14 (by omega))
  have BG_14 := Lib.hid (BG_13.out.below b14 BG_13.out.lt)
  have B14 : Hid (Below ((w.alloc (.cells #[.int .i64 s0, .slice a0 len0 cap0] 30)).alloc (.cells #[.int .i64 x0, .int .i64 x1, .int .i64 x2, .int .i64 x3] 23)).heap.size ((w.alloc (.cells #[.int .i64 s0, .slice a0 len0 cap0] 30)).alloc (.cells #[.int .i64 x0, .int .i64 x1, .int .i64 x2, .int .i64 x3] 23)) w14) := Lib.hid (B13.out.trans (b14.mono (by omega)))
  clear PA_13 PC_13 V_13 BV_13 G_13 BG_13 B13 EE kBG0 kBG1
  clear b14
  go_wp2
  go_ret
  exact ⟨rfl, HW0.out.trans (B14.out.mono HW0.out.size)⟩

set_option maxHeartbeats 1000000 in
theorem walkFnExactAddClue (s0 : Int) (a0 : Option Addr) (len0 cap0 : Nat) (z0 : List RClue) (x0 : Int) (x1 : Int) (x2 : Int) (x3 : Int) (w : World) (hc0 : CameClue w a0 len0 z0) (hk0 : len0 ≤ 9223372036854775807) :
    Calls Try.prog 6 #[.agg #[.int .i64 s0, .slice a0 len0 cap0], .agg #[.int .i64 x0, .int .i64 x1, .int .i64 x2, .int .i64 x3]] w fun e w' => e = .returned (.bool true) ∧ Below w.heap.size w w' := by
  exact lawAddClue w s0 a0 len0 cap0 z0 x0 x1 x2 x3 (outAddClue_0 s0 z0 (x0, x1, x2, x3)) (outAddClue_1 s0 z0 (x0, x1, x2, x3)) (outAddClue_2 s0 z0 (x0, x1, x2, x3)) (lenAddClue_1 s0 z0 (x0, x1, x2, x3)) hc0 hk0
    (fun hl => fun w a cap hc hk => specAddClue_any w s0 a len0 cap z0 x0 x1 x2 x3 hl hc hk)
    (fun hl => fun w a cap hc hk => implAddClue_any w s0 a len0 cap z0 x0 x1 x2 x3 hl hc hk)

end Go.Proofs.Ytodlpdbmiicdfaa
