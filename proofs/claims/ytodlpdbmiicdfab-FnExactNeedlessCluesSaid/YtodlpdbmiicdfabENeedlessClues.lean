/- The walk of the law FnExactNeedlessClues (a puzzle by value), out of the contracts of its two functions. -/
import Derived.Test.YtodlpdbmiicdfabKinds
import Derived.Test.YtodlpdbmiicdfabRPuzzle
import Derived.Test.YtodlpdbmiicdfabPzi
import Derived.Test.YtodlpdbmiicdfabZq
namespace Go.Proofs.Ytodlpdbmiicdfab
open Go.ChangeShapes Go.WideShapes Go.ChangeAt Go.RowKit

set_option maxHeartbeats 8000000 in
theorem lawNeedlessClues (w : World) (s0 : Int) (a0 : Option Addr) (len0 cap0 : Nat) (z0 : List RClue) (r0 : List Int) (r1 : Bool) (ho : r0.length ≤ 1048576) (hc0 : CameClue w a0 len0 z0) (hk0 : len0 ≤ 9223372036854775807)
    (hS : len0 ≤ 1048576 → ∀ (w : World) (a0 : Option Addr) (cap0 : Nat), CameClue w a0 len0 z0 → (len0 ≤ cap0 ∧ cap0 ≤ 9223372036854775807) → Calls Try.prog 9 #[.agg #[.int .i64 s0, .slice a0 len0 cap0]] w fun e w' => ∃ v0, e = .returned (.tuple #[v0, .bool r1]) ∧ Own w' w.heap.size v0 r0 ∧ Below w.heap.size w w')
    (hI : len0 ≤ 1048576 → ∀ (w : World) (a0 : Option Addr) (cap0 : Nat), CameClue w a0 len0 z0 → (len0 ≤ cap0 ∧ cap0 ≤ 9223372036854775807) → Calls Try.prog 11 #[.agg #[.int .i64 s0, .slice a0 len0 cap0]] w fun e w' => ∃ v0, e = .returned (.tuple #[v0, .bool r1]) ∧ Own w' w.heap.size v0 r0 ∧ Below w.heap.size w w') :
    Calls Try.prog 3 #[.agg #[.int .i64 s0, .slice a0 len0 cap0]] w fun e w' => e = .returned (.bool true) ∧ Below w.heap.size w w' := by
  have HS := Lib.hid hS
  have HI := Lib.hid hI
  have HZ0 : Hid (z0.length = len0) := Lib.hid hc0.1
  have HW0 : Hid (Below w.heap.size w (w.alloc (.cells #[.int .i64 s0, .slice a0 len0 cap0] 24))) := Lib.hid ((Below.refl _ _).alloc (Nat.le_refl _) _)
  have HT0 := Lib.hid (fun w2 (hl0 : len0 ≤ 1048576) (h : Below (w.alloc (.cells #[.int .i64 s0, .slice a0 len0 cap0] 24)).heap.size (w.alloc (.cells #[.int .i64 s0, .slice a0 len0 cap0] 24)) w2) => toPuzzle_any w2 s0 a0 len0 cap0 z0 hl0 (hc0.below (HW0.out.trans (h.mono HW0.out.size))))
  have HX0 := Lib.hid (szPuzzle_any (w.alloc (.cells #[.int .i64 s0, .slice a0 len0 cap0] 24)) s0 a0 len0 cap0 hk0)
  have y0 : (w.alloc (.cells #[.int .i64 s0, .slice a0 len0 cap0] 24)).heap.size = w.heap.size + 1 := rz_size1 _ _
  obtain ⟨n0, hn0⟩ : ∃ n, n = r0.length := ⟨_, rfl⟩
  have HN0 := Lib.hid hn0
  have hm0 : n0 ≤ 1048576 := by omega
  clear hn0
  clear hS hI hc0
  have B0 : Hid (Below (w.alloc (.cells #[.int .i64 s0, .slice a0 len0 cap0] 24)).heap.size (w.alloc (.cells #[.int .i64 s0, .slice a0 len0 cap0] 24)) (w.alloc (.cells #[.int .i64 s0, .slice a0 len0 cap0] 24))) := Lib.hid (Below.refl _ _)
  have PA_0 : Hid (BoxZ (w.alloc (.cells #[.int .i64 s0, .slice a0 len0 cap0] 24)) w.heap.size s0 (.slice a0 len0 cap0)) := Lib.hid (BoxZ.new w s0 _ _)
  skip
  obtain ⟨k0, k1⟩ := PA_0.out
  go_enter Try.func3, Try.ntmps3
  go_wp2_with fail
  go_at_call 8
  refine HX0.out.mono ?_
  rintro e w1 ⟨r, rfl, hr0, hr1, hr2, b1⟩
  have y1 := b1.size
  have PA_1 := Lib.hid (PA_0.out.below b1 PA_0.out.lt)
  skip
  have B1 : Hid (Below (w.alloc (.cells #[.int .i64 s0, .slice a0 len0 cap0] 24)).heap.size (w.alloc (.cells #[.int .i64 s0, .slice a0 len0 cap0] 24)) w1) := Lib.hid b1
  clear B0 b1 HX0 PA_0 k0 k1
  by_cases hneg : r < 0
  · clear hr2
    go_wp2
    go_ret
    exact ⟨rfl, HW0.out.trans (B1.out.mono HW0.out.size)⟩
  have hl0 : len0 ≤ 1048576 := hr2 (by omega)
  have hzl0 : z0.length ≤ 1048576 := by have := HZ0.out; omega
  have HT0 := Lib.hid (fun w2 h => HT0.out w2 hl0 h)
  have HS := Lib.hid (HS.out hl0)
  have HI := Lib.hid (HI.out hl0)
  clear hr2
  obtain ⟨kPA0, kPA1⟩ := PA_1.out
  have hT := HT0.out w1 B1.out
  have HTT := Lib.hid hT
  clear hT
  go_wp2_with fail
  go_at_call 10
  refine HTT.out.mono ?_
  rintro e w2 ⟨cv, rfl, o2, b2⟩
  have y2 := b2.size
  have PA_2 := Lib.hid (PA_1.out.below b2 PA_1.out.lt)
  have B2 : Hid (Below (w.alloc (.cells #[.int .i64 s0, .slice a0 len0 cap0] 24)).heap.size (w.alloc (.cells #[.int .i64 s0, .slice a0 len0 cap0] 24)) w2) := Lib.hid (B1.out.trans (b2.mono (by omega)))
  clear PA_1 B1 HTT kPA0 kPA1
  have C_2 := Lib.hid (OwnIClue.of o2)
  obtain ⟨ca, cc, ce, ch, ck⟩ := C_2.out.1.cameC
  rw [HZ0.out] at ce ch ck
  subst ce
  clear o2 b2
  have CC := Lib.hid (HS.out w2 ca cc ch ck)
  go_wp2_with fail
  go_at_call 9
  refine CC.out.mono ?_
  rintro e w3 ⟨vv, rfl, o3, b3⟩
  have y3 := b3.size
  have PA_3 := Lib.hid (PA_2.out.below b3 PA_2.out.lt)
  have C_3 := Lib.hid (C_2.out.below b3 (by omega))
  have B3 : Hid (Below (w.alloc (.cells #[.int .i64 s0, .slice a0 len0 cap0] 24)).heap.size (w.alloc (.cells #[.int .i64 s0, .slice a0 len0 cap0] 24)) w3) := Lib.hid (B2.out.trans (b3.mono (by omega)))
  clear PA_2 C_2 B2 CC
  have V_3 := Lib.hid (OwnI.of o3)
  obtain ⟨va, vc, ve⟩ := V_3.out.1.any
  rw [← HN0.out] at ve
  subst ve
  clear o3 b3
  clear ch ck
  clear C_3
  obtain ⟨kPA0, kPA1⟩ := PA_3.out
  have hT := HT0.out w3 B3.out
  have HTT := Lib.hid hT
  clear hT
  go_wp2_with fail
  go_at_call 10
  refine HTT.out.mono ?_
  rintro e w4 ⟨xv, rfl, o4, b4⟩
  have y4 := b4.size
  have PA_4 := Lib.hid (PA_3.out.below b4 PA_3.out.lt)
  have V_4 := Lib.hid (V_3.out.below b4 (by omega))
  have B4 : Hid (Below (w.alloc (.cells #[.int .i64 s0, .slice a0 len0 cap0] 24)).heap.size (w.alloc (.cells #[.int .i64 s0, .slice a0 len0 cap0] 24)) w4) := Lib.hid (B3.out.trans (b4.mono (by omega)))
  clear PA_3 V_3 B3 HTT kPA0 kPA1
  have X_4 := Lib.hid (OwnIClue.of o4)
  obtain ⟨xa, xc, xe, xh, xk⟩ := X_4.out.1.cameC
  rw [HZ0.out] at xe xh xk
  subst xe
  clear o4 b4
  have y5 : (w4.alloc (.cells #[.int .i64 s0, .slice xa len0 xc] 31)).heap.size = w4.heap.size + 1 := rz_size1 _ _
  have PA_5 := Lib.hid (PA_4.out.alloc (.cells #[.int .i64 s0, .slice xa len0 xc] 31))
  have V_5 := Lib.hid (V_4.out.below ((Below.refl w4.heap.size w4).alloc (Nat.le_refl _) (.cells #[.int .i64 s0, .slice xa len0 xc] 31)) (by omega))
  have X_5 := Lib.hid (X_4.out.below ((Below.refl w4.heap.size w4).alloc (Nat.le_refl _) (.cells #[.int .i64 s0, .slice xa len0 xc] 31)) (by omega))
  have BX_5 : Hid (BoxZ (w4.alloc (.cells #[.int .i64 s0, .slice xa len0 xc] 31)) w4.heap.size s0 (.slice xa len0 xc)) := Lib.hid (BoxZ.new w4 _ _ _)
  have B5 : Hid (Below (w.alloc (.cells #[.int .i64 s0, .slice a0 len0 cap0] 24)).heap.size (w.alloc (.cells #[.int .i64 s0, .slice a0 len0 cap0] 24)) (w4.alloc (.cells #[.int .i64 s0, .slice xa len0 xc] 31))) := Lib.hid (B4.out.alloc (by have := B4.out.size; omega) _)
  clear PA_4 V_4 X_4 B4
  have xhh := X_5.out.1.cameC
  clear xh
  obtain ⟨xa', xc', xe, xhh, _⟩ := xhh
  rw [HZ0.out] at xe xhh
  injection xe with xe1 _ xe3
  subst xe1 xe3
  obtain ⟨kBX0, kBX1⟩ := BX_5.out
  have CC := Lib.hid (HI.out (w4.alloc (.cells #[.int .i64 s0, .slice xa len0 xc] 31)) xa xc xhh xk)
  go_wp2_with fail
  go_at_call 11
  refine CC.out.mono ?_
  rintro e w6 ⟨gv, rfl, o6, b6⟩
  have y6 := b6.size
  have PA_6 := Lib.hid (PA_5.out.below b6 PA_5.out.lt)
  have V_6 := Lib.hid (V_5.out.below b6 (by omega))
  have X_6 := Lib.hid (X_5.out.below b6 (by omega))
  have BX_6 := Lib.hid (BX_5.out.below b6 BX_5.out.lt)
  have B6 : Hid (Below (w.alloc (.cells #[.int .i64 s0, .slice a0 len0 cap0] 24)).heap.size (w.alloc (.cells #[.int .i64 s0, .slice a0 len0 cap0] 24)) w6) := Lib.hid (B5.out.trans (b6.mono (by omega)))
  clear PA_5 V_5 X_5 BX_5 B5 CC kBX0 kBX1
  have G_6 := Lib.hid (OwnI.of o6)
  obtain ⟨ga, gc, ge⟩ := G_6.out.1.any
  rw [← HN0.out] at ge
  subst ge
  clear o6 b6
  clear xhh xk
  have EE := Lib.hid (eqIntS_two w6 _ _ _ _ _ _ r0 (by omega) G_6.out V_6.out)
  go_wp2_with fail
  go_at_call 12
  refine EE.out.mono ?_
  rintro e w7 ⟨rfl, b7⟩
  have y7 := b7.size
  have PA_7 := Lib.hid (PA_6.out.below b7 PA_6.out.lt)
  have V_7 := Lib.hid (V_6.out.below b7 (by omega))
  have X_7 := Lib.hid (X_6.out.below b7 (by omega))
  have BX_7 := Lib.hid (BX_6.out.below b7 BX_6.out.lt)
  have G_7 := Lib.hid (G_6.out.below b7 (by omega))
  have B7 : Hid (Below (w.alloc (.cells #[.int .i64 s0, .slice a0 len0 cap0] 24)).heap.size (w.alloc (.cells #[.int .i64 s0, .slice a0 len0 cap0] 24)) w7) := Lib.hid (B6.out.trans (b7.mono (by omega)))
  clear PA_6 V_6 X_6 BX_6 G_6 B6 EE
  clear b7
  obtain ⟨kBX0, kBX1⟩ := BX_7.out
  obtain ⟨kPA0, kPA1⟩ := PA_7.out
  have hTa := HT0.out
  have HTA := Lib.hid hTa
  clear hTa
  go_wp2_with fail
  go_region_held_law (fun w' => w'.cell? ⟨w.heap.size, 0, none⟩ = some (.int .i64 s0) ∧ w'.cell? ⟨w.heap.size, 1, none⟩ = some (.slice a0 len0 cap0) ∧ w'.cell? ⟨w4.heap.size, 0, none⟩ = some (.int .i64 s0) ∧ w'.cell? ⟨w4.heap.size, 1, none⟩ = some (.slice xa len0 xc)) (first | exact ⟨pt.c0, pt.c1, xt.c0, xt.c1⟩ | exact ⟨pe.c0, pe.c1, xe.c0, xe.c1⟩ | go_keep)
    (first
      | (go_at_call 10; refine (HTA.out _ (by exact ⟨B7.out.os, B7.out.tape, B7.out.output, B7.out.size, B7.out.block⟩)).mono ?_; rintro e wt ⟨tv, rfl, ot, bt⟩; obtain ⟨ta, tc, rfl⟩ := ot.any; have pt := BoxZ.below (g := w.heap.size) (s := s0) (v := .slice a0 len0 cap0) (h := by exact ⟨PA_7.out.c0, PA_7.out.c1⟩) bt PA_7.out.lt; have xt := BoxZ.below (g := w4.heap.size) (s := s0) (v := .slice xa len0 xc) (h := by exact ⟨BX_7.out.c0, BX_7.out.c1⟩) bt BX_7.out.lt; have yt := bt.size)
      | (go_at_call 13; refine (eqPuzzle_two wt _ _ _ _ _ _ s0 z0 (by omega) (OwnIClue.below (h := by exact ⟨X_7.out.1, X_7.out.2⟩) bt (by show _ ≤ w7.heap.size; omega)) (OwnIClue.of ot)).mono ?_; rintro e wf ⟨rfl, be⟩; have pe := pt.below be pt.lt; have xe := xt.below be xt.lt))
  have bf : Below w7.heap.size w7 wf := (show Below w7.heap.size w7 wt from ⟨bt.os, bt.tape, bt.output, bt.size, bt.block⟩).trans (be.mono bt.size)
  have y8 := bf.size
  have PA_8 := Lib.hid (PA_7.out.below bf PA_7.out.lt)
  have V_8 := Lib.hid (V_7.out.below bf (by omega))
  have X_8 := Lib.hid (X_7.out.below bf (by omega))
  have BX_8 := Lib.hid (BX_7.out.below bf BX_7.out.lt)
  have G_8 := Lib.hid (G_7.out.below bf (by omega))
  have B8 : Hid (Below (w.alloc (.cells #[.int .i64 s0, .slice a0 len0 cap0] 24)).heap.size (w.alloc (.cells #[.int .i64 s0, .slice a0 len0 cap0] 24)) wf) := Lib.hid (B7.out.trans (bf.mono (by omega)))
  clear PA_7 V_7 X_7 BX_7 G_7 B7 kBX0 kBX1 kPA0 kPA1 HTA bt be ot pt xt pe xe yt bf
  obtain ⟨kBX0, kBX1⟩ := BX_8.out
  have EE := Lib.hid (markPuzzle_in wf _ _ _ s0 z0 (by omega) (by omega) X_8.out)
  go_wp2_with fail
  go_at_call 14
  refine EE.out.mono ?_
  rintro e w9 ⟨rfl, o9, b9⟩
  have y9 := b9.size
  have PA_9 := Lib.hid (PA_8.out.betw b9 (by omega))
  have V_9 := Lib.hid (V_8.out.betw b9 (by omega) (by omega))
  have BX_9 := Lib.hid (BX_8.out.betw b9 (by omega))
  have G_9 := Lib.hid (G_8.out.betw b9 (by omega) (by omega))
  have B9 : Hid (Below (w.alloc (.cells #[.int .i64 s0, .slice a0 len0 cap0] 24)).heap.size (w.alloc (.cells #[.int .i64 s0, .slice a0 len0 cap0] 24)) w9) := Lib.hid (betw_below B8.out b9 (by omega))
  clear PA_8 V_8 X_8 BX_8 G_8 B8 EE kBX0 kBX1
  have X_9 := Lib.hid o9
  clear o9 b9
  rw [HZ0.out] at X_9 ⊢
  have EE := Lib.hid (eqIntS_two w9 _ _ _ _ _ _ r0 (by omega) G_9.out V_9.out)
  go_wp2_with fail
  go_at_call 12
  refine EE.out.mono ?_
  rintro e w10 ⟨rfl, b10⟩
  have y10 := b10.size
  have PA_10 := Lib.hid (PA_9.out.below b10 PA_9.out.lt)
  have V_10 := Lib.hid (V_9.out.below b10 (by omega))
  have X_10 := Lib.hid (X_9.out.below b10 (by omega))
  have BX_10 := Lib.hid (BX_9.out.below b10 BX_9.out.lt)
  have G_10 := Lib.hid (G_9.out.below b10 (by omega))
  have B10 : Hid (Below (w.alloc (.cells #[.int .i64 s0, .slice a0 len0 cap0] 24)).heap.size (w.alloc (.cells #[.int .i64 s0, .slice a0 len0 cap0] 24)) w10) := Lib.hid (B9.out.trans (b10.mono (by omega)))
  clear PA_9 V_9 X_9 BX_9 G_9 B9 EE
  clear b10
  clear X_10 BX_10
  have EE := Lib.hid (markIntS_in w10 _ _ _ r0 1 (by omega) (by omega) (by omega) G_10.out)
  go_wp2_with fail
  go_at_call 15
  refine EE.out.mono ?_
  rintro e w11 ⟨rfl, o11, b11⟩
  have y11 := b11.size
  have PA_11 := Lib.hid (PA_10.out.betw b11 (by omega))
  have V_11 := Lib.hid (V_10.out.betw b11 (by omega) (by omega))
  have B11 : Hid (Below (w.alloc (.cells #[.int .i64 s0, .slice a0 len0 cap0] 24)).heap.size (w.alloc (.cells #[.int .i64 s0, .slice a0 len0 cap0] 24)) w11) := Lib.hid (betw_below B10.out b11 (by omega))
  clear PA_10 V_10 G_10 B10 EE
  have G_11 := Lib.hid o11
  clear o11 b11
  rw [← HN0.out] at G_11 ⊢
  have EE := Lib.hid (heldIntS_in w11 _ _ _ n0 1 (by omega) (by omega) (by omega) G_11.out)
  go_wp2_with fail
  go_at_call 16
  refine EE.out.mono ?_
  rintro e ww ⟨rfl, rfl⟩
  clear EE
  obtain ⟨kPA0, kPA1⟩ := PA_11.out
  have hT := HT0.out w11 B11.out
  have HTT := Lib.hid hT
  clear hT
  go_wp2_with fail
  go_at_call 10
  refine HTT.out.mono ?_
  rintro e w12 ⟨dv, rfl, o12, b12⟩
  have y12 := b12.size
  have PA_12 := Lib.hid (PA_11.out.below b12 PA_11.out.lt)
  have V_12 := Lib.hid (V_11.out.below b12 (by omega))
  have G_12 := Lib.hid (G_11.out.below b12 (by omega))
  have B12 : Hid (Below (w.alloc (.cells #[.int .i64 s0, .slice a0 len0 cap0] 24)).heap.size (w.alloc (.cells #[.int .i64 s0, .slice a0 len0 cap0] 24)) w12) := Lib.hid (B11.out.trans (b12.mono (by omega)))
  clear PA_11 V_11 G_11 B11 HTT kPA0 kPA1
  have D_12 := Lib.hid (OwnIClue.of o12)
  obtain ⟨da, dc, de, dh, dk⟩ := D_12.out.1.cameC
  rw [HZ0.out] at de dh dk
  subst de
  clear o12 b12
  have CC := Lib.hid (HI.out w12 da dc dh dk)
  go_wp2_with fail
  go_at_call 11
  refine CC.out.mono ?_
  rintro e w13 ⟨hv, rfl, o13, b13⟩
  have y13 := b13.size
  have PA_13 := Lib.hid (PA_12.out.below b13 PA_12.out.lt)
  have V_13 := Lib.hid (V_12.out.below b13 (by omega))
  have G_13 := Lib.hid (G_12.out.below b13 (by omega))
  have D_13 := Lib.hid (D_12.out.below b13 (by omega))
  have B13 : Hid (Below (w.alloc (.cells #[.int .i64 s0, .slice a0 len0 cap0] 24)).heap.size (w.alloc (.cells #[.int .i64 s0, .slice a0 len0 cap0] 24)) w13) := Lib.hid (B12.out.trans (b13.mono (by omega)))
  clear PA_12 V_12 G_12 D_12 B12 CC
  have H_13 := Lib.hid (OwnI.of o13)
  obtain ⟨ha, hc, he⟩ := H_13.out.1.any
  rw [← HN0.out] at he
  subst he
  clear o13 b13
  clear dh dk
  clear D_13
  have EE := Lib.hid (eqIntS_two w13 _ _ _ _ _ _ r0 (by omega) H_13.out V_13.out)
  go_wp2_with fail
  go_at_call 12
  refine EE.out.mono ?_
  rintro e w14 ⟨rfl, b14⟩
  have y14 := b14.size
  have PA_14 := Lib.hid (PA_13.out.below b14 PA_13.out.lt)
  have V_14 := Lib.hid (V_13.out.below b14 (by omega))
  have G_14 := Lib.hid (G_13.out.below b14 (by omega))
  have H_14 := Lib.hid (H_13.out.below b14 (by omega))
  have B14 : Hid (Below (w.alloc (.cells #[.int .i64 s0, .slice a0 len0 cap0] 24)).heap.size (w.alloc (.cells #[.int .i64 s0, .slice a0 len0 cap0] 24)) w14) := Lib.hid (B13.out.trans (b14.mono (by omega)))
  clear PA_13 V_13 G_13 H_13 B13 EE
  clear b14
  clear H_14
  have EE := Lib.hid (heldIntS_in w14 _ _ _ n0 1 (by omega) (by omega) (by omega) G_14.out)
  go_wp2_with fail
  go_at_call 16
  refine EE.out.mono ?_
  rintro e ww ⟨rfl, rfl⟩
  clear EE
  go_wp2
  go_ret
  exact ⟨rfl, HW0.out.trans (B14.out.mono HW0.out.size)⟩

set_option maxHeartbeats 1000000 in
theorem walkFnExactNeedlessClues (s0 : Int) (a0 : Option Addr) (len0 cap0 : Nat) (z0 : List RClue) (w : World) (hc0 : CameClue w a0 len0 z0) (hk0 : len0 ≤ 9223372036854775807) :
    Calls Try.prog 3 #[.agg #[.int .i64 s0, .slice a0 len0 cap0]] w fun e w' => e = .returned (.bool true) ∧ Below w.heap.size w w' := by
  exact lawNeedlessClues w s0 a0 len0 cap0 z0 (outNeedlessClues_0 s0 z0) (outNeedlessClues_1 s0 z0) (lenNeedlessClues_0 s0 z0) hc0 hk0
    (fun hl => fun w a cap hc hk => specNeedlessClues_any w s0 a len0 cap z0 hl hc hk)
    (fun hl => fun w a cap hc hk => implNeedlessClues_any w s0 a len0 cap z0 hl hc hk)

end Go.Proofs.Ytodlpdbmiicdfab
