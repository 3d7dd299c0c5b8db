/- The walk of the law FnExactHarderPuzzle (a puzzle by value), out of the contracts of its two functions. -/
import Derived.Test.YtodlpdbmiicdfabKinds
import Derived.Test.YtodlpdbmiicdfabRPuzzle
import Derived.Test.YtodlpdbmiicdfabPzn
import Derived.Test.YtodlpdbmiicdfabZs
namespace Go.Proofs.Ytodlpdbmiicdfab
open Go.ChangeShapes Go.WideShapes Go.ChangeAt Go.RowKit

set_option maxHeartbeats 8000000 in
theorem lawHarderPuzzle (w : World) (s0 : Int) (a0 : Option Addr) (len0 cap0 : Nat) (z0 : List RClue) (r0 : Int) (r1 : List RClue) (r2 : Bool) (ho : r1.length ≤ 1048576) (hc0 : CameClue w a0 len0 z0) (hk0 : len0 ≤ 9223372036854775807)
    (hS : len0 ≤ 1048576 → ∀ (w : World) (a0 : Option Addr) (cap0 : Nat), CameClue w a0 len0 z0 → (len0 ≤ cap0 ∧ cap0 ≤ 9223372036854775807) → Calls Try.prog 21 #[.agg #[.int .i64 s0, .slice a0 len0 cap0]] w fun e w' => ∃ v0, e = .returned (.tuple #[.agg #[.int .i64 r0, v0], .bool r2]) ∧ OwnClue w' w.heap.size v0 r1 ∧ Below w.heap.size w w')
    (hI : len0 ≤ 1048576 → ∀ (w : World) (a0 : Option Addr) (cap0 : Nat), CameClue w a0 len0 z0 → (len0 ≤ cap0 ∧ cap0 ≤ 9223372036854775807) → Calls Try.prog 22 #[.agg #[.int .i64 s0, .slice a0 len0 cap0]] w fun e w' => ∃ v0, e = .returned (.tuple #[.agg #[.int .i64 r0, v0], .bool r2]) ∧ OwnClue w' w.heap.size v0 r1 ∧ Below w.heap.size w w') :
    Calls Try.prog 6 #[.agg #[.int .i64 s0, .slice a0 len0 cap0]] w fun e w' => e = .returned (.bool true) ∧ Below w.heap.size w w' := by
  have HS := Lib.hid hS
  have HI := Lib.hid hI
  have HZ0 : Hid (z0.length = len0) := Lib.hid hc0.1
  have HW0 : Hid (Below w.heap.size w (w.alloc (.cells #[.int .i64 s0, .slice a0 len0 cap0] 24))) := Lib.hid ((Below.refl _ _).alloc (Nat.le_refl _) _)
  have HT0 := Lib.hid (fun w2 (hl0 : len0 ≤ 1048576) (h : Below (w.alloc (.cells #[.int .i64 s0, .slice a0 len0 cap0] 24)).heap.size (w.alloc (.cells #[.int .i64 s0, .slice a0 len0 cap0] 24)) w2) => toPuzzle_any w2 s0 a0 len0 cap0 z0 hl0 (hc0.below (HW0.out.trans (h.mono HW0.out.size))))
  have HX0 := Lib.hid (szPuzzle_any (w.alloc (.cells #[.int .i64 s0, .slice a0 len0 cap0] 24)) s0 a0 len0 cap0 hk0)
  have y0 : (w.alloc (.cells #[.int .i64 s0, .slice a0 len0 cap0] 24)).heap.size = w.heap.size + 1 := rz_size1 _ _
  obtain ⟨n0, hn0⟩ : ∃ n, n = r1.length := ⟨_, rfl⟩
  have HN0 := Lib.hid hn0
  have hm0 : n0 ≤ 1048576 := by omega
  clear hn0
  clear hS hI hc0
  have B0 : Hid (Below (w.alloc (.cells #[.int .i64 s0, .slice a0 len0 cap0] 24)).heap.size (w.alloc (.cells #[.int .i64 s0, .slice a0 len0 cap0] 24)) (w.alloc (.cells #[.int .i64 s0, .slice a0 len0 cap0] 24))) := Lib.hid (Below.refl _ _)
  have PA_0 : Hid (BoxZ (w.alloc (.cells #[.int .i64 s0, .slice a0 len0 cap0] 24)) w.heap.size s0 (.slice a0 len0 cap0)) := Lib.hid (BoxZ.new w s0 _ _)
  skip
  obtain ⟨k0, k1⟩ := PA_0.out
  go_enter Try.func6, Try.ntmps6
  go_wp2_with fail
  go_at_call 8
  refine HX0.out.mono ?_
  rintro e w1 ⟨r, rfl, hr0, hr1, hr2, b1⟩
  have y1 := b1.size
  have PA_1 := Lib.hid (PA_0.out.below b1 PA_0.out.lt)
  skip
  have B1 : Hid (Below (w.alloc (.cells #[.int .i64 s0, .slice a0 len0 cap0] 24)).heap.size (w.alloc (.cells #[.int .i64 s0, .slice a0 len0 cap0] 24)) w1) := Lib.hid b1
  clear B0 b1 HX0 PA_0 k0 k1
  by_cases hneg : r < 0
  · clear hr2
    go_wp2
    go_ret
    exact ⟨rfl, HW0.out.trans (B1.out.mono HW0.out.size)⟩
  have hl0 : len0 ≤ 1048576 := hr2 (by omega)
  have hzl0 : z0.length ≤ 1048576 := by have := HZ0.out; omega
  have HT0 := Lib.hid (fun w2 h => HT0.out w2 hl0 h)
  have HS := Lib.hid (HS.out hl0)
  have HI := Lib.hid (HI.out hl0)
  clear hr2
  obtain ⟨kPA0, kPA1⟩ := PA_1.out
  have hT := HT0.out w1 B1.out
  have HTT := Lib.hid hT
  clear hT
  go_wp2_with fail
  go_at_call 10
  refine HTT.out.mono ?_
  rintro e w2 ⟨cv, rfl, o2, b2⟩
  have y2 := b2.size
  have PA_2 := Lib.hid (PA_1.out.below b2 PA_1.out.lt)
  have B2 : Hid (Below (w.alloc (.cells #[.int .i64 s0, .slice a0 len0 cap0] 24)).heap.size (w.alloc (.cells #[.int .i64 s0, .slice a0 len0 cap0] 24)) w2) := Lib.hid (B1.out.trans (b2.mono (by omega)))
  clear PA_1 B1 HTT kPA0 kPA1
  have C_2 := Lib.hid (OwnIClue.of o2)
  obtain ⟨ca, cc, ce, ch, ck⟩ := C_2.out.1.cameC
  rw [HZ0.out] at ce ch ck
  subst ce
  clear o2 b2
  have CC := Lib.hid (HS.out w2 ca cc ch ck)
  go_wp2_with fail
  go_at_call 21
  refine CC.out.mono ?_
  rintro e w3 ⟨vv, rfl, o3, b3⟩
  have y3 := b3.size
  have PA_3 := Lib.hid (PA_2.out.below b3 PA_2.out.lt)
  have C_3 := Lib.hid (C_2.out.below b3 (by omega))
  have B3 : Hid (Below (w.alloc (.cells #[.int .i64 s0, .slice a0 len0 cap0] 24)).heap.size (w.alloc (.cells #[.int .i64 s0, .slice a0 len0 cap0] 24)) w3) := Lib.hid (B2.out.trans (b3.mono (by omega)))
  clear PA_2 C_2 B2 CC
  have V_3 := Lib.hid (OwnIClue.of o3)
  obtain ⟨va, vc, ve⟩ := V_3.out.1.any
  rw [← HN0.out] at ve
  subst ve
  clear o3 b3
  have y4 : (w3.alloc (.cells #[.int .i64 r0, .slice va n0 vc] 31)).heap.size = w3.heap.size + 1 := rz_size1 _ _
  have PA_4 := Lib.hid (PA_3.out.alloc (.cells #[.int .i64 r0, .slice va n0 vc] 31))
  have C_4 := Lib.hid (C_3.out.below ((Below.refl w3.heap.size w3).alloc (Nat.le_refl _) (.cells #[.int .i64 r0, .slice va n0 vc] 31)) (by omega))
  have V_4 := Lib.hid (V_3.out.below ((Below.refl w3.heap.size w3).alloc (Nat.le_refl _) (.cells #[.int .i64 r0, .slice va n0 vc] 31)) (by omega))
  have BV_4 : Hid (BoxZ (w3.alloc (.cells #[.int .i64 r0, .slice va n0 vc] 31)) w3.heap.size r0 (.slice va n0 vc)) := Lib.hid (BoxZ.new w3 _ _ _)
  have B4 : Hid (Below (w.alloc (.cells #[.int .i64 s0, .slice a0 len0 cap0] 24)).heap.size (w.alloc (.cells #[.int .i64 s0, .slice a0 len0 cap0] 24)) (w3.alloc (.cells #[.int .i64 r0, .slice va n0 vc] 31))) := Lib.hid (B3.out.alloc (by have := B3.out.size; omega) _)
  clear PA_3 C_3 V_3 B3
  clear ch ck
  clear C_4
  obtain ⟨kPA0, kPA1⟩ := PA_4.out
  have hT := HT0.out (w3.alloc (.cells #[.int .i64 r0, .slice va n0 vc] 31)) B4.out
  have HTT := Lib.hid hT
  clear hT
  go_wp2_with fail
  go_at_call 10
  refine HTT.out.mono ?_
  rintro e w5 ⟨xv, rfl, o5, b5⟩
  have y5 := b5.size
  have PA_5 := Lib.hid (PA_4.out.below b5 PA_4.out.lt)
  have V_5 := Lib.hid (V_4.out.below b5 (by omega))
  have BV_5 := Lib.hid (BV_4.out.below b5 BV_4.out.lt)
  have B5 : Hid (Below (w.alloc (.cells #[.int .i64 s0, .slice a0 len0 cap0] 24)).heap.size (w.alloc (.cells #[.int .i64 s0, .slice a0 len0 cap0] 24)) w5) := Lib.hid (B4.out.trans (b5.mono (by omega)))
  clear PA_4 V_4 BV_4 B4 HTT kPA0 kPA1
  have X_5 := Lib.hid (OwnIClue.of o5)
  obtain ⟨xa, xc, xe, xh, xk⟩ := X_5.out.1.cameC
  rw [HZ0.out] at xe xh xk
  subst xe
  clear o5 b5
  have y6 : (w5.alloc (.cells #[.int .i64 s0, .slice xa len0 xc] 31)).heap.size = w5.heap.size + 1 := rz_size1 _ _
  have PA_6 := Lib.hid (PA_5.out.alloc (.cells #[.int .i64 s0, .slice xa len0 xc] 31))
  have V_6 := Lib.hid (V_5.out.below ((Below.refl w5.heap.size w5).alloc (Nat.le_refl _) (.cells #[.int .i64 s0, .slice xa len0 xc] 31)) (by omega))
  have BV_6 := Lib.hid (BV_5.out.alloc (.cells #[.int .i64 s0, .slice xa len0 xc] 31))
  have X_6 := Lib.hid (X_5.out.below ((Below.refl w5.heap.size w5).alloc (Nat.le_refl _) (.cells #[.int .i64 s0, .slice xa len0 xc] 31)) (by omega))
  have BX_6 : Hid (BoxZ (w5.alloc (.cells #[.int .i64 s0, .slice xa len0 xc] 31)) w5.heap.size s0 (.slice xa len0 xc)) := Lib.hid (BoxZ.new w5 _ _ _)
  have B6 : Hid (Below (w.alloc (.cells #[.int .i64 s0, .slice a0 len0 cap0] 24)).heap.size (w.alloc (.cells #[.int .i64 s0, .slice a0 len0 cap0] 24)) (w5.alloc (.cells #[.int .i64 s0, .slice xa len0 xc] 31))) := Lib.hid (B5.out.alloc (by have := B5.out.size; omega) _)
  clear PA_5 V_5 BV_5 X_5 B5
  have xhh := X_6.out.1.cameC
  clear xh
  obtain ⟨xa', xc', xe, xhh, _⟩ := xhh
  rw [HZ0.out] at xe xhh
  injection xe with xe1 _ xe3
  subst xe1 xe3
  obtain ⟨kBX0, kBX1⟩ := BX_6.out
  have CC := Lib.hid (HI.out (w5.alloc (.cells #[.int .i64 s0, .slice xa len0 xc] 31)) xa xc xhh xk)
  go_wp2_with fail
  go_at_call 22
  refine CC.out.mono ?_
  rintro e w7 ⟨gv, rfl, o7, b7⟩
  have y7 := b7.size
  have PA_7 := Lib.hid (PA_6.out.below b7 PA_6.out.lt)
  have V_7 := Lib.hid (V_6.out.below b7 (by omega))
  have BV_7 := Lib.hid (BV_6.out.below b7 BV_6.out.lt)
  have X_7 := Lib.hid (X_6.out.below b7 (by omega))
  have BX_7 := Lib.hid (BX_6.out.below b7 BX_6.out.lt)
  have B7 : Hid (Below (w.alloc (.cells #[.int .i64 s0, .slice a0 len0 cap0] 24)).heap.size (w.alloc (.cells #[.int .i64 s0, .slice a0 len0 cap0] 24)) w7) := Lib.hid (B6.out.trans (b7.mono (by omega)))
  clear PA_6 V_6 BV_6 X_6 BX_6 B6 CC kBX0 kBX1
  have G_7 := Lib.hid (OwnIClue.of o7)
  obtain ⟨ga, gc, ge⟩ := G_7.out.1.any
  rw [← HN0.out] at ge
  subst ge
  clear o7 b7
  have y8 : (w7.alloc (.cells #[.int .i64 r0, .slice ga n0 gc] 31)).heap.size = w7.heap.size + 1 := rz_size1 _ _
  have PA_8 := Lib.hid (PA_7.out.alloc (.cells #[.int .i64 r0, .slice ga n0 gc] 31))
  have V_8 := Lib.hid (V_7.out.below ((Below.refl w7.heap.size w7).alloc (Nat.le_refl _) (.cells #[.int .i64 r0, .slice ga n0 gc] 31)) (by omega))
  have BV_8 := Lib.hid (BV_7.out.alloc (.cells #[.int .i64 r0, .slice ga n0 gc] 31))
  have X_8 := Lib.hid (X_7.out.below ((Below.refl w7.heap.size w7).alloc (Nat.le_refl _) (.cells #[.int .i64 r0, .slice ga n0 gc] 31)) (by omega))
  have BX_8 := Lib.hid (BX_7.out.alloc (.cells #[.int .i64 r0, .slice ga n0 gc] 31))
  have G_8 := Lib.hid (G_7.out.below ((Below.refl w7.heap.size w7).alloc (Nat.le_refl _) (.cells #[.int .i64 r0, .slice ga n0 gc] 31)) (by omega))
  have BG_8 : Hid (BoxZ (w7.alloc (.cells #[.int .i64 r0, .slice ga n0 gc] 31)) w7.heap.size r0 (.slice ga n0 gc)) := Lib.hid (BoxZ.new w7 _ _ _)
  have B8 : Hid (Below (w.alloc (.cells #[.int .i64 s0, .slice a0 len0 cap0] 24)).heap.size (w.alloc (.cells #[.int .i64 s0, .slice a0 len0 cap0] 24)) (w7.alloc (.cells #[.int .i64 r0, .slice ga n0 gc] 31))) := Lib.hid (B7.out.alloc (by have := B7.out.size; omega) _)
  clear PA_7 V_7 BV_7 X_7 BX_7 G_7 B7
  clear xhh xk
  obtain ⟨kBG0, kBG1⟩ := BG_8.out
  obtain ⟨kBV0, kBV1⟩ := BV_8.out
  have EE := Lib.hid (eqPuzzle_two (w7.alloc (.cells #[.int .i64 r0, .slice ga n0 gc] 31)) _ _ _ _ _ _ r0 r1 (by omega) G_8.out V_8.out)
  go_wp2_with fail
  go_at_call 13
  refine EE.out.mono ?_
  rintro e w9 ⟨rfl, b9⟩
  have y9 := b9.size
  have PA_9 := Lib.hid (PA_8.out.below b9 PA_8.out.lt)
  have V_9 := Lib.hid (V_8.out.below b9 (by omega))
  have BV_9 := Lib.hid (BV_8.out.below b9 BV_8.out.lt)
  have X_9 := Lib.hid (X_8.out.below b9 (by omega))
  have BX_9 := Lib.hid (BX_8.out.below b9 BX_8.out.lt)
  have G_9 := Lib.hid (G_8.out.below b9 (by omega))
  have BG_9 := Lib.hid (BG_8.out.below b9 BG_8.out.lt)
  have B9 : Hid (Below (w.alloc (.cells #[.int .i64 s0, .slice a0 len0 cap0] 24)).heap.size (w.alloc (.cells #[.int .i64 s0, .slice a0 len0 cap0] 24)) w9) := Lib.hid (B8.out.trans (b9.mono (by omega)))
  clear PA_8 V_8 BV_8 X_8 BX_8 G_8 BG_8 B8 EE kBG0 kBG1 kBV0 kBV1
  clear b9
  obtain ⟨kBX0, kBX1⟩ := BX_9.out
  obtain ⟨kPA0, kPA1⟩ := PA_9.out
  have hTa := HT0.out
  have HTA := Lib.hid hTa
  clear hTa
  go_wp2_with fail
  go_region_held_law (fun w' => w'.cell? ⟨w.heap.size, 0, none⟩ = some (.int .i64 s0) ∧ w'.cell? ⟨w.heap.size, 1, none⟩ = some (.slice a0 len0 cap0) ∧ w'.cell? ⟨w5.heap.size, 0, none⟩ = some (.int .i64 s0) ∧ w'.cell? ⟨w5.heap.size, 1, none⟩ = some (.slice xa len0 xc)) (first | exact ⟨pt.c0, pt.c1, xt.c0, xt.c1⟩ | exact ⟨pe.c0, pe.c1, xe.c0, xe.c1⟩ | go_keep)
    (first
      | (go_at_call 10; refine (HTA.out _ (by exact ⟨B9.out.os, B9.out.tape, B9.out.output, B9.out.size, B9.out.block⟩)).mono ?_; rintro e wt ⟨tv, rfl, ot, bt⟩; obtain ⟨ta, tc, rfl⟩ := ot.any; have pt := BoxZ.below (g := w.heap.size) (s := s0) (v := .slice a0 len0 cap0) (h := by exact ⟨PA_9.out.c0, PA_9.out.c1⟩) bt PA_9.out.lt; have xt := BoxZ.below (g := w5.heap.size) (s := s0) (v := .slice xa len0 xc) (h := by exact ⟨BX_9.out.c0, BX_9.out.c1⟩) bt BX_9.out.lt; have yt := bt.size)
      | (go_at_call 13; refine (eqPuzzle_two wt _ _ _ _ _ _ s0 z0 (by omega) (OwnIClue.below (h := by exact ⟨X_9.out.1, X_9.out.2⟩) bt (by show _ ≤ w9.heap.size; omega)) (OwnIClue.of ot)).mono ?_; rintro e wf ⟨rfl, be⟩; have pe := pt.below be pt.lt; have xe := xt.below be xt.lt))
  have bf : Below w9.heap.size w9 wf := (show Below w9.heap.size w9 wt from ⟨bt.os, bt.tape, bt.output, bt.size, bt.block⟩).trans (be.mono bt.size)
  have y10 := bf.size
  have PA_10 := Lib.hid (PA_9.out.below bf PA_9.out.lt)
  have V_10 := Lib.hid (V_9.out.below bf (by omega))
  have BV_10 := Lib.hid (BV_9.out.below bf BV_9.out.lt)
  have X_10 := Lib.hid (X_9.out.below bf (by omega))
  have BX_10 := Lib.hid (BX_9.out.below bf BX_9.out.lt)
  have G_10 := Lib.hid (G_9.out.below bf (by omega))
  have BG_10 := Lib.hid (BG_9.out.below bf BG_9.out.lt)
  have B10 : Hid (Below (w.alloc (.cells #[.int .i64 s0, .slice a0 len0 cap0] 24)).heap.size (w.alloc (.cells #[.int .i64 s0, .slice a0 len0 cap0] 24)) wf) := Lib.hid (B9.out.trans (bf.mono (by omega)))
  clear PA_9 V_9 BV_9 X_9 BX_9 G_9 BG_9 B9 kBX0 kBX1 kPA0 kPA1 HTA bt be ot pt xt pe xe yt bf
  obtain ⟨kBX0, kBX1⟩ := BX_10.out
  have EE := Lib.hid (markPuzzle_in wf _ _ _ s0 z0 (by omega) (by omega) X_10.out)
  go_wp2_with fail
  go_at_call 14
  refine EE.out.mono ?_
  rintro e w11 ⟨rfl, o11, b11⟩
  have y11 := b11.size
  have PA_11 := Lib.hid (PA_10.out.betw b11 (by omega))
  have V_11 := Lib.hid (V_10.out.betw b11 (by omega) (by omega))
  have BV_11 := Lib.hid (BV_10.out.betw b11 (by omega))
  have BX_11 := Lib.hid (BX_10.out.betw b11 (by omega))
  have G_11 := Lib.hid (G_10.out.betw b11 (by omega) (by omega))
  have BG_11 := Lib.hid (BG_10.out.betw b11 (by omega))
  have B11 : Hid (Below (w.alloc (.cells #[.int .i64 s0, .slice a0 len0 cap0] 24)).heap.size (w.alloc (.cells #[.int .i64 s0, .slice a0 len0 cap0] 24)) w11) := Lib.hid (betw_below B10.out b11 (by omega))
  clear PA_10 V_10 BV_10 X_10 BX_10 G_10 BG_10 B10 EE kBX0 kBX1
  have X_11 := Lib.hid o11
  clear o11 b11
  rw [HZ0.out] at X_11 ⊢
  obtain ⟨kBG0, kBG1⟩ := BG_11.out
  obtain ⟨kBV0, kBV1⟩ := BV_11.out
  have EE := Lib.hid (eqPuzzle_two w11 _ _ _ _ _ _ r0 r1 (by omega) G_11.out V_11.out)
  go_wp2_with fail
  go_at_call 13
  refine EE.out.mono ?_
  rintro e w12 ⟨rfl, b12⟩
  have y12 := b12.size
  have PA_12 := Lib.hid (PA_11.out.below b12 PA_11.out.lt)
  have V_12 := Lib.hid (V_11.out.below b12 (by omega))
  have BV_12 := Lib.hid (BV_11.out.below b12 BV_11.out.lt)
  have X_12 := Lib.hid (X_11.out.below b12 (by omega))
  have BX_12 := Lib.hid (BX_11.out.below b12 BX_11.out.lt)
  have G_12 := Lib.hid (G_11.out.below b12 (by omega))
  have BG_12 := Lib.hid (BG_11.out.below b12 BG_11.out.lt)
  have B12 : Hid (Below (w.alloc (.cells #[.int .i64 s0, .slice a0 len0 cap0] 24)).heap.size (w.alloc (.cells #[.int .i64 s0, .slice a0 len0 cap0] 24)) w12) := Lib.hid (B11.out.trans (b12.mono (by omega)))
  clear PA_11 V_11 BV_11 X_11 BX_11 G_11 BG_11 B11 EE kBG0 kBG1 kBV0 kBV1
  clear b12
  clear X_12 BX_12
  obtain ⟨kBG0, kBG1⟩ := BG_12.out
  have EE := Lib.hid (markPuzzle_in w12 _ _ _ r0 r1 (by omega) (by omega) G_12.out)
  go_wp2_with fail
  go_at_call 14
  refine EE.out.mono ?_
  rintro e w13 ⟨rfl, o13, b13⟩
  have y13 := b13.size
  have PA_13 := Lib.hid (PA_12.out.betw b13 (by omega))
  have V_13 := Lib.hid (V_12.out.betw b13 (by omega) (by omega))
  have BV_13 := Lib.hid (BV_12.out.betw b13 (by omega))
  have BG_13 := Lib.hid (BG_12.out.betw b13 (by omega))
  have B13 : Hid (Below (w.alloc (.cells #[.int .i64 s0, .slice a0 len0 cap0] 24)).heap.size (w.alloc (.cells #[.int .i64 s0, .slice a0 len0 cap0] 24)) w13) := Lib.hid (betw_below B12.out b13 (by omega))
  clear PA_12 V_12 BV_12 G_12 BG_12 B12 EE kBG0 kBG1
  have G_13 := Lib.hid o13
  clear o13 b13
  rw [← HN0.out] at G_13 ⊢
  obtain ⟨kBG0, kBG1⟩ := BG_13.out
  have EE := Lib.hid (heldPuzzle_in w13 _ _ _ r0 n0 hm0 (by omega) G_13.out)
  go_wp2_with fail
  go_at_call 23
  refine EE.out.mono ?_
  rintro e w14 ⟨rfl, b14⟩
  have y14 := b14.size
  have PA_14 := Lib.hid (PA_13.out.below b14 PA_13.out.lt)
  have V_14 := Lib.hid (V_13.out.below b14 (by omega))
  have BV_14 := Lib.hid (BV_13.out.below b14 BV_13.out.lt)
  have G_14 := Lib.hid (G_13.out.below b14 (by omega))
  have BG_14 := Lib.hid (BG_13.out.below b14 BG_13.out.lt)
  have B14 : Hid (Below (w.alloc (.cells #[.int .i64 s0, .slice a0 len0 cap0] 24)).heap.size (w.alloc (.cells #[.int .i64 s0, .slice a0 len0 cap0] 24)) w14) := Lib.hid (B13.out.trans (b14.mono (by omega)))
  clear PA_13 V_13 BV_13 G_13 BG_13 B13 EE kBG0 kBG1
  clear b14
  obtain ⟨kPA0, kPA1⟩ := PA_14.out
  have hT := HT0.out w14 B14.out
  have HTT := Lib.hid hT
  clear hT
  go_wp2_with fail
  go_at_call 10
  refine HTT.out.mono ?_
  rintro e w15 ⟨dv, rfl, o15, b15⟩
  have y15 := b15.size
  have PA_15 := Lib.hid (PA_14.out.below b15 PA_14.out.lt)
  have V_15 := Lib.hid (V_14.out.below b15 (by omega))
  have BV_15 := Lib.hid (BV_14.out.below b15 BV_14.out.lt)
  have G_15 := Lib.hid (G_14.out.below b15 (by omega))
  have BG_15 := Lib.hid (BG_14.out.below b15 BG_14.out.lt)
  have B15 : Hid (Below (w.alloc (.cells #[.int .i64 s0, .slice a0 len0 cap0] 24)).heap.size (w.alloc (.cells #[.int .i64 s0, .slice a0 len0 cap0] 24)) w15) := Lib.hid (B14.out.trans (b15.mono (by omega)))
  clear PA_14 V_14 BV_14 G_14 BG_14 B14 HTT kPA0 kPA1
  have D_15 := Lib.hid (OwnIClue.of o15)
  obtain ⟨da, dc, de, dh, dk⟩ := D_15.out.1.cameC
  rw [HZ0.out] at de dh dk
  subst de
  clear o15 b15
  have CC := Lib.hid (HI.out w15 da dc dh dk)
  go_wp2_with fail
  go_at_call 22
  refine CC.out.mono ?_
  rintro e w16 ⟨hv, rfl, o16, b16⟩
  have y16 := b16.size
  have PA_16 := Lib.hid (PA_15.out.below b16 PA_15.out.lt)
  have V_16 := Lib.hid (V_15.out.below b16 (by omega))
  have BV_16 := Lib.hid (BV_15.out.below b16 BV_15.out.lt)
  have G_16 := Lib.hid (G_15.out.below b16 (by omega))
  have BG_16 := Lib.hid (BG_15.out.below b16 BG_15.out.lt)
  have D_16 := Lib.hid (D_15.out.below b16 (by omega))
  have B16 : Hid (Below (w.alloc (.cells #[.int .i64 s0, .slice a0 len0 cap0] 24)).heap.size (w.alloc (.cells #[.int .i64 s0, .slice a0 len0 cap0] 24)) w16) := Lib.hid (B15.out.trans (b16.mono (by omega)))
  clear PA_15 V_15 BV_15 G_15 BG_15 D_15 B15 CC
  have H_16 := Lib.hid (OwnIClue.of o16)
  obtain ⟨ha, hc, he⟩ := H_16.out.1.any
  rw [← HN0.out] at he
  subst he
  clear o16 b16
  have y17 : (w16.alloc (.cells #[.int .i64 r0, .slice ha n0 hc] 31)).heap.size = w16.heap.size + 1 := rz_size1 _ _
  have PA_17 := Lib.hid (PA_16.out.alloc (.cells #[.int .i64 r0, .slice ha n0 hc] 31))
  have V_17 := Lib.hid (V_16.out.below ((Below.refl w16.heap.size w16).alloc (Nat.le_refl _) (.cells #[.int .i64 r0, .slice ha n0 hc] 31)) (by omega))
  have BV_17 := Lib.hid (BV_16.out.alloc (.cells #[.int .i64 r0, .slice ha n0 hc] 31))
  have G_17 := Lib.hid (G_16.out.below ((Below.refl w16.heap.size w16).alloc (Nat.le_refl _) (.cells #[.int .i64 r0, .slice ha n0 hc] 31)) (by omega))
  have BG_17 := Lib.hid (BG_16.out.alloc (.cells #[.int .i64 r0, .slice ha n0 hc] 31))
  have D_17 := Lib.hid (D_16.out.below ((Below.refl w16.heap.size w16).alloc (Nat.le_refl _) (.cells #[.int .i64 r0, .slice ha n0 hc] 31)) (by omega))
  have H_17 := Lib.hid (H_16.out.below ((Below.refl w16.heap.size w16).alloc (Nat.le_refl _) (.cells #[.int .i64 r0, .slice ha n0 hc] 31)) (by omega))
  have BH_17 : Hid (BoxZ (w16.alloc (.cells #[.int .i64 r0, .slice ha n0 hc] 31)) w16.heap.size r0 (.slice ha n0 hc)) := Lib.hid (BoxZ.new w16 _ _ _)
  have B17 : Hid (Below (w.alloc (.cells #[.int .i64 s0, .slice a0 len0 cap0] 24)).heap.size (w.alloc (.cells #[.int .i64 s0, .slice a0 len0 cap0] 24)) (w16.alloc (.cells #[.int .i64 r0, .slice ha n0 hc] 31))) := Lib.hid (B16.out.alloc (by have := B16.out.size; omega) _)
  clear PA_16 V_16 BV_16 G_16 BG_16 D_16 H_16 B16
  clear dh dk
  clear D_17
  obtain ⟨kBH0, kBH1⟩ := BH_17.out
  obtain ⟨kBV0, kBV1⟩ := BV_17.out
  have EE := Lib.hid (eqPuzzle_two (w16.alloc (.cells #[.int .i64 r0, .slice ha n0 hc] 31)) _ _ _ _ _ _ r0 r1 (by omega) H_17.out V_17.out)
  go_wp2_with fail
  go_at_call 13
  refine EE.out.mono ?_
  rintro e w18 ⟨rfl, b18⟩
  have y18 := b18.size
  have PA_18 := Lib.hid (PA_17.out.below b18 PA_17.out.lt)
  have V_18 := Lib.hid (V_17.out.below b18 (by omega))
  have BV_18 := Lib.hid (BV_17.out.below b18 BV_17.out.lt)
  have G_18 := Lib.hid (G_17.out.below b18 (by omega))
  have BG_18 := Lib.hid (BG_17.out.below b18 BG_17.out.lt)
  have H_18 := Lib.hid (H_17.out.below b18 (by omega))
  have BH_18 := Lib.hid (BH_17.out.below b18 BH_17.out.lt)
  have B18 : Hid (Below (w.alloc (.cells #[.int .i64 s0, .slice a0 len0 cap0] 24)).heap.size (w.alloc (.cells #[.int .i64 s0, .slice a0 len0 cap0] 24)) w18) := Lib.hid (B17.out.trans (b18.mono (by omega)))
  clear PA_17 V_17 BV_17 G_17 BG_17 H_17 BH_17 B17 EE kBH0 kBH1 kBV0 kBV1
  clear b18
  clear H_18 BH_18
  obtain ⟨kBG0, kBG1⟩ := BG_18.out
  have EE := Lib.hid (heldPuzzle_in w18 _ _ _ r0 n0 hm0 (by omega) G_18.out)
  go_wp2_with fail
  go_at_call 23
  refine EE.out.mono ?_
  rintro e w19 ⟨rfl, b19⟩
  have y19 := b19.size
  have PA_19 := Lib.hid (PA_18.out.below b19 PA_18.out.lt)
  have V_19 := Lib.hid (V_18.out.below b19 (by omega))
  have BV_19 := Lib.hid (BV_18.out.below b19 BV_18.out.lt)
  have G_19 := Lib.hid (G_18.out.below b19 (by omega))
  have BG_19 := Lib.hid (BG_18.out.below b19 BG_18.out.lt)
  have B19 : Hid (Below (w.alloc (.cells #[.int .i64 s0, .slice a0 len0 cap0] 24)).heap.size (w.alloc (.cells #[.int .i64 s0, .slice a0 len0 cap0] 24)) w19) := Lib.hid (B18.out.trans (b19.mono (by omega)))
  clear PA_18 V_18 BV_18 G_18 BG_18 B18 EE kBG0 kBG1
  clear b19
  go_wp2
  go_ret
  exact ⟨rfl, HW0.out.trans (B19.out.mono HW0.out.size)⟩

set_option maxHeartbeats 1000000 in
theorem walkFnExactHarderPuzzle (s0 : Int) (a0 : Option Addr) (len0 cap0 : Nat) (z0 : List RClue) (w : World) (hc0 : CameClue w a0 len0 z0) (hk0 : len0 ≤ 9223372036854775807) :
    Calls Try.prog 6 #[.agg #[.int .i64 s0, .slice a0 len0 cap0]] w fun e w' => e = .returned (.bool true) ∧ Below w.heap.size w w' := by
  exact lawHarderPuzzle w s0 a0 len0 cap0 z0 (outHarderPuzzle_0 s0 z0) (outHarderPuzzle_1 s0 z0) (outHarderPuzzle_2 s0 z0) (lenHarderPuzzle_1 s0 z0) hc0 hk0
    (fun hl => fun w a cap hc hk => specHarderPuzzle_any w s0 a len0 cap z0 hl hc hk)
    (fun hl => fun w a cap hc _ => implHarderPuzzle_any w s0 a len0 cap z0 hl hc)

end Go.Proofs.Ytodlpdbmiicdfab
