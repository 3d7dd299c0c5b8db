/- The walk of the law FnExactHeardBy, out of the contracts of its two functions. -/
import Derived.Test.YtmlamcimncfmcaaKinds
import Derived.Test.YtmlamcimncfmcaaRSignal
import Derived.Test.YtmlamcimncfmcaaSid
import Derived.Test.YtmlamcimncfmcaaSjd
namespace Go.Proofs.Ytmlamcimncfmcaa
open Go.ChangeShapes Go.WideShapes Go.ChangeAt Go.RowKit

set_option maxHeartbeats 4000000 in
theorem lawHeardBy (w : World) (p0 : Int) (a1 : Option Addr) (len1 cap1 : Nat) (z1 : List RSignal) (p2 : Int) (r0 : List Int) (r1 : Bool) (ho0 : r0.length ≤ 4611686018427387904) (hc1 : CameSignal w a1 len1 z1) (hk1 : len1 ≤ 9223372036854775807)
    (hS : len1 ≤ 1048576 → ∀ (w : World) (a1 : Option Addr) (cap1 : Nat), CameSignal w a1 len1 z1 → (len1 ≤ cap1 ∧ cap1 ≤ 9223372036854775807) → Calls Try.prog 32 #[.int .i64 p0, .slice a1 len1 cap1, .int .i64 p2] w fun e w' => ∃ v0, e = .returned (.tuple #[v0, .bool r1]) ∧ Own w' w.heap.size v0 r0 ∧ Below w.heap.size w w')
    (hI : len1 ≤ 1048576 → ∀ (w : World) (a1 : Option Addr) (cap1 : Nat), CameSignal w a1 len1 z1 → (len1 ≤ cap1 ∧ cap1 ≤ 9223372036854775807) → Calls Try.prog 33 #[.int .i64 p0, .slice a1 len1 cap1, .int .i64 p2] w fun e w' => ∃ v0, e = .returned (.tuple #[v0, .bool r1]) ∧ Own w' w.heap.size v0 r0 ∧ Below w.heap.size w w') :
    Calls Try.prog 9 #[.int .i64 p0, .slice a1 len1 cap1, .int .i64 p2] w fun e w' => e = .returned (.bool true) ∧ Below w.heap.size w w' := by
  have HS := Lib.hid hS
  have HI := Lib.hid hI
  have HZ1 : Hid (z1.length = len1) := Lib.hid hc1.1
  have HT1 := Lib.hid (fun w2 (hl1 : len1 ≤ 1048576) (h : Below w.heap.size w w2) => toSignalS_any w2 a1 len1 cap1 z1 hl1 (hc1.below h))
  have HX1 := Lib.hid (szSignalS_any w a1 len1 cap1 hk1)
  obtain ⟨n0, hn0⟩ : ∃ n, n = r0.length := ⟨_, rfl⟩
  have HN0 := Lib.hid hn0
  have hm0 : n0 ≤ 4611686018427387904 := by omega
  clear hn0
  clear hS hI hc1
  have B0 : Hid (Below w.heap.size w w) := Lib.hid (Below.refl _ _)
  go_enter Try.func9, Try.ntmps9
  go_wp2_with fail
  go_at_call 13
  refine HX1.out.mono ?_
  rintro e w1 ⟨r, rfl, hr0, hr1, hr2, b1⟩
  have y1 := b1.size
  have B1 : Hid (Below w.heap.size w w1) := B0.out.trans (b1.mono (by omega))
  clear B0 b1 HX1
  by_cases hneg : r < 0
  · clear hr2
    go_wp2
    go_ret
    exact ⟨rfl, B1.out⟩
  have hl1 : len1 ≤ 1048576 := hr2 (by omega)
  have hzl1 : z1.length ≤ 1048576 := by have := HZ1.out; omega
  skip
  skip
  have HT1 := Lib.hid (fun w2 h => HT1.out w2 hl1 h)
  have HS := Lib.hid (HS.out hl1)
  have HI := Lib.hid (HI.out hl1)
  clear hr2
  go_wp2_with fail
  go_at_call 15
  refine (HT1.out w1 B1.out).mono ?_
  rintro e w2 ⟨c1, rfl, o2, b2⟩
  have y2 := b2.size
  have B2 : Hid (Below w.heap.size w w2) := B1.out.trans (b2.mono (by omega))
  clear B1
  have C1_2 := Lib.hid (OwnISignal.of o2)
  clear o2 b2
  obtain ⟨ca1, cc1, ce1, ch1, ck1⟩ := C1_2.out.1.cameC
  rw [HZ1.out] at ce1 ch1 ck1
  subst ce1
  have C2 := Lib.hid (HS.out w2 ca1 cc1 ch1 ck1)
  clear ch1 ck1
  go_wp2_with fail
  go_at_call 32
  refine (C2.out).mono ?_
  rintro e w3 ⟨v0, rfl, qv0, b3⟩
  have y3 := b3.size
  have C1_3 := Lib.hid (C1_2.out.below b3 (by omega))
  have B3 : Hid (Below w.heap.size w w3) := B2.out.trans (b3.mono (by omega))
  clear C1_2 B2
  have V0_3 := Lib.hid (OwnI.of qv0)
  clear qv0 b3
  clear C1_3
  go_wp2_with fail
  go_at_call 15
  refine (HT1.out w3 B3.out).mono ?_
  rintro e w4 ⟨x1, rfl, o4, b4⟩
  have y4 := b4.size
  have V0_4 := Lib.hid (V0_3.out.below b4 (by omega))
  have B4 : Hid (Below w.heap.size w w4) := B3.out.trans (b4.mono (by omega))
  clear V0_3 B3
  have X1_4 := Lib.hid (OwnISignal.of o4)
  clear o4 b4
  obtain ⟨xa1, xc1, xe1, xh1, xk1⟩ := X1_4.out.1.cameC
  rw [HZ1.out] at xe1 xh1 xk1
  subst xe1
  have C4 := Lib.hid (HI.out w4 xa1 xc1 xh1 xk1)
  clear xh1 xk1
  go_wp2_with fail
  go_at_call 33
  refine (C4.out).mono ?_
  rintro e w5 ⟨g0, rfl, qg0, b5⟩
  have y5 := b5.size
  have V0_5 := Lib.hid (V0_4.out.below b5 (by omega))
  have X1_5 := Lib.hid (X1_4.out.below b5 (by omega))
  have B5 : Hid (Below w.heap.size w w5) := B4.out.trans (b5.mono (by omega))
  clear V0_4 X1_4 B4
  have G0_5 := Lib.hid (OwnI.of qg0)
  clear qg0 b5
  go_wp2_with fail
  go_at_call 25
  refine (eqIntS_two w5 _ _ _ _ _ _ r0 ho0 G0_5.out V0_5.out).mono ?_
  rintro e w6 ⟨rfl, b6⟩
  have y6 := b6.size
  have V0_6 := Lib.hid (V0_5.out.below b6 (by omega))
  have X1_6 := Lib.hid (X1_5.out.below b6 (by omega))
  have G0_6 := Lib.hid (G0_5.out.below b6 (by omega))
  have B6 : Hid (Below w.heap.size w w6) := B5.out.trans (b6.mono (by omega))
  clear V0_5 X1_5 G0_5 B5
  clear b6
  go_wp2_with fail
  go_at_call 15
  refine (HT1.out w6 B6.out).mono ?_
  rintro e w7 ⟨t1, rfl, o7, b7⟩
  have y7 := b7.size
  have V0_7 := Lib.hid (V0_6.out.below b7 (by omega))
  have X1_7 := Lib.hid (X1_6.out.below b7 (by omega))
  have G0_7 := Lib.hid (G0_6.out.below b7 (by omega))
  have B7 : Hid (Below w.heap.size w w7) := B6.out.trans (b7.mono (by omega))
  clear V0_6 X1_6 G0_6 B6
  have T1_7 := Lib.hid (OwnISignal.of o7)
  clear o7 b7
  go_wp2_with fail
  go_at_call 17
  refine (eqSignalS_two w7 _ _ _ _ _ _ z1 (by omega) X1_7.out T1_7.out).mono ?_
  rintro e w8 ⟨rfl, b8⟩
  have y8 := b8.size
  have V0_8 := Lib.hid (V0_7.out.below b8 (by omega))
  have X1_8 := Lib.hid (X1_7.out.below b8 (by omega))
  have G0_8 := Lib.hid (G0_7.out.below b8 (by omega))
  have T1_8 := Lib.hid (T1_7.out.below b8 (by omega))
  have B8 : Hid (Below w.heap.size w w8) := B7.out.trans (b8.mono (by omega))
  clear V0_7 X1_7 G0_7 T1_7 B7
  clear b8
  clear T1_8
  go_wp2_with fail
  go_at_call 34
  refine (markSignalS_in w8 _ _ _ z1 (by omega) X1_8.out).mono ?_
  rintro e w9 ⟨rfl, o9, b9⟩
  have y9 := b9.size
  have V0_9 := Lib.hid (V0_8.out.betw b9 (by omega) (by omega))
  have G0_9 := Lib.hid (G0_8.out.betw b9 (by omega) (by omega))
  have B9 : Hid (Below w.heap.size w w9) := betw_below B8.out b9 (by omega)
  clear V0_8 X1_8 G0_8 B8
  have X1_9 := Lib.hid o9
  clear o9 b9
  rw [HZ1.out]
  go_wp2_with fail
  go_at_call 25
  refine (eqIntS_two w9 _ _ _ _ _ _ r0 ho0 G0_9.out V0_9.out).mono ?_
  rintro e w10 ⟨rfl, b10⟩
  have y10 := b10.size
  have V0_10 := Lib.hid (V0_9.out.below b10 (by omega))
  have X1_10 := Lib.hid (X1_9.out.below b10 (by omega))
  have G0_10 := Lib.hid (G0_9.out.below b10 (by omega))
  have B10 : Hid (Below w.heap.size w w10) := B9.out.trans (b10.mono (by omega))
  clear V0_9 X1_9 G0_9 B9
  clear b10
  clear X1_10
  go_wp2_with fail
  go_at_call 26
  refine (markIntS_in w10 _ _ _ r0 (1) ho0 (by omega) (by omega) G0_10.out).mono ?_
  rintro e w11 ⟨rfl, o11, b11⟩
  have y11 := b11.size
  have V0_11 := Lib.hid (V0_10.out.betw b11 (by omega) (by omega))
  have B11 : Hid (Below w.heap.size w w11) := betw_below B10.out b11 (by omega)
  clear V0_10 G0_10 B10
  have G0_11 := Lib.hid o11
  clear o11 b11
  rw [← HN0.out] at G0_11 ⊢
  go_wp2_with fail
  go_at_call 27
  refine (heldIntS_in w11 _ _ _ n0 1 hm0 (by omega) (by omega) G0_11.out).mono ?_
  rintro e ww ⟨rfl, rfl⟩
  go_wp2_with fail
  go_at_call 15
  refine (HT1.out w11 B11.out).mono ?_
  rintro e w12 ⟨d1, rfl, o12, b12⟩
  have y12 := b12.size
  have V0_12 := Lib.hid (V0_11.out.below b12 (by omega))
  have G0_12 := Lib.hid (G0_11.out.below b12 (by omega))
  have B12 : Hid (Below w.heap.size w w12) := B11.out.trans (b12.mono (by omega))
  clear V0_11 G0_11 B11
  have D1_12 := Lib.hid (OwnISignal.of o12)
  clear o12 b12
  obtain ⟨da1, dc1, de1, dh1, dk1⟩ := D1_12.out.1.cameC
  rw [HZ1.out] at de1 dh1 dk1
  subst de1
  have C12 := Lib.hid (HI.out w12 da1 dc1 dh1 dk1)
  clear dh1 dk1
  go_wp2_with fail
  go_at_call 33
  refine (C12.out).mono ?_
  rintro e w13 ⟨h0, rfl, qh0, b13⟩
  have y13 := b13.size
  have V0_13 := Lib.hid (V0_12.out.below b13 (by omega))
  have G0_13 := Lib.hid (G0_12.out.below b13 (by omega))
  have D1_13 := Lib.hid (D1_12.out.below b13 (by omega))
  have B13 : Hid (Below w.heap.size w w13) := B12.out.trans (b13.mono (by omega))
  clear V0_12 G0_12 D1_12 B12
  have H0_13 := Lib.hid (OwnI.of qh0)
  clear qh0 b13
  clear D1_13
  go_wp2_with fail
  go_at_call 25
  refine (eqIntS_two w13 _ _ _ _ _ _ r0 ho0 H0_13.out V0_13.out).mono ?_
  rintro e w14 ⟨rfl, b14⟩
  have y14 := b14.size
  have V0_14 := Lib.hid (V0_13.out.below b14 (by omega))
  have G0_14 := Lib.hid (G0_13.out.below b14 (by omega))
  have H0_14 := Lib.hid (H0_13.out.below b14 (by omega))
  have B14 : Hid (Below w.heap.size w w14) := B13.out.trans (b14.mono (by omega))
  clear V0_13 G0_13 H0_13 B13
  clear b14
  go_wp2_with fail
  go_at_call 27
  refine (heldIntS_in w14 _ _ _ n0 1 hm0 (by omega) (by omega) G0_14.out).mono ?_
  rintro e ww ⟨rfl, rfl⟩
  go_wp2
  go_ret
  exact ⟨rfl, B14.out⟩

set_option maxHeartbeats 1000000 in
theorem walkFnExactHeardBy (p0 : Int) (a1 : Option Addr) (len1 cap1 : Nat) (z1 : List RSignal) (p2 : Int) (wf0 : (Lit.int .i64 p0).wf = true) (wf2 : (Lit.int .i64 p2).wf = true) (w : World) (hc1 : CameSignal w a1 len1 z1) (hk1 : len1 ≤ 9223372036854775807) :
    Calls Try.prog 9 #[.int .i64 p0, .slice a1 len1 cap1, .int .i64 p2] w fun e w' => e = .returned (.bool true) ∧ Below w.heap.size w w' := by
  exact lawHeardBy w p0 a1 len1 cap1 z1 p2 (outHeardBy_0 p0 z1 p2) (outHeardBy_1 p0 z1 p2) (lenHeardBy_0 p0 z1 p2) hc1 hk1
    (fun hl1 => fun w a1 cap1 hc1 hk1 => specHeardBy_any w p0 a1 len1 cap1 z1 p2 wf0 wf2 hl1 hc1)
    (fun hl1 => fun w a1 cap1 hc1 hk1 => implHeardBy_any w p0 a1 len1 cap1 z1 p2 wf0 wf2 hl1 hc1)

end Go.Proofs.Ytmlamcimncfmcaa
