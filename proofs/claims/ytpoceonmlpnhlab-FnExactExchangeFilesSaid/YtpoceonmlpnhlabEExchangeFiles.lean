/- The walk of the law FnExactExchangeFiles, out of the contracts of its two functions. -/
import Derived.Test.YtpoceonmlpnhlabKinds
import Derived.Test.YtpoceonmlpnhlabCa
import Derived.Test.YtpoceonmlpnhlabOwnSS
import Derived.Test.YtpoceonmlpnhlabFia
import Derived.Test.YtpoceonmlpnhlabKm
namespace Go.Proofs.Ytpoceonmlpnhlab
open Go.ChangeShapes Go.WideShapes Go.ChangeAt Go.RowKit

set_option maxHeartbeats 4000000 in
theorem lawExchangeFiles (w : World) (a0 : Option Addr) (len0 cap0 : Nat) (z0 : List (List Int)) (p1 : Int) (p2 : Int) (r0 : List (List Int)) (r1 : Bool) (ho0 : (r0.length ≤ 1000000000 ∧ total r0 ≤ 1000000000)) (hc0 : CameSS w a0 len0 z0) (hk0 : len0 ≤ 9223372036854775807)
    (hS : FitsSS z0 → ∀ (w : World) (a0 : Option Addr) (cap0 : Nat), CameSS w a0 len0 z0 → (len0 ≤ cap0 ∧ cap0 ≤ 9223372036854775807) → Calls Try.prog 22 #[.slice a0 len0 cap0, .int .i64 p1, .int .i64 p2] w fun e w' => ∃ v0, e = .returned (.tuple #[v0, .bool r1]) ∧ OwnSS w' w.heap.size v0 r0 ∧ Below w.heap.size w w')
    (hI : FitsSS z0 → ∀ (w : World) (a0 : Option Addr) (cap0 : Nat), CameSS w a0 len0 z0 → (len0 ≤ cap0 ∧ cap0 ≤ 9223372036854775807) → Calls Try.prog 23 #[.slice a0 len0 cap0, .int .i64 p1, .int .i64 p2] w fun e w' => ∃ v0, e = .returned (.tuple #[v0, .bool r1]) ∧ OwnSS w' w.heap.size v0 r0 ∧ Below w.heap.size w w') :
    Calls Try.prog 7 #[.slice a0 len0 cap0, .int .i64 p1, .int .i64 p2] w fun e w' => e = .returned (.bool true) ∧ Below w.heap.size w w' := by
  have HS := Lib.hid hS
  have HI := Lib.hid hI
  have HZ0 : Hid (z0.length = len0) := Lib.hid hc0.1
  have HT0 := Lib.hid (fun w2 (hl0 : FitsSS z0) (h : Below w.heap.size w w2) => toIntSS_any w2 a0 len0 cap0 z0 hl0 (hc0.below h))
  have HX0 := Lib.hid (szIntSS_any w a0 len0 cap0 z0 hk0 hc0)
  obtain ⟨n0, hn0⟩ : ∃ n, n = total r0 := ⟨_, rfl⟩
  have HN0 := Lib.hid hn0
  have hm0 : n0 ≤ 1000000000 := by omega
  have HF0 := Lib.hid ho0
  clear hn0 ho0
  clear hS hI hc0
  have B0 : Hid (Below w.heap.size w w) := Lib.hid (Below.refl _ _)
  go_enter Try.func7, Try.ntmps7
  go_wp2_with fail
  go_at_call 9
  refine HX0.out.mono ?_
  rintro e w1 ⟨r, rfl, hr0, hr1, hr2, b1⟩
  have y1 := b1.size
  have B1 : Hid (Below w.heap.size w w1) := B0.out.trans (b1.mono (by omega))
  clear B0 b1 HX0
  by_cases hneg : r < 0
  · clear hr2
    go_wp2
    go_ret
    exact ⟨rfl, B1.out⟩
  have hl0 : FitsSS z0 := hr2 (by omega)
  have hzl0 : z0.length ≤ 1048576 := by exact hl0.1
  have HG0 : Hid (z0.length ≤ 1000000000 ∧ total z0 ≤ 1000000000) := Lib.hid hl0.fits
  have htz0 : total z0 ≤ 1048576 := hl0.2
  have HT0 := Lib.hid (fun w2 h => HT0.out w2 hl0 h)
  have HS := Lib.hid (HS.out hl0)
  have HI := Lib.hid (HI.out hl0)
  clear hr2
  go_wp2_with fail
  go_at_call 11
  refine (HT0.out w1 B1.out).mono ?_
  rintro e w2 ⟨c0, rfl, o2, b2⟩
  have y2 := b2.size
  have B2 : Hid (Below w.heap.size w w2) := B1.out.trans (b2.mono (by omega))
  clear B1
  have C0_2 := Lib.hid (OwnJ.of o2)
  clear o2 b2
  obtain ⟨ca0, cc0, ce0, ch0, ck0⟩ := C0_2.out.cameC
  rw [HZ0.out] at ce0 ch0 ck0
  subst ce0
  have C2 := Lib.hid (HS.out w2 ca0 cc0 ch0 ck0)
  clear ch0 ck0
  go_wp2_with fail
  go_at_call 22
  refine (C2.out).mono ?_
  rintro e w3 ⟨v0, rfl, qv0, b3⟩
  have y3 := b3.size
  have C0_3 := Lib.hid (C0_2.out.below b3 (by omega))
  have B3 : Hid (Below w.heap.size w w3) := B2.out.trans (b3.mono (by omega))
  clear C0_2 B2
  have V0_3 := Lib.hid (OwnJ.of qv0)
  clear qv0 b3
  clear C0_3
  go_wp2_with fail
  go_at_call 11
  refine (HT0.out w3 B3.out).mono ?_
  rintro e w4 ⟨x0, rfl, o4, b4⟩
  have y4 := b4.size
  have V0_4 := Lib.hid (V0_3.out.below b4 (by omega))
  have B4 : Hid (Below w.heap.size w w4) := B3.out.trans (b4.mono (by omega))
  clear V0_3 B3
  have X0_4 := Lib.hid (OwnJ.of o4)
  clear o4 b4
  obtain ⟨xa0, xc0, xe0, xh0, xk0⟩ := X0_4.out.cameC
  rw [HZ0.out] at xe0 xh0 xk0
  subst xe0
  have C4 := Lib.hid (HI.out w4 xa0 xc0 xh0 xk0)
  clear xh0 xk0
  go_wp2_with fail
  go_at_call 23
  refine (C4.out).mono ?_
  rintro e w5 ⟨g0, rfl, qg0, b5⟩
  have y5 := b5.size
  have V0_5 := Lib.hid (V0_4.out.below b5 (by omega))
  have X0_5 := Lib.hid (X0_4.out.below b5 (by omega))
  have B5 : Hid (Below w.heap.size w w5) := B4.out.trans (b5.mono (by omega))
  clear V0_4 X0_4 B4
  have G0_5 := Lib.hid (OwnJ.of qg0)
  clear qg0 b5
  go_wp2_with fail
  go_at_call 13
  refine (eqIntSS_two w5 _ _ _ _ _ _ r0 (eqFits_IntSS HF0.out) G0_5.out V0_5.out).mono ?_
  rintro e w6 ⟨rfl, b6⟩
  have y6 := b6.size
  have V0_6 := Lib.hid (V0_5.out.below b6 (by omega))
  have X0_6 := Lib.hid (X0_5.out.below b6 (by omega))
  have G0_6 := Lib.hid (G0_5.out.below b6 (by omega))
  have B6 : Hid (Below w.heap.size w w6) := B5.out.trans (b6.mono (by omega))
  clear V0_5 X0_5 G0_5 B5
  clear b6
  go_wp2_with fail
  go_at_call 11
  refine (HT0.out w6 B6.out).mono ?_
  rintro e w7 ⟨t0, rfl, o7, b7⟩
  have y7 := b7.size
  have V0_7 := Lib.hid (V0_6.out.below b7 (by omega))
  have X0_7 := Lib.hid (X0_6.out.below b7 (by omega))
  have G0_7 := Lib.hid (G0_6.out.below b7 (by omega))
  have B7 : Hid (Below w.heap.size w w7) := B6.out.trans (b7.mono (by omega))
  clear V0_6 X0_6 G0_6 B6
  have T0_7 := Lib.hid (OwnJ.of o7)
  clear o7 b7
  go_wp2_with fail
  go_at_call 13
  refine (eqIntSS_two w7 _ _ _ _ _ _ z0 (eqFits_IntSS HG0.out) X0_7.out T0_7.out).mono ?_
  rintro e w8 ⟨rfl, b8⟩
  have y8 := b8.size
  have V0_8 := Lib.hid (V0_7.out.below b8 (by omega))
  have X0_8 := Lib.hid (X0_7.out.below b8 (by omega))
  have G0_8 := Lib.hid (G0_7.out.below b8 (by omega))
  have T0_8 := Lib.hid (T0_7.out.below b8 (by omega))
  have B8 : Hid (Below w.heap.size w w8) := B7.out.trans (b8.mono (by omega))
  clear V0_7 X0_7 G0_7 T0_7 B7
  clear b8
  clear T0_8
  go_wp2_with fail
  go_at_call 14
  refine (markIntSS_in w8 _ _ _ z0 (1) HG0.out.1 HG0.out.2 (by omega) (by omega) X0_8.out).mono ?_
  rintro e w9 ⟨rfl, o9, b9⟩
  have y9 := b9.size
  have V0_9 := Lib.hid (V0_8.out.betw b9 (by omega) (by omega))
  have G0_9 := Lib.hid (G0_8.out.betw b9 (by omega) (by omega))
  have B9 : Hid (Below w.heap.size w w9) := betw_below B8.out b9 (by omega)
  clear V0_8 X0_8 G0_8 B8
  have X0_9 := Lib.hid o9
  clear o9 b9
  go_wp2_with fail
  go_at_call 13
  refine (eqIntSS_two w9 _ _ _ _ _ _ r0 (eqFits_IntSS HF0.out) G0_9.out V0_9.out).mono ?_
  rintro e w10 ⟨rfl, b10⟩
  have y10 := b10.size
  have V0_10 := Lib.hid (V0_9.out.below b10 (by omega))
  have X0_10 := Lib.hid (X0_9.out.below b10 (by omega))
  have G0_10 := Lib.hid (G0_9.out.below b10 (by omega))
  have B10 : Hid (Below w.heap.size w w10) := B9.out.trans (b10.mono (by omega))
  clear V0_9 X0_9 G0_9 B9
  clear b10
  clear X0_10
  go_wp2_with fail
  go_at_call 14
  refine (markIntSS_in w10 _ _ _ r0 (1) HF0.out.1 HF0.out.2 (by omega) (by omega) G0_10.out).mono ?_
  rintro e w11 ⟨rfl, o11, b11⟩
  have y11 := b11.size
  have V0_11 := Lib.hid (V0_10.out.betw b11 (by omega) (by omega))
  have B11 : Hid (Below w.heap.size w w11) := betw_below B10.out b11 (by omega)
  clear V0_10 G0_10 B10
  have G0_11 := Lib.hid o11
  clear o11 b11
  rw [← HN0.out]
  have HD := Lib.hid (heldIntSS_in w11 _ _ _ r0 1 HF0.out.1 HF0.out.2 (by omega) (by omega) G0_11.out)
  rw [← HN0.out] at HD
  go_wp2_with fail
  go_at_call 15
  refine HD.out.mono ?_
  rintro e ww ⟨rfl, rfl⟩
  clear HD
  go_wp2_with fail
  go_at_call 11
  refine (HT0.out w11 B11.out).mono ?_
  rintro e w12 ⟨d0, rfl, o12, b12⟩
  have y12 := b12.size
  have V0_12 := Lib.hid (V0_11.out.below b12 (by omega))
  have G0_12 := Lib.hid (G0_11.out.below b12 (by omega))
  have B12 : Hid (Below w.heap.size w w12) := B11.out.trans (b12.mono (by omega))
  clear V0_11 G0_11 B11
  have D0_12 := Lib.hid (OwnJ.of o12)
  clear o12 b12
  obtain ⟨da0, dc0, de0, dh0, dk0⟩ := D0_12.out.cameC
  rw [HZ0.out] at de0 dh0 dk0
  subst de0
  have C12 := Lib.hid (HI.out w12 da0 dc0 dh0 dk0)
  clear dh0 dk0
  go_wp2_with fail
  go_at_call 23
  refine (C12.out).mono ?_
  rintro e w13 ⟨h0, rfl, qh0, b13⟩
  have y13 := b13.size
  have V0_13 := Lib.hid (V0_12.out.below b13 (by omega))
  have G0_13 := Lib.hid (G0_12.out.below b13 (by omega))
  have D0_13 := Lib.hid (D0_12.out.below b13 (by omega))
  have B13 : Hid (Below w.heap.size w w13) := B12.out.trans (b13.mono (by omega))
  clear V0_12 G0_12 D0_12 B12
  have H0_13 := Lib.hid (OwnJ.of qh0)
  clear qh0 b13
  clear D0_13
  go_wp2_with fail
  go_at_call 13
  refine (eqIntSS_two w13 _ _ _ _ _ _ r0 (eqFits_IntSS HF0.out) H0_13.out V0_13.out).mono ?_
  rintro e w14 ⟨rfl, b14⟩
  have y14 := b14.size
  have V0_14 := Lib.hid (V0_13.out.below b14 (by omega))
  have G0_14 := Lib.hid (G0_13.out.below b14 (by omega))
  have H0_14 := Lib.hid (H0_13.out.below b14 (by omega))
  have B14 : Hid (Below w.heap.size w w14) := B13.out.trans (b14.mono (by omega))
  clear V0_13 G0_13 H0_13 B13
  clear b14
  have HD := Lib.hid (heldIntSS_in w14 _ _ _ r0 1 HF0.out.1 HF0.out.2 (by omega) (by omega) G0_14.out)
  rw [← HN0.out] at HD
  go_wp2_with fail
  go_at_call 15
  refine HD.out.mono ?_
  rintro e ww ⟨rfl, rfl⟩
  clear HD
  go_wp2
  go_ret
  exact ⟨rfl, B14.out⟩

set_option maxHeartbeats 1000000 in
theorem walkFnExactExchangeFiles (a0 : Option Addr) (len0 cap0 : Nat) (z0 : List (List Int)) (p1 : Int) (p2 : Int) (wf1 : (Lit.int .i64 p1).wf = true) (wf2 : (Lit.int .i64 p2).wf = true) (w : World) (hc0 : CameSS w a0 len0 z0) (hk0 : len0 ≤ 9223372036854775807) :
    Calls Try.prog 7 #[.slice a0 len0 cap0, .int .i64 p1, .int .i64 p2] w fun e w' => e = .returned (.bool true) ∧ Below w.heap.size w w' := by
  exact lawExchangeFiles w a0 len0 cap0 z0 p1 p2 (outExchangeFiles_0 z0 p1 p2) (outExchangeFiles_1 z0 p1 p2) (lenExchangeFiles_0 z0 p1 p2) hc0 hk0
    (fun hl0 => fun w a0 cap0 hc0 hk0 => specExchangeFiles_any w a0 len0 cap0 z0 p1 p2 wf1 wf2 hl0 hc0)
    (fun hl0 => fun w a0 cap0 hc0 hk0 => implExchangeFiles_any w a0 len0 cap0 z0 p1 p2 wf1 wf2 hl0 hc0)

end Go.Proofs.Ytpoceonmlpnhlab
