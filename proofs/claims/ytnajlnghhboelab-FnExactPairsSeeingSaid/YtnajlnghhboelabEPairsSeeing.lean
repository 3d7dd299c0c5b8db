/- The walk of the law FnExactPairsSeeing, out of the contracts of its two functions. -/
import Derived.Test.YtnajlnghhboelabKinds
import Derived.Test.YtnajlnghhboelabOwnSS
import Derived.Test.YtnajlnghhboelabFPairsSeeing
namespace Go.Proofs.Ytnajlnghhboelab
open Go.ChangeShapes Go.WideShapes Go.ChangeAt Go.RowKit

set_option maxHeartbeats 4000000 in
theorem lawPairsSeeing (w : World) (a0 : Option Addr) (len0 cap0 : Nat) (z0 : List Int) (r0 : List (List Int)) (r1 : Bool) (hl0 : len0 ≤ 1048576) (ho0 : (r0.length ≤ 1000000000 ∧ total r0 ≤ 1000000000)) (hc0 : Came w a0 len0 z0)
    (hS : ∀ (w : World) (a0 : Option Addr) (cap0 : Nat), Came w a0 len0 z0 → (len0 ≤ cap0 ∧ cap0 ≤ 9223372036854775807) → Calls Try.prog 9 #[.slice a0 len0 cap0] w fun e w' => ∃ v0, e = .returned (.tuple #[v0, .bool r1]) ∧ OwnSS w' w.heap.size v0 r0 ∧ Below w.heap.size w w')
    (hI : ∀ (w : World) (a0 : Option Addr) (cap0 : Nat), Came w a0 len0 z0 → (len0 ≤ cap0 ∧ cap0 ≤ 9223372036854775807) → Calls Try.prog 11 #[.slice a0 len0 cap0] w fun e w' => ∃ v0, e = .returned (.tuple #[v0, .bool r1]) ∧ OwnSS w' w.heap.size v0 r0 ∧ Below w.heap.size w w') :
    Calls Try.prog 3 #[.slice a0 len0 cap0] w fun e w' => e = .returned (.bool true) ∧ Below w.heap.size w w' := by
  have HS := Lib.hid hS
  have HI := Lib.hid hI
  have HZ0 : Hid (z0.length = len0) := Lib.hid hc0.1
  have HT0 := Lib.hid (fun w2 (h : Below w.heap.size w w2) => toIntS_any w2 a0 len0 cap0 z0 hl0 (hc0.below h))
  have hzl0 : z0.length ≤ 1048576 := by have := hc0.1; omega
  obtain ⟨n0, hn0⟩ : ∃ n, n = total r0 := ⟨_, rfl⟩
  have HN0 := Lib.hid hn0
  have hm0 : n0 ≤ 1000000000 := by omega
  have HF0 := Lib.hid ho0
  clear hn0 ho0
  clear hS hI hc0
  have B0 : Hid (Below w.heap.size w w) := Lib.hid (Below.refl _ _)
  go_enter Try.func3, Try.ntmps3
  go_wp2_with fail
  go_at_call 10
  refine (HT0.out w B0.out).mono ?_
  rintro e w1 ⟨c0, rfl, o1, b1⟩
  have y1 := b1.size
  have B1 : Hid (Below w.heap.size w w1) := B0.out.trans (b1.mono (by omega))
  clear B0
  have C0_1 := Lib.hid (OwnI.of o1)
  clear o1 b1
  obtain ⟨ca0, cc0, ce0, ch0, ck0⟩ := C0_1.out.1.cameC
  rw [HZ0.out] at ce0 ch0 ck0
  subst ce0
  have C1 := Lib.hid (HS.out w1 ca0 cc0 ch0 ck0)
  clear ch0 ck0
  go_wp2_with fail
  go_at_call 9
  refine (C1.out).mono ?_
  rintro e w2 ⟨v0, rfl, qv0, b2⟩
  have y2 := b2.size
  have C0_2 := Lib.hid (C0_1.out.below b2 (by omega))
  have B2 : Hid (Below w.heap.size w w2) := B1.out.trans (b2.mono (by omega))
  clear C0_1 B1
  have V0_2 := Lib.hid (OwnJ.of qv0)
  clear qv0 b2
  clear C0_2
  go_wp2_with fail
  go_at_call 10
  refine (HT0.out w2 B2.out).mono ?_
  rintro e w3 ⟨x0, rfl, o3, b3⟩
  have y3 := b3.size
  have V0_3 := Lib.hid (V0_2.out.below b3 (by omega))
  have B3 : Hid (Below w.heap.size w w3) := B2.out.trans (b3.mono (by omega))
  clear V0_2 B2
  have X0_3 := Lib.hid (OwnI.of o3)
  clear o3 b3
  obtain ⟨xa0, xc0, xe0, xh0, xk0⟩ := X0_3.out.1.cameC
  rw [HZ0.out] at xe0 xh0 xk0
  subst xe0
  have C3 := Lib.hid (HI.out w3 xa0 xc0 xh0 xk0)
  clear xh0 xk0
  go_wp2_with fail
  go_at_call 11
  refine (C3.out).mono ?_
  rintro e w4 ⟨g0, rfl, qg0, b4⟩
  have y4 := b4.size
  have V0_4 := Lib.hid (V0_3.out.below b4 (by omega))
  have X0_4 := Lib.hid (X0_3.out.below b4 (by omega))
  have B4 : Hid (Below w.heap.size w w4) := B3.out.trans (b4.mono (by omega))
  clear V0_3 X0_3 B3
  have G0_4 := Lib.hid (OwnJ.of qg0)
  clear qg0 b4
  go_wp2_with fail
  go_at_call 12
  refine (eqIntSS_two w4 _ _ _ _ _ _ r0 (eqFits_IntSS HF0.out) G0_4.out V0_4.out).mono ?_
  rintro e w5 ⟨rfl, b5⟩
  have y5 := b5.size
  have V0_5 := Lib.hid (V0_4.out.below b5 (by omega))
  have X0_5 := Lib.hid (X0_4.out.below b5 (by omega))
  have G0_5 := Lib.hid (G0_4.out.below b5 (by omega))
  have B5 : Hid (Below w.heap.size w w5) := B4.out.trans (b5.mono (by omega))
  clear V0_4 X0_4 G0_4 B4
  clear b5
  go_wp2_with fail
  go_at_call 10
  refine (HT0.out w5 B5.out).mono ?_
  rintro e w6 ⟨t0, rfl, o6, b6⟩
  have y6 := b6.size
  have V0_6 := Lib.hid (V0_5.out.below b6 (by omega))
  have X0_6 := Lib.hid (X0_5.out.below b6 (by omega))
  have G0_6 := Lib.hid (G0_5.out.below b6 (by omega))
  have B6 : Hid (Below w.heap.size w w6) := B5.out.trans (b6.mono (by omega))
  clear V0_5 X0_5 G0_5 B5
  have T0_6 := Lib.hid (OwnI.of o6)
  clear o6 b6
  go_wp2_with fail
  go_at_call 13
  refine (eqIntS_two w6 _ _ _ _ _ _ z0 (by omega) X0_6.out T0_6.out).mono ?_
  rintro e w7 ⟨rfl, b7⟩
  have y7 := b7.size
  have V0_7 := Lib.hid (V0_6.out.below b7 (by omega))
  have X0_7 := Lib.hid (X0_6.out.below b7 (by omega))
  have G0_7 := Lib.hid (G0_6.out.below b7 (by omega))
  have T0_7 := Lib.hid (T0_6.out.below b7 (by omega))
  have B7 : Hid (Below w.heap.size w w7) := B6.out.trans (b7.mono (by omega))
  clear V0_6 X0_6 G0_6 T0_6 B6
  clear b7
  clear T0_7
  go_wp2_with fail
  go_at_call 14
  refine (markIntS_in w7 _ _ _ z0 (1) (by omega) (by omega) (by omega) X0_7.out).mono ?_
  rintro e w8 ⟨rfl, o8, b8⟩
  have y8 := b8.size
  have V0_8 := Lib.hid (V0_7.out.betw b8 (by omega) (by omega))
  have G0_8 := Lib.hid (G0_7.out.betw b8 (by omega) (by omega))
  have B8 : Hid (Below w.heap.size w w8) := betw_below B7.out b8 (by omega)
  clear V0_7 X0_7 G0_7 B7
  have X0_8 := Lib.hid o8
  clear o8 b8
  rw [HZ0.out]
  go_wp2_with fail
  go_at_call 12
  refine (eqIntSS_two w8 _ _ _ _ _ _ r0 (eqFits_IntSS HF0.out) G0_8.out V0_8.out).mono ?_
  rintro e w9 ⟨rfl, b9⟩
  have y9 := b9.size
  have V0_9 := Lib.hid (V0_8.out.below b9 (by omega))
  have X0_9 := Lib.hid (X0_8.out.below b9 (by omega))
  have G0_9 := Lib.hid (G0_8.out.below b9 (by omega))
  have B9 : Hid (Below w.heap.size w w9) := B8.out.trans (b9.mono (by omega))
  clear V0_8 X0_8 G0_8 B8
  clear b9
  clear X0_9
  go_wp2_with fail
  go_at_call 15
  refine (markIntSS_in w9 _ _ _ r0 (1) HF0.out.1 HF0.out.2 (by omega) (by omega) G0_9.out).mono ?_
  rintro e w10 ⟨rfl, o10, b10⟩
  have y10 := b10.size
  have V0_10 := Lib.hid (V0_9.out.betw b10 (by omega) (by omega))
  have B10 : Hid (Below w.heap.size w w10) := betw_below B9.out b10 (by omega)
  clear V0_9 G0_9 B9
  have G0_10 := Lib.hid o10
  clear o10 b10
  rw [← HN0.out]
  have HD := Lib.hid (heldIntSS_in w10 _ _ _ r0 1 HF0.out.1 HF0.out.2 (by omega) (by omega) G0_10.out)
  rw [← HN0.out] at HD
  go_wp2_with fail
  go_at_call 16
  refine HD.out.mono ?_
  rintro e ww ⟨rfl, rfl⟩
  clear HD
  go_wp2_with fail
  go_at_call 10
  refine (HT0.out w10 B10.out).mono ?_
  rintro e w11 ⟨d0, rfl, o11, b11⟩
  have y11 := b11.size
  have V0_11 := Lib.hid (V0_10.out.below b11 (by omega))
  have G0_11 := Lib.hid (G0_10.out.below b11 (by omega))
  have B11 : Hid (Below w.heap.size w w11) := B10.out.trans (b11.mono (by omega))
  clear V0_10 G0_10 B10
  have D0_11 := Lib.hid (OwnI.of o11)
  clear o11 b11
  obtain ⟨da0, dc0, de0, dh0, dk0⟩ := D0_11.out.1.cameC
  rw [HZ0.out] at de0 dh0 dk0
  subst de0
  have C11 := Lib.hid (HI.out w11 da0 dc0 dh0 dk0)
  clear dh0 dk0
  go_wp2_with fail
  go_at_call 11
  refine (C11.out).mono ?_
  rintro e w12 ⟨h0, rfl, qh0, b12⟩
  have y12 := b12.size
  have V0_12 := Lib.hid (V0_11.out.below b12 (by omega))
  have G0_12 := Lib.hid (G0_11.out.below b12 (by omega))
  have D0_12 := Lib.hid (D0_11.out.below b12 (by omega))
  have B12 : Hid (Below w.heap.size w w12) := B11.out.trans (b12.mono (by omega))
  clear V0_11 G0_11 D0_11 B11
  have H0_12 := Lib.hid (OwnJ.of qh0)
  clear qh0 b12
  clear D0_12
  go_wp2_with fail
  go_at_call 12
  refine (eqIntSS_two w12 _ _ _ _ _ _ r0 (eqFits_IntSS HF0.out) H0_12.out V0_12.out).mono ?_
  rintro e w13 ⟨rfl, b13⟩
  have y13 := b13.size
  have V0_13 := Lib.hid (V0_12.out.below b13 (by omega))
  have G0_13 := Lib.hid (G0_12.out.below b13 (by omega))
  have H0_13 := Lib.hid (H0_12.out.below b13 (by omega))
  have B13 : Hid (Below w.heap.size w w13) := B12.out.trans (b13.mono (by omega))
  clear V0_12 G0_12 H0_12 B12
  clear b13
  have HD := Lib.hid (heldIntSS_in w13 _ _ _ r0 1 HF0.out.1 HF0.out.2 (by omega) (by omega) G0_13.out)
  rw [← HN0.out] at HD
  go_wp2_with fail
  go_at_call 16
  refine HD.out.mono ?_
  rintro e ww ⟨rfl, rfl⟩
  clear HD
  go_wp2
  go_ret
  exact ⟨rfl, B13.out⟩

set_option maxHeartbeats 1000000 in
theorem walkFnExactPairsSeeing (a0 : Option Addr) (len0 cap0 : Nat) (z0 : List Int) (w : World) (hc0 : Came w a0 len0 z0) :
    Calls Try.prog 3 #[.slice a0 len0 cap0] w fun e w' => e = .returned (.bool true) ∧ Below w.heap.size w w' := by
  by_cases hl0 : len0 ≤ 1048576
  case neg =>
    have b0 : decide ((1048576 : Int) < (len0 : Nat)) = true := by simp; omega
    clear hc0
    go_enter Try.func3, Try.ntmps3
    go_wp2
    go_ret
    exact ⟨rfl, Below.refl _ _⟩
  exact lawPairsSeeing w a0 len0 cap0 z0 (outPairsSeeing_0 z0) (outPairsSeeing_1 z0) hl0 (lenPairsSeeing_0 z0 (by have := hc0.1; omega)) hc0
    (fun w a0 cap0 hc0 hk0 => specPairsSeeing_any w a0 len0 cap0 z0 hl0 hc0)
    (fun w a0 cap0 hc0 hk0 => implPairsSeeing_any w a0 len0 cap0 z0 hl0 hc0)

end Go.Proofs.Ytnajlnghhboelab
