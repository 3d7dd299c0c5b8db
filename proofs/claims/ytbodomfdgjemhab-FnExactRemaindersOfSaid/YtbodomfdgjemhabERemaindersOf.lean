/- The walk of the law FnExactRemaindersOf, out of the contracts of its two functions. -/
import Derived.Test.YtbodomfdgjemhabKinds
import Derived.Test.YtbodomfdgjemhabFoF
import Derived.Test.YtbodomfdgjemhabFd
namespace Go.Proofs.Ytbodomfdgjemhab
open Go.ChangeShapes Go.WideShapes Go.ChangeAt Go.RowKit

set_option maxHeartbeats 4000000 in
theorem lawRemaindersOf (w : World) (p0 : Int) (a1 : Option Addr) (len1 cap1 : Nat) (z1 : List Int) (r0 : List Int) (r1 : Bool) (hl1 : len1 ≤ 1048576) (ho0 : r0.length ≤ 4611686018427387904) (hc1 : Came w a1 len1 z1)
    (hS : ∀ (w : World) (a1 : Option Addr) (cap1 : Nat), Came w a1 len1 z1 → (len1 ≤ cap1 ∧ cap1 ≤ 9223372036854775807) → Calls Try.prog 26 #[.int .i64 p0, .slice a1 len1 cap1] w fun e w' => ∃ v0, e = .returned (.tuple #[v0, .bool r1]) ∧ Own w' w.heap.size v0 r0 ∧ Below w.heap.size w w')
    (hI : ∀ (w : World) (a1 : Option Addr) (cap1 : Nat), Came w a1 len1 z1 → (len1 ≤ cap1 ∧ cap1 ≤ 9223372036854775807) → Calls Try.prog 28 #[.int .i64 p0, .slice a1 len1 cap1] w fun e w' => ∃ v0, e = .returned (.tuple #[v0, .bool r1]) ∧ Own w' w.heap.size v0 r0 ∧ Below w.heap.size w w') :
    Calls Try.prog 7 #[.int .i64 p0, .slice a1 len1 cap1] w fun e w' => e = .returned (.bool true) ∧ Below w.heap.size w w' := by
  have HS := Lib.hid hS
  have HI := Lib.hid hI
  have HZ1 : Hid (z1.length = len1) := Lib.hid hc1.1
  have HT1 := Lib.hid (fun w2 (h : Below w.heap.size w w2) => toIntS_any w2 a1 len1 cap1 z1 hl1 (hc1.below h))
  have hzl1 : z1.length ≤ 1048576 := by have := hc1.1; omega
  obtain ⟨n0, hn0⟩ : ∃ n, n = r0.length := ⟨_, rfl⟩
  have HN0 := Lib.hid hn0
  have hm0 : n0 ≤ 4611686018427387904 := by omega
  clear hn0
  clear hS hI hc1
  have B0 : Hid (Below w.heap.size w w) := Lib.hid (Below.refl _ _)
  go_enter Try.func7, Try.ntmps7
  go_wp2_with fail
  go_at_call 27
  refine (HT1.out w B0.out).mono ?_
  rintro e w1 ⟨c1, rfl, o1, b1⟩
  have y1 := b1.size
  have B1 : Hid (Below w.heap.size w w1) := B0.out.trans (b1.mono (by omega))
  clear B0
  have C1_1 := Lib.hid (OwnI.of o1)
  clear o1 b1
  obtain ⟨ca1, cc1, ce1, ch1, ck1⟩ := C1_1.out.1.cameC
  rw [HZ1.out] at ce1 ch1 ck1
  subst ce1
  have C1 := Lib.hid (HS.out w1 ca1 cc1 ch1 ck1)
  clear ch1 ck1
  go_wp2_with fail
  go_at_call 26
  refine (C1.out).mono ?_
  rintro e w2 ⟨v0, rfl, qv0, b2⟩
  have y2 := b2.size
  have C1_2 := Lib.hid (C1_1.out.below b2 (by omega))
  have B2 : Hid (Below w.heap.size w w2) := B1.out.trans (b2.mono (by omega))
  clear C1_1 B1
  have V0_2 := Lib.hid (OwnI.of qv0)
  clear qv0 b2
  clear C1_2
  go_wp2_with fail
  go_at_call 27
  refine (HT1.out w2 B2.out).mono ?_
  rintro e w3 ⟨x1, rfl, o3, b3⟩
  have y3 := b3.size
  have V0_3 := Lib.hid (V0_2.out.below b3 (by omega))
  have B3 : Hid (Below w.heap.size w w3) := B2.out.trans (b3.mono (by omega))
  clear V0_2 B2
  have X1_3 := Lib.hid (OwnI.of o3)
  clear o3 b3
  obtain ⟨xa1, xc1, xe1, xh1, xk1⟩ := X1_3.out.1.cameC
  rw [HZ1.out] at xe1 xh1 xk1
  subst xe1
  have C3 := Lib.hid (HI.out w3 xa1 xc1 xh1 xk1)
  clear xh1 xk1
  go_wp2_with fail
  go_at_call 28
  refine (C3.out).mono ?_
  rintro e w4 ⟨g0, rfl, qg0, b4⟩
  have y4 := b4.size
  have V0_4 := Lib.hid (V0_3.out.below b4 (by omega))
  have X1_4 := Lib.hid (X1_3.out.below b4 (by omega))
  have B4 : Hid (Below w.heap.size w w4) := B3.out.trans (b4.mono (by omega))
  clear V0_3 X1_3 B3
  have G0_4 := Lib.hid (OwnI.of qg0)
  clear qg0 b4
  go_wp2_with fail
  go_at_call 23
  refine (eqIntS_two w4 _ _ _ _ _ _ r0 ho0 G0_4.out V0_4.out).mono ?_
  rintro e w5 ⟨rfl, b5⟩
  have y5 := b5.size
  have V0_5 := Lib.hid (V0_4.out.below b5 (by omega))
  have X1_5 := Lib.hid (X1_4.out.below b5 (by omega))
  have G0_5 := Lib.hid (G0_4.out.below b5 (by omega))
  have B5 : Hid (Below w.heap.size w w5) := B4.out.trans (b5.mono (by omega))
  clear V0_4 X1_4 G0_4 B4
  clear b5
  go_wp2_with fail
  go_at_call 27
  refine (HT1.out w5 B5.out).mono ?_
  rintro e w6 ⟨t1, rfl, o6, b6⟩
  have y6 := b6.size
  have V0_6 := Lib.hid (V0_5.out.below b6 (by omega))
  have X1_6 := Lib.hid (X1_5.out.below b6 (by omega))
  have G0_6 := Lib.hid (G0_5.out.below b6 (by omega))
  have B6 : Hid (Below w.heap.size w w6) := B5.out.trans (b6.mono (by omega))
  clear V0_5 X1_5 G0_5 B5
  have T1_6 := Lib.hid (OwnI.of o6)
  clear o6 b6
  go_wp2_with fail
  go_at_call 23
  refine (eqIntS_two w6 _ _ _ _ _ _ z1 (by omega) X1_6.out T1_6.out).mono ?_
  rintro e w7 ⟨rfl, b7⟩
  have y7 := b7.size
  have V0_7 := Lib.hid (V0_6.out.below b7 (by omega))
  have X1_7 := Lib.hid (X1_6.out.below b7 (by omega))
  have G0_7 := Lib.hid (G0_6.out.below b7 (by omega))
  have T1_7 := Lib.hid (T1_6.out.below b7 (by omega))
  have B7 : Hid (Below w.heap.size w w7) := B6.out.trans (b7.mono (by omega))
  clear V0_6 X1_6 G0_6 T1_6 B6
  clear b7
  clear T1_7
  go_wp2_with fail
  go_at_call 24
  refine (markIntS_in w7 _ _ _ z1 (1) (by omega) (by omega) (by omega) X1_7.out).mono ?_
  rintro e w8 ⟨rfl, o8, b8⟩
  have y8 := b8.size
  have V0_8 := Lib.hid (V0_7.out.betw b8 (by omega) (by omega))
  have G0_8 := Lib.hid (G0_7.out.betw b8 (by omega) (by omega))
  have B8 : Hid (Below w.heap.size w w8) := betw_below B7.out b8 (by omega)
  clear V0_7 X1_7 G0_7 B7
  have X1_8 := Lib.hid o8
  clear o8 b8
  rw [HZ1.out]
  go_wp2_with fail
  go_at_call 23
  refine (eqIntS_two w8 _ _ _ _ _ _ r0 ho0 G0_8.out V0_8.out).mono ?_
  rintro e w9 ⟨rfl, b9⟩
  have y9 := b9.size
  have V0_9 := Lib.hid (V0_8.out.below b9 (by omega))
  have X1_9 := Lib.hid (X1_8.out.below b9 (by omega))
  have G0_9 := Lib.hid (G0_8.out.below b9 (by omega))
  have B9 : Hid (Below w.heap.size w w9) := B8.out.trans (b9.mono (by omega))
  clear V0_8 X1_8 G0_8 B8
  clear b9
  clear X1_9
  go_wp2_with fail
  go_at_call 24
  refine (markIntS_in w9 _ _ _ r0 (1) ho0 (by omega) (by omega) G0_9.out).mono ?_
  rintro e w10 ⟨rfl, o10, b10⟩
  have y10 := b10.size
  have V0_10 := Lib.hid (V0_9.out.betw b10 (by omega) (by omega))
  have B10 : Hid (Below w.heap.size w w10) := betw_below B9.out b10 (by omega)
  clear V0_9 G0_9 B9
  have G0_10 := Lib.hid o10
  clear o10 b10
  rw [← HN0.out] at G0_10 ⊢
  go_wp2_with fail
  go_at_call 25
  refine (heldIntS_in w10 _ _ _ n0 1 hm0 (by omega) (by omega) G0_10.out).mono ?_
  rintro e ww ⟨rfl, rfl⟩
  go_wp2_with fail
  go_at_call 27
  refine (HT1.out w10 B10.out).mono ?_
  rintro e w11 ⟨d1, rfl, o11, b11⟩
  have y11 := b11.size
  have V0_11 := Lib.hid (V0_10.out.below b11 (by omega))
  have G0_11 := Lib.hid (G0_10.out.below b11 (by omega))
  have B11 : Hid (Below w.heap.size w w11) := B10.out.trans (b11.mono (by omega))
  clear V0_10 G0_10 B10
  have D1_11 := Lib.hid (OwnI.of o11)
  clear o11 b11
  obtain ⟨da1, dc1, de1, dh1, dk1⟩ := D1_11.out.1.cameC
  rw [HZ1.out] at de1 dh1 dk1
  subst de1
  have C11 := Lib.hid (HI.out w11 da1 dc1 dh1 dk1)
  clear dh1 dk1
  go_wp2_with fail
  go_at_call 28
  refine (C11.out).mono ?_
  rintro e w12 ⟨h0, rfl, qh0, b12⟩
  have y12 := b12.size
  have V0_12 := Lib.hid (V0_11.out.below b12 (by omega))
  have G0_12 := Lib.hid (G0_11.out.below b12 (by omega))
  have D1_12 := Lib.hid (D1_11.out.below b12 (by omega))
  have B12 : Hid (Below w.heap.size w w12) := B11.out.trans (b12.mono (by omega))
  clear V0_11 G0_11 D1_11 B11
  have H0_12 := Lib.hid (OwnI.of qh0)
  clear qh0 b12
  clear D1_12
  go_wp2_with fail
  go_at_call 23
  refine (eqIntS_two w12 _ _ _ _ _ _ r0 ho0 H0_12.out V0_12.out).mono ?_
  rintro e w13 ⟨rfl, b13⟩
  have y13 := b13.size
  have V0_13 := Lib.hid (V0_12.out.below b13 (by omega))
  have G0_13 := Lib.hid (G0_12.out.below b13 (by omega))
  have H0_13 := Lib.hid (H0_12.out.below b13 (by omega))
  have B13 : Hid (Below w.heap.size w w13) := B12.out.trans (b13.mono (by omega))
  clear V0_12 G0_12 H0_12 B12
  clear b13
  go_wp2_with fail
  go_at_call 25
  refine (heldIntS_in w13 _ _ _ n0 1 hm0 (by omega) (by omega) G0_13.out).mono ?_
  rintro e ww ⟨rfl, rfl⟩
  go_wp2
  go_ret
  exact ⟨rfl, B13.out⟩

set_option maxHeartbeats 1000000 in
theorem walkFnExactRemaindersOf (p0 : Int) (a1 : Option Addr) (len1 cap1 : Nat) (z1 : List Int) (wf0 : (Lit.int .i64 p0).wf = true) (w : World) (hc1 : Came w a1 len1 z1) :
    Calls Try.prog 7 #[.int .i64 p0, .slice a1 len1 cap1] w fun e w' => e = .returned (.bool true) ∧ Below w.heap.size w w' := by
  by_cases hl1 : len1 ≤ 1048576
  case neg =>
    have b1 : decide ((1048576 : Int) < (len1 : Nat)) = true := by simp; omega
    clear hc1
    go_enter Try.func7, Try.ntmps7
    go_wp2
    go_ret
    exact ⟨rfl, Below.refl _ _⟩
  exact lawRemaindersOf w p0 a1 len1 cap1 z1 (outRemaindersOf_0 p0 z1) (outRemaindersOf_1 p0 z1) hl1 (lenRemaindersOf_0 p0 z1 (by have := hc1.1; omega)) hc1
    (fun w a1 cap1 hc1 hk1 => specRemaindersOf_any w p0 a1 len1 cap1 z1 wf0 hl1 hc1)
    (fun w a1 cap1 hc1 hk1 => implRemaindersOf_any w p0 a1 len1 cap1 z1 wf0 hl1 hc1)

end Go.Proofs.Ytbodomfdgjemhab
