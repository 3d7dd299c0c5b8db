/- The walk of the law FnExactLeastWith, out of the contracts of its two functions. -/
import Derived.Test.YtbodomfdgjemhabKinds
import Derived.Test.YtbodomfdgjemhabFoG
import Derived.Test.YtbodomfdgjemhabFf
namespace Go.Proofs.Ytbodomfdgjemhab
open Go.ChangeShapes Go.WideShapes Go.ChangeAt Go.RowKit

set_option maxHeartbeats 4000000 in
theorem lawLeastWith (w : World) (a0 : Option Addr) (len0 cap0 : Nat) (z0 : List Int) (a1 : Option Addr) (len1 cap1 : Nat) (z1 : List Int) (r0 : Int) (r1 : Bool) (hl0 : len0 ≤ 1048576) (hl1 : len1 ≤ 1048576) (hc0 : Came w a0 len0 z0) (hc1 : Came w a1 len1 z1)
    (hS : ∀ (w : World) (a0 : Option Addr) (cap0 : Nat) (a1 : Option Addr) (cap1 : Nat), Came w a0 len0 z0 → (len0 ≤ cap0 ∧ cap0 ≤ 9223372036854775807) → Came w a1 len1 z1 → (len1 ≤ cap1 ∧ cap1 ≤ 9223372036854775807) → Calls Try.prog 31 #[.slice a0 len0 cap0, .slice a1 len1 cap1] w fun e w' => e = .returned (.tuple #[.int .i64 r0, .bool r1]) ∧ Below w.heap.size w w')
    (hI : ∀ (w : World) (a0 : Option Addr) (cap0 : Nat) (a1 : Option Addr) (cap1 : Nat), Came w a0 len0 z0 → (len0 ≤ cap0 ∧ cap0 ≤ 9223372036854775807) → Came w a1 len1 z1 → (len1 ≤ cap1 ∧ cap1 ≤ 9223372036854775807) → Calls Try.prog 32 #[.slice a0 len0 cap0, .slice a1 len1 cap1] w fun e w' => e = .returned (.tuple #[.int .i64 r0, .bool r1]) ∧ Below w.heap.size w w') :
    Calls Try.prog 9 #[.slice a0 len0 cap0, .slice a1 len1 cap1] w fun e w' => e = .returned (.bool true) ∧ Below w.heap.size w w' := by
  have HS := Lib.hid hS
  have HI := Lib.hid hI
  have HZ0 : Hid (z0.length = len0) := Lib.hid hc0.1
  have HT0 := Lib.hid (fun w2 (h : Below w.heap.size w w2) => toIntS_any w2 a0 len0 cap0 z0 hl0 (hc0.below h))
  have hzl0 : z0.length ≤ 1048576 := by have := hc0.1; omega
  have HZ1 : Hid (z1.length = len1) := Lib.hid hc1.1
  have HT1 := Lib.hid (fun w2 (h : Below w.heap.size w w2) => toIntS_any w2 a1 len1 cap1 z1 hl1 (hc1.below h))
  have hzl1 : z1.length ≤ 1048576 := by have := hc1.1; omega
  clear hS hI hc0 hc1
  have B0 : Hid (Below w.heap.size w w) := Lib.hid (Below.refl _ _)
  go_enter Try.func9, Try.ntmps9
  go_wp2_with fail
  go_at_call 27
  refine (HT0.out w B0.out).mono ?_
  rintro e w1 ⟨c0, rfl, o1, b1⟩
  have y1 := b1.size
  have B1 : Hid (Below w.heap.size w w1) := B0.out.trans (b1.mono (by omega))
  clear B0
  have C0_1 := Lib.hid (OwnI.of o1)
  clear o1 b1
  go_wp2_with fail
  go_at_call 27
  refine (HT1.out w1 B1.out).mono ?_
  rintro e w2 ⟨c1, rfl, o2, b2⟩
  have y2 := b2.size
  have C0_2 := Lib.hid (C0_1.out.below b2 (by omega))
  have B2 : Hid (Below w.heap.size w w2) := B1.out.trans (b2.mono (by omega))
  clear C0_1 B1
  have C1_2 := Lib.hid (OwnI.of o2)
  clear o2 b2
  obtain ⟨ca0, cc0, ce0, ch0, ck0⟩ := C0_2.out.1.cameC
  rw [HZ0.out] at ce0 ch0 ck0
  subst ce0
  obtain ⟨ca1, cc1, ce1, ch1, ck1⟩ := C1_2.out.1.cameC
  rw [HZ1.out] at ce1 ch1 ck1
  subst ce1
  have C2 := Lib.hid (HS.out w2 ca0 cc0 ca1 cc1 ch0 ck0 ch1 ck1)
  clear ch0 ck0 ch1 ck1
  go_wp2_with fail
  go_at_call 31
  refine (C2.out).mono ?_
  rintro e w3 ⟨rfl, b3⟩
  have y3 := b3.size
  have C0_3 := Lib.hid (C0_2.out.below b3 (by omega))
  have C1_3 := Lib.hid (C1_2.out.below b3 (by omega))
  have B3 : Hid (Below w.heap.size w w3) := B2.out.trans (b3.mono (by omega))
  clear C0_2 C1_2 B2
  clear b3
  clear C0_3
  clear C1_3
  go_wp2_with fail
  go_at_call 27
  refine (HT0.out w3 B3.out).mono ?_
  rintro e w4 ⟨x0, rfl, o4, b4⟩
  have y4 := b4.size
  have B4 : Hid (Below w.heap.size w w4) := B3.out.trans (b4.mono (by omega))
  clear B3
  have X0_4 := Lib.hid (OwnI.of o4)
  clear o4 b4
  go_wp2_with fail
  go_at_call 27
  refine (HT1.out w4 B4.out).mono ?_
  rintro e w5 ⟨x1, rfl, o5, b5⟩
  have y5 := b5.size
  have X0_5 := Lib.hid (X0_4.out.below b5 (by omega))
  have B5 : Hid (Below w.heap.size w w5) := B4.out.trans (b5.mono (by omega))
  clear X0_4 B4
  have X1_5 := Lib.hid (OwnI.of o5)
  clear o5 b5
  obtain ⟨xa0, xc0, xe0, xh0, xk0⟩ := X0_5.out.1.cameC
  rw [HZ0.out] at xe0 xh0 xk0
  subst xe0
  obtain ⟨xa1, xc1, xe1, xh1, xk1⟩ := X1_5.out.1.cameC
  rw [HZ1.out] at xe1 xh1 xk1
  subst xe1
  have C5 := Lib.hid (HI.out w5 xa0 xc0 xa1 xc1 xh0 xk0 xh1 xk1)
  clear xh0 xk0 xh1 xk1
  go_wp2_with fail
  go_at_call 32
  refine (C5.out).mono ?_
  rintro e w6 ⟨rfl, b6⟩
  have y6 := b6.size
  have X0_6 := Lib.hid (X0_5.out.below b6 (by omega))
  have X1_6 := Lib.hid (X1_5.out.below b6 (by omega))
  have B6 : Hid (Below w.heap.size w w6) := B5.out.trans (b6.mono (by omega))
  clear X0_5 X1_5 B5
  clear b6
  go_wp2_with fail
  go_at_call 27
  refine (HT0.out w6 B6.out).mono ?_
  rintro e w7 ⟨t0, rfl, o7, b7⟩
  have y7 := b7.size
  have X0_7 := Lib.hid (X0_6.out.below b7 (by omega))
  have X1_7 := Lib.hid (X1_6.out.below b7 (by omega))
  have B7 : Hid (Below w.heap.size w w7) := B6.out.trans (b7.mono (by omega))
  clear X0_6 X1_6 B6
  have T0_7 := Lib.hid (OwnI.of o7)
  clear o7 b7
  go_wp2_with fail
  go_at_call 23
  refine (eqIntS_two w7 _ _ _ _ _ _ z0 (by omega) X0_7.out T0_7.out).mono ?_
  rintro e w8 ⟨rfl, b8⟩
  have y8 := b8.size
  have X0_8 := Lib.hid (X0_7.out.below b8 (by omega))
  have X1_8 := Lib.hid (X1_7.out.below b8 (by omega))
  have T0_8 := Lib.hid (T0_7.out.below b8 (by omega))
  have B8 : Hid (Below w.heap.size w w8) := B7.out.trans (b8.mono (by omega))
  clear X0_7 X1_7 T0_7 B7
  clear b8
  clear T0_8
  go_wp2_with fail
  go_at_call 27
  refine (HT1.out w8 B8.out).mono ?_
  rintro e w9 ⟨t1, rfl, o9, b9⟩
  have y9 := b9.size
  have X0_9 := Lib.hid (X0_8.out.below b9 (by omega))
  have X1_9 := Lib.hid (X1_8.out.below b9 (by omega))
  have B9 : Hid (Below w.heap.size w w9) := B8.out.trans (b9.mono (by omega))
  clear X0_8 X1_8 B8
  have T1_9 := Lib.hid (OwnI.of o9)
  clear o9 b9
  go_wp2_with fail
  go_at_call 23
  refine (eqIntS_two w9 _ _ _ _ _ _ z1 (by omega) X1_9.out T1_9.out).mono ?_
  rintro e w10 ⟨rfl, b10⟩
  have y10 := b10.size
  have X0_10 := Lib.hid (X0_9.out.below b10 (by omega))
  have X1_10 := Lib.hid (X1_9.out.below b10 (by omega))
  have T1_10 := Lib.hid (T1_9.out.below b10 (by omega))
  have B10 : Hid (Below w.heap.size w w10) := B9.out.trans (b10.mono (by omega))
  clear X0_9 X1_9 T1_9 B9
  clear b10
  clear T1_10
  go_wp2
  go_ret
  exact ⟨rfl, B10.out⟩

set_option maxHeartbeats 1000000 in
theorem walkFnExactLeastWith (a0 : Option Addr) (len0 cap0 : Nat) (z0 : List Int) (a1 : Option Addr) (len1 cap1 : Nat) (z1 : List Int) (w : World) (hc0 : Came w a0 len0 z0) (hc1 : Came w a1 len1 z1) :
    Calls Try.prog 9 #[.slice a0 len0 cap0, .slice a1 len1 cap1] w fun e w' => e = .returned (.bool true) ∧ Below w.heap.size w w' := by
  by_cases hl0 : len0 ≤ 1048576
  case neg =>
    have b0 : decide ((1048576 : Int) < (len0 : Nat)) = true := by simp; omega
    clear hc0 hc1
    go_enter Try.func9, Try.ntmps9
    go_wp2
    go_ret
    exact ⟨rfl, Below.refl _ _⟩
  by_cases hl1 : len1 ≤ 1048576
  case neg =>
    have b1 : decide ((1048576 : Int) < (len1 : Nat)) = true := by simp; omega
    clear hc0 hc1
    go_enter Try.func9, Try.ntmps9
    go_wp2
    go_ret
    exact ⟨rfl, Below.refl _ _⟩
  exact lawLeastWith w a0 len0 cap0 z0 a1 len1 cap1 z1 (outLeastWith_0 z0 z1) (outLeastWith_1 z0 z1) hl0 hl1 hc0 hc1
    (fun w a0 cap0 a1 cap1 hc0 hk0 hc1 hk1 => specLeastWith_any w a0 len0 cap0 z0 a1 len1 cap1 z1 hl0 hl1 hc0 hc1)
    (fun w a0 cap0 a1 cap1 hc0 hk0 hc1 hk1 => implLeastWith_any w a0 len0 cap0 z0 a1 len1 cap1 z1 hl0 hl1 hc0 hc1 hk0 hk1)

end Go.Proofs.Ytbodomfdgjemhab
