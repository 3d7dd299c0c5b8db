/- The walk of the law FnExactStepOf, out of the contracts of its two functions. -/
import Derived.Test.YtbodomfdgjemhabKinds
import Derived.Test.YtbodomfdgjemhabFoG
import Derived.Test.YtbodomfdgjemhabFc
namespace Go.Proofs.Ytbodomfdgjemhab
open Go.ChangeShapes Go.WideShapes Go.ChangeAt Go.RowKit

set_option maxHeartbeats 4000000 in
theorem lawStepOf (w : World) (a0 : Option Addr) (len0 cap0 : Nat) (z0 : List Int) (r0 : Int) (r1 : Bool) (hl0 : len0 ≤ 1048576) (hc0 : Came w a0 len0 z0)
    (hS : ∀ (w : World) (a0 : Option Addr) (cap0 : Nat), Came w a0 len0 z0 → (len0 ≤ cap0 ∧ cap0 ≤ 9223372036854775807) → Calls Try.prog 29 #[.slice a0 len0 cap0] w fun e w' => e = .returned (.tuple #[.int .i64 r0, .bool r1]) ∧ Below w.heap.size w w')
    (hI : ∀ (w : World) (a0 : Option Addr) (cap0 : Nat), Came w a0 len0 z0 → (len0 ≤ cap0 ∧ cap0 ≤ 9223372036854775807) → Calls Try.prog 30 #[.slice a0 len0 cap0] w fun e w' => e = .returned (.tuple #[.int .i64 r0, .bool r1]) ∧ Below w.heap.size w w') :
    Calls Try.prog 8 #[.slice a0 len0 cap0] w fun e w' => e = .returned (.bool true) ∧ Below w.heap.size w w' := by
  have HS := Lib.hid hS
  have HI := Lib.hid hI
  have HZ0 : Hid (z0.length = len0) := Lib.hid hc0.1
  have HT0 := Lib.hid (fun w2 (h : Below w.heap.size w w2) => toIntS_any w2 a0 len0 cap0 z0 hl0 (hc0.below h))
  have hzl0 : z0.length ≤ 1048576 := by have := hc0.1; omega
  clear hS hI hc0
  have B0 : Hid (Below w.heap.size w w) := Lib.hid (Below.refl _ _)
  go_enter Try.func8, Try.ntmps8
  go_wp2_with fail
  go_at_call 27
  refine (HT0.out w B0.out).mono ?_
  rintro e w1 ⟨c0, rfl, o1, b1⟩
  have y1 := b1.size
  have B1 : Hid (Below w.heap.size w w1) := B0.out.trans (b1.mono (by omega))
  clear B0
  have C0_1 := Lib.hid (OwnI.of o1)
  clear o1 b1
  obtain ⟨ca0, cc0, ce0, ch0, ck0⟩ := C0_1.out.1.cameC
  rw [HZ0.out] at ce0 ch0 ck0
  subst ce0
  have C1 := Lib.hid (HS.out w1 ca0 cc0 ch0 ck0)
  clear ch0 ck0
  go_wp2_with fail
  go_at_call 29
  refine (C1.out).mono ?_
  rintro e w2 ⟨rfl, b2⟩
  have y2 := b2.size
  have C0_2 := Lib.hid (C0_1.out.below b2 (by omega))
  have B2 : Hid (Below w.heap.size w w2) := B1.out.trans (b2.mono (by omega))
  clear C0_1 B1
  clear b2
  clear C0_2
  go_wp2_with fail
  go_at_call 27
  refine (HT0.out w2 B2.out).mono ?_
  rintro e w3 ⟨x0, rfl, o3, b3⟩
  have y3 := b3.size
  have B3 : Hid (Below w.heap.size w w3) := B2.out.trans (b3.mono (by omega))
  clear B2
  have X0_3 := Lib.hid (OwnI.of o3)
  clear o3 b3
  obtain ⟨xa0, xc0, xe0, xh0, xk0⟩ := X0_3.out.1.cameC
  rw [HZ0.out] at xe0 xh0 xk0
  subst xe0
  have C3 := Lib.hid (HI.out w3 xa0 xc0 xh0 xk0)
  clear xh0 xk0
  go_wp2_with fail
  go_at_call 30
  refine (C3.out).mono ?_
  rintro e w4 ⟨rfl, b4⟩
  have y4 := b4.size
  have X0_4 := Lib.hid (X0_3.out.below b4 (by omega))
  have B4 : Hid (Below w.heap.size w w4) := B3.out.trans (b4.mono (by omega))
  clear X0_3 B3
  clear b4
  go_wp2_with fail
  go_at_call 27
  refine (HT0.out w4 B4.out).mono ?_
  rintro e w5 ⟨t0, rfl, o5, b5⟩
  have y5 := b5.size
  have X0_5 := Lib.hid (X0_4.out.below b5 (by omega))
  have B5 : Hid (Below w.heap.size w w5) := B4.out.trans (b5.mono (by omega))
  clear X0_4 B4
  have T0_5 := Lib.hid (OwnI.of o5)
  clear o5 b5
  go_wp2_with fail
  go_at_call 23
  refine (eqIntS_two w5 _ _ _ _ _ _ z0 (by omega) X0_5.out T0_5.out).mono ?_
  rintro e w6 ⟨rfl, b6⟩
  have y6 := b6.size
  have X0_6 := Lib.hid (X0_5.out.below b6 (by omega))
  have T0_6 := Lib.hid (T0_5.out.below b6 (by omega))
  have B6 : Hid (Below w.heap.size w w6) := B5.out.trans (b6.mono (by omega))
  clear X0_5 T0_5 B5
  clear b6
  clear T0_6
  go_wp2
  go_ret
  exact ⟨rfl, B6.out⟩

set_option maxHeartbeats 1000000 in
theorem walkFnExactStepOf (a0 : Option Addr) (len0 cap0 : Nat) (z0 : List Int) (w : World) (hc0 : Came w a0 len0 z0) :
    Calls Try.prog 8 #[.slice a0 len0 cap0] w fun e w' => e = .returned (.bool true) ∧ Below w.heap.size w w' := by
  by_cases hl0 : len0 ≤ 1048576
  case neg =>
    have b0 : decide ((1048576 : Int) < (len0 : Nat)) = true := by simp; omega
    clear hc0
    go_enter Try.func8, Try.ntmps8
    go_wp2
    go_ret
    exact ⟨rfl, Below.refl _ _⟩
  exact lawStepOf w a0 len0 cap0 z0 (outStepOf_0 z0) (outStepOf_1 z0) hl0 hc0
    (fun w a0 cap0 hc0 hk0 => specStepOf_any w a0 len0 cap0 z0 hl0 hc0)
    (fun w a0 cap0 hc0 hk0 => implStepOf_any w a0 len0 cap0 z0 hl0 hc0)

end Go.Proofs.Ytbodomfdgjemhab
