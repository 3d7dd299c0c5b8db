/- The walk of the law FnExactPlayWindows, out of the contracts of its two functions. -/
import Derived.Test.YtkdpjimbhpclaabKinds
import Derived.Test.YtkdpjimbhpclaabOdg
import Derived.Test.YtkdpjimbhpclaabVu
namespace Go.Proofs.Ytkdpjimbhpclaab
open Go.ChangeShapes Go.WideShapes Go.ChangeAt Go.RowKit

set_option maxHeartbeats 4000000 in
theorem lawPlayWindows (w : World) (p0 : ByteArray) (p1 : Int) (a2 : Option Addr) (len2 cap2 : Nat) (z2 : List Int) (r0 : ByteArray) (r1 : Bool) (hl0 : p0.size ≤ 1048576) (hl2 : len2 ≤ 1048576) (hc2 : Came w a2 len2 z2)
    (hS : ∀ (w : World) (a2 : Option Addr) (cap2 : Nat), Came w a2 len2 z2 → (len2 ≤ cap2 ∧ cap2 ≤ 9223372036854775807) → Calls Try.prog 27 #[.string p0, .int .i64 p1, .slice a2 len2 cap2] w fun e w' => e = .returned (.tuple #[.string r0, .bool r1]) ∧ Below w.heap.size w w')
    (hI : ∀ (w : World) (a2 : Option Addr) (cap2 : Nat), Came w a2 len2 z2 → (len2 ≤ cap2 ∧ cap2 ≤ 9223372036854775807) → Calls Try.prog 29 #[.string p0, .int .i64 p1, .slice a2 len2 cap2] w fun e w' => e = .returned (.tuple #[.string r0, .bool r1]) ∧ Below w.heap.size w w') :
    Calls Try.prog 8 #[.string p0, .int .i64 p1, .slice a2 len2 cap2] w fun e w' => e = .returned (.bool true) ∧ Below w.heap.size w w' := by
  have HS := Lib.hid hS
  have HI := Lib.hid hI
  have HZ2 : Hid (z2.length = len2) := Lib.hid hc2.1
  have HT2 := Lib.hid (fun w2 (h : Below w.heap.size w w2) => toIntS_any w2 a2 len2 cap2 z2 hl2 (hc2.below h))
  have hzl2 : z2.length ≤ 1048576 := by have := hc2.1; omega
  clear hS hI hc2
  have B0 : Hid (Below w.heap.size w w) := Lib.hid (Below.refl _ _)
  go_enter Try.func8, Try.ntmps8
  go_wp2_with fail
  go_at_call 28
  refine (HT2.out w B0.out).mono ?_
  rintro e w1 ⟨c2, rfl, o1, b1⟩
  have y1 := b1.size
  have B1 : Hid (Below w.heap.size w w1) := B0.out.trans (b1.mono (by omega))
  clear B0
  have C2_1 := Lib.hid (OwnI.of o1)
  clear o1 b1
  obtain ⟨ca2, cc2, ce2, ch2, ck2⟩ := C2_1.out.1.cameC
  rw [HZ2.out] at ce2 ch2 ck2
  subst ce2
  have C1 := Lib.hid (HS.out w1 ca2 cc2 ch2 ck2)
  clear ch2 ck2
  go_wp2_with fail
  go_at_call 27
  refine (C1.out).mono ?_
  rintro e w2 ⟨rfl, b2⟩
  have y2 := b2.size
  have C2_2 := Lib.hid (C2_1.out.below b2 (by omega))
  have B2 : Hid (Below w.heap.size w w2) := B1.out.trans (b2.mono (by omega))
  clear C2_1 B1
  clear b2
  clear C2_2
  go_wp2_with fail
  go_at_call 28
  refine (HT2.out w2 B2.out).mono ?_
  rintro e w3 ⟨x2, rfl, o3, b3⟩
  have y3 := b3.size
  have B3 : Hid (Below w.heap.size w w3) := B2.out.trans (b3.mono (by omega))
  clear B2
  have X2_3 := Lib.hid (OwnI.of o3)
  clear o3 b3
  obtain ⟨xa2, xc2, xe2, xh2, xk2⟩ := X2_3.out.1.cameC
  rw [HZ2.out] at xe2 xh2 xk2
  subst xe2
  have C3 := Lib.hid (HI.out w3 xa2 xc2 xh2 xk2)
  clear xh2 xk2
  go_wp2_with fail
  go_at_call 29
  refine (C3.out).mono ?_
  rintro e w4 ⟨rfl, b4⟩
  have y4 := b4.size
  have X2_4 := Lib.hid (X2_3.out.below b4 (by omega))
  have B4 : Hid (Below w.heap.size w w4) := B3.out.trans (b4.mono (by omega))
  clear X2_3 B3
  clear b4
  go_wp2_with fail
  go_at_call 28
  refine (HT2.out w4 B4.out).mono ?_
  rintro e w5 ⟨t2, rfl, o5, b5⟩
  have y5 := b5.size
  have X2_5 := Lib.hid (X2_4.out.below b5 (by omega))
  have B5 : Hid (Below w.heap.size w w5) := B4.out.trans (b5.mono (by omega))
  clear X2_4 B4
  have T2_5 := Lib.hid (OwnI.of o5)
  clear o5 b5
  go_wp2_with fail
  go_at_call 15
  refine (eqIntS_two w5 _ _ _ _ _ _ z2 (by omega) X2_5.out T2_5.out).mono ?_
  rintro e w6 ⟨rfl, b6⟩
  have y6 := b6.size
  have X2_6 := Lib.hid (X2_5.out.below b6 (by omega))
  have T2_6 := Lib.hid (T2_5.out.below b6 (by omega))
  have B6 : Hid (Below w.heap.size w w6) := B5.out.trans (b6.mono (by omega))
  clear X2_5 T2_5 B5
  clear b6
  clear T2_6
  go_wp2
  go_ret
  exact ⟨rfl, B6.out⟩

set_option maxHeartbeats 1000000 in
theorem walkFnExactPlayWindows (p0 : ByteArray) (p1 : Int) (a2 : Option Addr) (len2 cap2 : Nat) (z2 : List Int) (wf0 : p0.size ≤ maxLen) (wf1 : (Lit.int .i64 p1).wf = true) (w : World) (hc2 : Came w a2 len2 z2) :
    Calls Try.prog 8 #[.string p0, .int .i64 p1, .slice a2 len2 cap2] w fun e w' => e = .returned (.bool true) ∧ Below w.heap.size w w' := by
  by_cases hl0 : p0.size ≤ 1048576
  case neg =>
    have b0 : decide ((1048576 : Int) < (p0.size : Nat)) = true := by simp; omega
    clear hc2
    go_enter Try.func8, Try.ntmps8
    go_wp2
    go_ret
    exact ⟨rfl, Below.refl _ _⟩
  by_cases hl2 : len2 ≤ 1048576
  case neg =>
    have b2 : decide ((1048576 : Int) < (len2 : Nat)) = true := by simp; omega
    clear hc2
    go_enter Try.func8, Try.ntmps8
    go_wp2
    go_ret
    exact ⟨rfl, Below.refl _ _⟩
  exact lawPlayWindows w p0 p1 a2 len2 cap2 z2 (outPlayWindows_0 p0 p1 z2) (outPlayWindows_1 p0 p1 z2) hl0 hl2 hc2
    (fun w a2 cap2 hc2 hk2 => specPlayWindows_any w p0 p1 a2 len2 cap2 z2 wf0 wf1 hl0 hl2 hc2)
    (fun w a2 cap2 hc2 hk2 => implPlayWindows_any w p0 p1 a2 len2 cap2 z2 wf0 wf1 hl0 hl2 hc2)

end Go.Proofs.Ytkdpjimbhpclaab
