/- The walk of the law FnExactPlayNeighbours, out of the contracts of its two functions. -/
import Derived.Test.YtkdpjimbhpclaabKinds
import Derived.Test.YtkdpjimbhpclaabOdg
import Derived.Test.YtkdpjimbhpclaabVu
namespace Go.Proofs.Ytkdpjimbhpclaab
open Go.ChangeShapes Go.WideShapes Go.ChangeAt Go.RowKit

set_option maxHeartbeats 4000000 in
theorem lawPlayNeighbours (w : World) (p0 : ByteArray) (a1 : Option Addr) (len1 cap1 : Nat) (z1 : List Int) (r0 : ByteArray) (r1 : Bool) (hl0 : p0.size ≤ 1048576) (hl1 : len1 ≤ 1048576) (hc1 : Came w a1 len1 z1)
    (hS : ∀ (w : World) (a1 : Option Addr) (cap1 : Nat), Came w a1 len1 z1 → (len1 ≤ cap1 ∧ cap1 ≤ 9223372036854775807) → Calls Try.prog 30 #[.string p0, .slice a1 len1 cap1] w fun e w' => e = .returned (.tuple #[.string r0, .bool r1]) ∧ Below w.heap.size w w')
    (hI : ∀ (w : World) (a1 : Option Addr) (cap1 : Nat), Came w a1 len1 z1 → (len1 ≤ cap1 ∧ cap1 ≤ 9223372036854775807) → Calls Try.prog 31 #[.string p0, .slice a1 len1 cap1] w fun e w' => e = .returned (.tuple #[.string r0, .bool r1]) ∧ Below w.heap.size w w') :
    Calls Try.prog 9 #[.string p0, .slice a1 len1 cap1] w fun e w' => e = .returned (.bool true) ∧ Below w.heap.size w w' := by
  have HS := Lib.hid hS
  have HI := Lib.hid hI
  have HZ1 : Hid (z1.length = len1) := Lib.hid hc1.1
  have HT1 := Lib.hid (fun w2 (h : Below w.heap.size w w2) => toIntS_any w2 a1 len1 cap1 z1 hl1 (hc1.below h))
  have hzl1 : z1.length ≤ 1048576 := by have := hc1.1; omega
  clear hS hI hc1
  have B0 : Hid (Below w.heap.size w w) := Lib.hid (Below.refl _ _)
  go_enter Try.func9, Try.ntmps9
  go_wp2_with fail
  go_at_call 28
  refine (HT1.out w B0.out).mono ?_
  rintro e w1 ⟨c1, rfl, o1, b1⟩
  have y1 := b1.size
  have B1 : Hid (Below w.heap.size w w1) := B0.out.trans (b1.mono (by omega))
  clear B0
  have C1_1 := Lib.hid (OwnI.of o1)
  clear o1 b1
  obtain ⟨ca1, cc1, ce1, ch1, ck1⟩ := C1_1.out.1.cameC
  rw [HZ1.out] at ce1 ch1 ck1
  subst ce1
  have C1 := Lib.hid (HS.out w1 ca1 cc1 ch1 ck1)
  clear ch1 ck1
  go_wp2_with fail
  go_at_call 30
  refine (C1.out).mono ?_
  rintro e w2 ⟨rfl, b2⟩
  have y2 := b2.size
  have C1_2 := Lib.hid (C1_1.out.below b2 (by omega))
  have B2 : Hid (Below w.heap.size w w2) := B1.out.trans (b2.mono (by omega))
  clear C1_1 B1
  clear b2
  clear C1_2
  go_wp2_with fail
  go_at_call 28
  refine (HT1.out w2 B2.out).mono ?_
  rintro e w3 ⟨x1, rfl, o3, b3⟩
  have y3 := b3.size
  have B3 : Hid (Below w.heap.size w w3) := B2.out.trans (b3.mono (by omega))
  clear B2
  have X1_3 := Lib.hid (OwnI.of o3)
  clear o3 b3
  obtain ⟨xa1, xc1, xe1, xh1, xk1⟩ := X1_3.out.1.cameC
  rw [HZ1.out] at xe1 xh1 xk1
  subst xe1
  have C3 := Lib.hid (HI.out w3 xa1 xc1 xh1 xk1)
  clear xh1 xk1
  go_wp2_with fail
  go_at_call 31
  refine (C3.out).mono ?_
  rintro e w4 ⟨rfl, b4⟩
  have y4 := b4.size
  have X1_4 := Lib.hid (X1_3.out.below b4 (by omega))
  have B4 : Hid (Below w.heap.size w w4) := B3.out.trans (b4.mono (by omega))
  clear X1_3 B3
  clear b4
  go_wp2_with fail
  go_at_call 28
  refine (HT1.out w4 B4.out).mono ?_
  rintro e w5 ⟨t1, rfl, o5, b5⟩
  have y5 := b5.size
  have X1_5 := Lib.hid (X1_4.out.below b5 (by omega))
  have B5 : Hid (Below w.heap.size w w5) := B4.out.trans (b5.mono (by omega))
  clear X1_4 B4
  have T1_5 := Lib.hid (OwnI.of o5)
  clear o5 b5
  go_wp2_with fail
  go_at_call 15
  refine (eqIntS_two w5 _ _ _ _ _ _ z1 (by omega) X1_5.out T1_5.out).mono ?_
  rintro e w6 ⟨rfl, b6⟩
  have y6 := b6.size
  have X1_6 := Lib.hid (X1_5.out.below b6 (by omega))
  have T1_6 := Lib.hid (T1_5.out.below b6 (by omega))
  have B6 : Hid (Below w.heap.size w w6) := B5.out.trans (b6.mono (by omega))
  clear X1_5 T1_5 B5
  clear b6
  clear T1_6
  go_wp2
  go_ret
  exact ⟨rfl, B6.out⟩

set_option maxHeartbeats 1000000 in
theorem walkFnExactPlayNeighbours (p0 : ByteArray) (a1 : Option Addr) (len1 cap1 : Nat) (z1 : List Int) (wf0 : p0.size ≤ maxLen) (w : World) (hc1 : Came w a1 len1 z1) :
    Calls Try.prog 9 #[.string p0, .slice a1 len1 cap1] w fun e w' => e = .returned (.bool true) ∧ Below w.heap.size w w' := by
  by_cases hl0 : p0.size ≤ 1048576
  case neg =>
    have b0 : decide ((1048576 : Int) < (p0.size : Nat)) = true := by simp; omega
    clear hc1
    go_enter Try.func9, Try.ntmps9
    go_wp2
    go_ret
    exact ⟨rfl, Below.refl _ _⟩
  by_cases hl1 : len1 ≤ 1048576
  case neg =>
    have b1 : decide ((1048576 : Int) < (len1 : Nat)) = true := by simp; omega
    clear hc1
    go_enter Try.func9, Try.ntmps9
    go_wp2
    go_ret
    exact ⟨rfl, Below.refl _ _⟩
  exact lawPlayNeighbours w p0 a1 len1 cap1 z1 (outPlayNeighbours_0 p0 z1) (outPlayNeighbours_1 p0 z1) hl0 hl1 hc1
    (fun w a1 cap1 hc1 hk1 => specPlayNeighbours_any w p0 a1 len1 cap1 z1 wf0 hl0 hl1 hc1)
    (fun w a1 cap1 hc1 hk1 => implPlayNeighbours_any w p0 a1 len1 cap1 z1 wf0 hl0 hl1 hc1)

end Go.Proofs.Ytkdpjimbhpclaab
