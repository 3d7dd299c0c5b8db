/- The walk of the law FnExactTimeAllHear, out of the contracts of its two functions. -/
import Derived.Test.YtmlamcimncfmcaaKinds
import Derived.Test.YtmlamcimncfmcaaRSignal
import Derived.Test.YtmlamcimncfmcaaSid
import Derived.Test.YtmlamcimncfmcaaSjd
namespace Go.Proofs.Ytmlamcimncfmcaa
open Go.ChangeShapes Go.WideShapes Go.ChangeAt Go.RowKit

set_option maxHeartbeats 4000000 in
theorem lawTimeAllHear (w : World) (p0 : Int) (a1 : Option Addr) (len1 cap1 : Nat) (z1 : List RSignal) (r0 : Int) (r1 : Bool) (hc1 : CameSignal w a1 len1 z1) (hk1 : len1 ≤ 9223372036854775807)
    (hS : len1 ≤ 1048576 → ∀ (w : World) (a1 : Option Addr) (cap1 : Nat), CameSignal w a1 len1 z1 → (len1 ≤ cap1 ∧ cap1 ≤ 9223372036854775807) → Calls Try.prog 35 #[.int .i64 p0, .slice a1 len1 cap1] w fun e w' => e = .returned (.tuple #[.int .i64 r0, .bool r1]) ∧ Below w.heap.size w w')
    (hI : len1 ≤ 1048576 → ∀ (w : World) (a1 : Option Addr) (cap1 : Nat), CameSignal w a1 len1 z1 → (len1 ≤ cap1 ∧ cap1 ≤ 9223372036854775807) → Calls Try.prog 36 #[.int .i64 p0, .slice a1 len1 cap1] w fun e w' => e = .returned (.tuple #[.int .i64 r0, .bool r1]) ∧ Below w.heap.size w w') :
    Calls Try.prog 10 #[.int .i64 p0, .slice a1 len1 cap1] w fun e w' => e = .returned (.bool true) ∧ Below w.heap.size w w' := by
  have HS := Lib.hid hS
  have HI := Lib.hid hI
  have HZ1 : Hid (z1.length = len1) := Lib.hid hc1.1
  have HT1 := Lib.hid (fun w2 (hl1 : len1 ≤ 1048576) (h : Below w.heap.size w w2) => toSignalS_any w2 a1 len1 cap1 z1 hl1 (hc1.below h))
  have HX1 := Lib.hid (szSignalS_any w a1 len1 cap1 hk1)
  clear hS hI hc1
  have B0 : Hid (Below w.heap.size w w) := Lib.hid (Below.refl _ _)
  go_enter Try.func10, Try.ntmps10
  go_wp2_with fail
  go_at_call 13
  refine HX1.out.mono ?_
  rintro e w1 ⟨r, rfl, hr0, hr1, hr2, b1⟩
  have y1 := b1.size
  have B1 : Hid (Below w.heap.size w w1) := B0.out.trans (b1.mono (by omega))
  clear B0 b1 HX1
  by_cases hneg : r < 0
  · clear hr2
    go_wp2
    go_ret
    exact ⟨rfl, B1.out⟩
  have hl1 : len1 ≤ 1048576 := hr2 (by omega)
  have hzl1 : z1.length ≤ 1048576 := by have := HZ1.out; omega
  skip
  skip
  have HT1 := Lib.hid (fun w2 h => HT1.out w2 hl1 h)
  have HS := Lib.hid (HS.out hl1)
  have HI := Lib.hid (HI.out hl1)
  clear hr2
  go_wp2_with fail
  go_at_call 15
  refine (HT1.out w1 B1.out).mono ?_
  rintro e w2 ⟨c1, rfl, o2, b2⟩
  have y2 := b2.size
  have B2 : Hid (Below w.heap.size w w2) := B1.out.trans (b2.mono (by omega))
  clear B1
  have C1_2 := Lib.hid (OwnISignal.of o2)
  clear o2 b2
  obtain ⟨ca1, cc1, ce1, ch1, ck1⟩ := C1_2.out.1.cameC
  rw [HZ1.out] at ce1 ch1 ck1
  subst ce1
  have C2 := Lib.hid (HS.out w2 ca1 cc1 ch1 ck1)
  clear ch1 ck1
  go_wp2_with fail
  go_at_call 35
  refine (C2.out).mono ?_
  rintro e w3 ⟨rfl, b3⟩
  have y3 := b3.size
  have C1_3 := Lib.hid (C1_2.out.below b3 (by omega))
  have B3 : Hid (Below w.heap.size w w3) := B2.out.trans (b3.mono (by omega))
  clear C1_2 B2
  clear b3
  clear C1_3
  go_wp2_with fail
  go_at_call 15
  refine (HT1.out w3 B3.out).mono ?_
  rintro e w4 ⟨x1, rfl, o4, b4⟩
  have y4 := b4.size
  have B4 : Hid (Below w.heap.size w w4) := B3.out.trans (b4.mono (by omega))
  clear B3
  have X1_4 := Lib.hid (OwnISignal.of o4)
  clear o4 b4
  obtain ⟨xa1, xc1, xe1, xh1, xk1⟩ := X1_4.out.1.cameC
  rw [HZ1.out] at xe1 xh1 xk1
  subst xe1
  have C4 := Lib.hid (HI.out w4 xa1 xc1 xh1 xk1)
  clear xh1 xk1
  go_wp2_with fail
  go_at_call 36
  refine (C4.out).mono ?_
  rintro e w5 ⟨rfl, b5⟩
  have y5 := b5.size
  have X1_5 := Lib.hid (X1_4.out.below b5 (by omega))
  have B5 : Hid (Below w.heap.size w w5) := B4.out.trans (b5.mono (by omega))
  clear X1_4 B4
  clear b5
  go_wp2_with fail
  go_at_call 15
  refine (HT1.out w5 B5.out).mono ?_
  rintro e w6 ⟨t1, rfl, o6, b6⟩
  have y6 := b6.size
  have X1_6 := Lib.hid (X1_5.out.below b6 (by omega))
  have B6 : Hid (Below w.heap.size w w6) := B5.out.trans (b6.mono (by omega))
  clear X1_5 B5
  have T1_6 := Lib.hid (OwnISignal.of o6)
  clear o6 b6
  go_wp2_with fail
  go_at_call 17
  refine (eqSignalS_two w6 _ _ _ _ _ _ z1 (by omega) X1_6.out T1_6.out).mono ?_
  rintro e w7 ⟨rfl, b7⟩
  have y7 := b7.size
  have X1_7 := Lib.hid (X1_6.out.below b7 (by omega))
  have T1_7 := Lib.hid (T1_6.out.below b7 (by omega))
  have B7 : Hid (Below w.heap.size w w7) := B6.out.trans (b7.mono (by omega))
  clear X1_6 T1_6 B6
  clear b7
  clear T1_7
  go_wp2
  go_ret
  exact ⟨rfl, B7.out⟩

set_option maxHeartbeats 1000000 in
theorem walkFnExactTimeAllHear (p0 : Int) (a1 : Option Addr) (len1 cap1 : Nat) (z1 : List RSignal) (wf0 : (Lit.int .i64 p0).wf = true) (w : World) (hc1 : CameSignal w a1 len1 z1) (hk1 : len1 ≤ 9223372036854775807) :
    Calls Try.prog 10 #[.int .i64 p0, .slice a1 len1 cap1] w fun e w' => e = .returned (.bool true) ∧ Below w.heap.size w w' := by
  exact lawTimeAllHear w p0 a1 len1 cap1 z1 (outTimeAllHear_0 p0 z1) (outTimeAllHear_1 p0 z1) hc1 hk1
    (fun hl1 => fun w a1 cap1 hc1 hk1 => specTimeAllHear_any w p0 a1 len1 cap1 z1 wf0 hl1 hc1)
    (fun hl1 => fun w a1 cap1 hc1 hk1 => implTimeAllHear_any w p0 a1 len1 cap1 z1 wf0 hl1 hc1)

end Go.Proofs.Ytmlamcimncfmcaa
