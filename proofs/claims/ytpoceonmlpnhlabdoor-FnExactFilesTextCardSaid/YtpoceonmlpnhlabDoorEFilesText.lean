/- The walk of the law FnExactFilesText, out of the contracts of its two functions. -/
import Derived.Test.YtpoceonmlpnhlabDoorKinds
import Derived.Test.YtpoceonmlpnhlabDoorCa
import Derived.Test.YtpoceonmlpnhlabDoorOwnSS
import Derived.Test.YtpoceonmlpnhlabDoorFib
import Derived.Test.YtpoceonmlpnhlabDoorKs
namespace Go.Proofs.YtpoceonmlpnhlabDoor
open Go.ChangeShapes Go.WideShapes Go.ChangeAt Go.RowKit

set_option maxHeartbeats 4000000 in
theorem lawFilesText (w : World) (a0 : Option Addr) (len0 cap0 : Nat) (z0 : List (List Int)) (r0 : ByteArray) (r1 : Bool) (hc0 : CameSS w a0 len0 z0) (hk0 : len0 ≤ 9223372036854775807) (ht_libPow : Tab_libPow w)
    (hS : FitsSS z0 → ∀ (w : World) (a0 : Option Addr) (cap0 : Nat), CameSS w a0 len0 z0 → (len0 ≤ cap0 ∧ cap0 ≤ 9223372036854775807) → Calls Tryd.prog 6 #[.slice a0 len0 cap0] w fun e w' => e = .returned (.tuple #[.string r0, .bool r1]) ∧ Below w.heap.size w w')
    (hI : FitsSS z0 → ∀ (w : World) (a0 : Option Addr) (cap0 : Nat), CameSS w a0 len0 z0 → (len0 ≤ cap0 ∧ cap0 ≤ 9223372036854775807) → Tab_libPow w → Calls Tryd.prog 8 #[.slice a0 len0 cap0] w fun e w' => e = .returned (.tuple #[.string r0, .bool r1]) ∧ Below w.heap.size w w') :
    Calls Tryd.prog 3 #[.slice a0 len0 cap0] w fun e w' => e = .returned (.bool true) ∧ Below w.heap.size w w' := by
  have HS := Lib.hid hS
  have HI := Lib.hid hI
  have HT_libPow := Lib.hid ht_libPow
  clear ht_libPow
  have HZ0 : Hid (z0.length = len0) := Lib.hid hc0.1
  have HT0 := Lib.hid (fun w2 (hl0 : FitsSS z0) (h : Below w.heap.size w w2) => toIntSS_any w2 a0 len0 cap0 z0 hl0 (hc0.below h))
  have HX0 := Lib.hid (szIntSS_any w a0 len0 cap0 z0 hk0 hc0)
  clear hS hI hc0
  have B0 : Hid (Below w.heap.size w w) := Lib.hid (Below.refl _ _)
  go_enter Tryd.func3, Tryd.ntmps3
  go_wp2_with fail
  go_at_call 5
  refine HX0.out.mono ?_
  rintro e w1 ⟨r, rfl, hr0, hr1, hr2, b1⟩
  have y1 := b1.size
  have B1 : Hid (Below w.heap.size w w1) := B0.out.trans (b1.mono (by omega))
  clear B0 b1 HX0
  by_cases hneg : r < 0
  · clear hr2
    go_wp2
    go_ret
    exact ⟨rfl, B1.out⟩
  have hl0 : FitsSS z0 := hr2 (by omega)
  have hzl0 : z0.length ≤ 1048576 := by exact hl0.1
  have HG0 : Hid (z0.length ≤ 1000000000 ∧ total z0 ≤ 1000000000) := Lib.hid hl0.fits
  have htz0 : total z0 ≤ 1048576 := hl0.2
  have HT0 := Lib.hid (fun w2 h => HT0.out w2 hl0 h)
  have HS := Lib.hid (HS.out hl0)
  have HI := Lib.hid (HI.out hl0)
  clear hr2
  go_wp2_with fail
  go_at_call 7
  refine (HT0.out w1 B1.out).mono ?_
  rintro e w2 ⟨c0, rfl, o2, b2⟩
  have y2 := b2.size
  have B2 : Hid (Below w.heap.size w w2) := B1.out.trans (b2.mono (by omega))
  clear B1
  have C0_2 := Lib.hid (OwnJ.of o2)
  clear o2 b2
  obtain ⟨ca0, cc0, ce0, ch0, ck0⟩ := C0_2.out.cameC
  rw [HZ0.out] at ce0 ch0 ck0
  subst ce0
  have C2 := Lib.hid (HS.out w2 ca0 cc0 ch0 ck0)
  clear ch0 ck0
  go_wp2_with fail
  go_at_call 6
  refine (C2.out).mono ?_
  rintro e w3 ⟨rfl, b3⟩
  have y3 := b3.size
  have C0_3 := Lib.hid (C0_2.out.below b3 (by omega))
  have B3 : Hid (Below w.heap.size w w3) := B2.out.trans (b3.mono (by omega))
  clear C0_2 B2
  clear b3
  clear C0_3
  go_wp2_with fail
  go_at_call 7
  refine (HT0.out w3 B3.out).mono ?_
  rintro e w4 ⟨x0, rfl, o4, b4⟩
  have y4 := b4.size
  have B4 : Hid (Below w.heap.size w w4) := B3.out.trans (b4.mono (by omega))
  clear B3
  have X0_4 := Lib.hid (OwnJ.of o4)
  clear o4 b4
  obtain ⟨xa0, xc0, xe0, xh0, xk0⟩ := X0_4.out.cameC
  rw [HZ0.out] at xe0 xh0 xk0
  subst xe0
  have C4 := Lib.hid (HI.out w4 xa0 xc0 xh0 xk0 (HT_libPow.out.below B4.out))
  clear xh0 xk0
  go_wp2_with fail
  go_at_call 8
  refine (C4.out).mono ?_
  rintro e w5 ⟨rfl, b5⟩
  have y5 := b5.size
  have X0_5 := Lib.hid (X0_4.out.below b5 (by omega))
  have B5 : Hid (Below w.heap.size w w5) := B4.out.trans (b5.mono (by omega))
  clear X0_4 B4
  clear b5
  go_wp2_with fail
  go_at_call 7
  refine (HT0.out w5 B5.out).mono ?_
  rintro e w6 ⟨t0, rfl, o6, b6⟩
  have y6 := b6.size
  have X0_6 := Lib.hid (X0_5.out.below b6 (by omega))
  have B6 : Hid (Below w.heap.size w w6) := B5.out.trans (b6.mono (by omega))
  clear X0_5 B5
  have T0_6 := Lib.hid (OwnJ.of o6)
  clear o6 b6
  go_wp2_with fail
  go_at_call 9
  refine (eqIntSS_two w6 _ _ _ _ _ _ z0 (eqFits_IntSS HG0.out) X0_6.out T0_6.out).mono ?_
  rintro e w7 ⟨rfl, b7⟩
  have y7 := b7.size
  have X0_7 := Lib.hid (X0_6.out.below b7 (by omega))
  have T0_7 := Lib.hid (T0_6.out.below b7 (by omega))
  have B7 : Hid (Below w.heap.size w w7) := B6.out.trans (b7.mono (by omega))
  clear X0_6 T0_6 B6
  clear b7
  clear T0_7
  go_wp2
  go_ret
  exact ⟨rfl, B7.out⟩

set_option maxHeartbeats 1000000 in
theorem walkFnExactFilesText (a0 : Option Addr) (len0 cap0 : Nat) (z0 : List (List Int)) (w : World) (hc0 : CameSS w a0 len0 z0) (hk0 : len0 ≤ 9223372036854775807) (ht_libPow : Tab_libPow w) :
    Calls Tryd.prog 3 #[.slice a0 len0 cap0] w fun e w' => e = .returned (.bool true) ∧ Below w.heap.size w w' := by
  exact lawFilesText w a0 len0 cap0 z0 (outFilesText_0 z0) (outFilesText_1 z0) hc0 hk0 ht_libPow
    (fun hl0 => fun w a0 cap0 hc0 hk0 => specFilesText_any w a0 len0 cap0 z0 hl0 hc0)
    (fun hl0 => fun w a0 cap0 hc0 hk0 ht_libPow => implFilesText_any w a0 len0 cap0 z0 hl0 hc0 ht_libPow)

end Go.Proofs.YtpoceonmlpnhlabDoor
