/- The walk of the law FnExactFacingWithMistakes, out of the contracts of its two functions. -/
import Derived.Test.YtamodlmdlaeoiabDoorKinds
import Derived.Test.YtamodlmdlaeoiabDoorRMistake
import Derived.Test.YtamodlmdlaeoiabDoorIp
import Derived.Test.YtamodlmdlaeoiabDoorRMistake
namespace Go.Proofs.YtamodlmdlaeoiabDoor
open Go.ChangeShapes Go.WideShapes Go.ChangeAt Go.RowKit

set_option maxHeartbeats 4000000 in
theorem lawFacingWithMistakes (w : World) (p0 : ByteArray) (p1 : ByteArray) (a2 : Option Addr) (len2 cap2 : Nat) (z2 : List RMistake) (r0 : ByteArray) (r1 : Bool) (hl0 : p0.size ≤ 1048576) (hl1 : p1.size ≤ 1048576) (hc2 : CameMistake w a2 len2 z2) (hk2 : len2 ≤ 9223372036854775807) (ht_signOfTurn : Tab_signOfTurn w)
    (hS : len2 ≤ 1048576 → ∀ (w : World) (a2 : Option Addr) (cap2 : Nat), CameMistake w a2 len2 z2 → (len2 ≤ cap2 ∧ cap2 ≤ 9223372036854775807) → Calls Tryd.prog 10 #[.string p0, .string p1, .slice a2 len2 cap2] w fun e w' => e = .returned (.tuple #[.string r0, .bool r1]) ∧ Below w.heap.size w w')
    (hI : len2 ≤ 1048576 → ∀ (w : World) (a2 : Option Addr) (cap2 : Nat), CameMistake w a2 len2 z2 → (len2 ≤ cap2 ∧ cap2 ≤ 9223372036854775807) → Tab_signOfTurn w → Calls Tryd.prog 12 #[.string p0, .string p1, .slice a2 len2 cap2] w fun e w' => e = .returned (.tuple #[.string r0, .bool r1]) ∧ Below w.heap.size w w') :
    Calls Tryd.prog 3 #[.string p0, .string p1, .slice a2 len2 cap2] w fun e w' => e = .returned (.bool true) ∧ Below w.heap.size w w' := by
  have HS := Lib.hid hS
  have HI := Lib.hid hI
  have HT_signOfTurn := Lib.hid ht_signOfTurn
  clear ht_signOfTurn
  have HZ2 : Hid (z2.length = len2) := Lib.hid hc2.1
  have HT2 := Lib.hid (fun w2 (hl2 : len2 ≤ 1048576) (h : Below w.heap.size w w2) => toMistakeS_any w2 a2 len2 cap2 z2 hl2 (hc2.below h))
  have HX2 := Lib.hid (szMistakeS_any w a2 len2 cap2 z2 hk2 hc2)
  have HM2 := Lib.hid hc2.small
  clear hS hI hc2
  have B0 : Hid (Below w.heap.size w w) := Lib.hid (Below.refl _ _)
  go_enter Tryd.func3, Tryd.ntmps3
  go_wp2_with fail
  go_at_call 9
  refine HX2.out.mono ?_
  rintro e w1 ⟨r, rfl, hr0, hr1, hr2, b1⟩
  have y1 := b1.size
  have B1 : Hid (Below w.heap.size w w1) := B0.out.trans (b1.mono (by omega))
  clear B0 b1 HX2
  by_cases hneg : r < 0
  · clear hr2
    go_wp2
    go_ret
    exact ⟨rfl, B1.out⟩
  have hl2 : len2 ≤ 1048576 := hr2 (by omega)
  have hzl2 : z2.length ≤ 1048576 := by have := HZ2.out; omega
  have HT2 := Lib.hid (fun w2 h => HT2.out w2 hl2 h)
  have HS := Lib.hid (HS.out hl2)
  have HI := Lib.hid (HI.out hl2)
  clear hr2
  go_wp2_with fail
  go_at_call 11
  refine (HT2.out w1 B1.out).mono ?_
  rintro e w2 ⟨c2, rfl, o2, b2⟩
  have y2 := b2.size
  have B2 : Hid (Below w.heap.size w w2) := B1.out.trans (b2.mono (by omega))
  clear B1
  have C2_2 := Lib.hid (OwnIMistake.of o2)
  clear o2 b2
  obtain ⟨ca2, cc2, ce2, ch2, ck2⟩ := C2_2.out.1.cameC HM2.out
  rw [HZ2.out] at ce2 ch2 ck2
  subst ce2
  have C2 := Lib.hid (HS.out w2 ca2 cc2 ch2 ck2)
  clear ch2 ck2
  go_wp2_with fail
  go_at_call 10
  refine (C2.out).mono ?_
  rintro e w3 ⟨rfl, b3⟩
  have y3 := b3.size
  have C2_3 := Lib.hid (C2_2.out.below b3 (by omega))
  have B3 : Hid (Below w.heap.size w w3) := B2.out.trans (b3.mono (by omega))
  clear C2_2 B2
  clear b3
  clear C2_3
  go_wp2_with fail
  go_at_call 11
  refine (HT2.out w3 B3.out).mono ?_
  rintro e w4 ⟨x2, rfl, o4, b4⟩
  have y4 := b4.size
  have B4 : Hid (Below w.heap.size w w4) := B3.out.trans (b4.mono (by omega))
  clear B3
  have X2_4 := Lib.hid (OwnIMistake.of o4)
  clear o4 b4
  obtain ⟨xa2, xc2, xe2, xh2, xk2⟩ := X2_4.out.1.cameC HM2.out
  rw [HZ2.out] at xe2 xh2 xk2
  subst xe2
  have C4 := Lib.hid (HI.out w4 xa2 xc2 xh2 xk2 (HT_signOfTurn.out.below B4.out))
  clear xh2 xk2
  go_wp2_with fail
  go_at_call 12
  refine (C4.out).mono ?_
  rintro e w5 ⟨rfl, b5⟩
  have y5 := b5.size
  have X2_5 := Lib.hid (X2_4.out.below b5 (by omega))
  have B5 : Hid (Below w.heap.size w w5) := B4.out.trans (b5.mono (by omega))
  clear X2_4 B4
  clear b5
  go_wp2_with fail
  go_at_call 11
  refine (HT2.out w5 B5.out).mono ?_
  rintro e w6 ⟨t2, rfl, o6, b6⟩
  have y6 := b6.size
  have X2_6 := Lib.hid (X2_5.out.below b6 (by omega))
  have B6 : Hid (Below w.heap.size w w6) := B5.out.trans (b6.mono (by omega))
  clear X2_5 B5
  have T2_6 := Lib.hid (OwnIMistake.of o6)
  clear o6 b6
  go_wp2_with fail
  go_at_call 13
  refine (eqMistakeS_two w6 _ _ _ _ _ _ z2 (by omega) X2_6.out T2_6.out).mono ?_
  rintro e w7 ⟨rfl, b7⟩
  have y7 := b7.size
  have X2_7 := Lib.hid (X2_6.out.below b7 (by omega))
  have T2_7 := Lib.hid (T2_6.out.below b7 (by omega))
  have B7 : Hid (Below w.heap.size w w7) := B6.out.trans (b7.mono (by omega))
  clear X2_6 T2_6 B6
  clear b7
  clear T2_7
  go_wp2
  go_ret
  exact ⟨rfl, B7.out⟩

set_option maxHeartbeats 1000000 in
theorem walkFnExactFacingWithMistakes (p0 : ByteArray) (p1 : ByteArray) (a2 : Option Addr) (len2 cap2 : Nat) (z2 : List RMistake) (wf0 : p0.size ≤ maxLen) (wf1 : p1.size ≤ maxLen) (w : World) (hc2 : CameMistake w a2 len2 z2) (hk2 : len2 ≤ 9223372036854775807) (ht_signOfTurn : Tab_signOfTurn w) :
    Calls Tryd.prog 3 #[.string p0, .string p1, .slice a2 len2 cap2] w fun e w' => e = .returned (.bool true) ∧ Below w.heap.size w w' := by
  by_cases hl0 : p0.size ≤ 1048576
  case neg =>
    have b0 : decide ((1048576 : Int) < (p0.size : Nat)) = true := by simp; omega
    clear hc2 ht_signOfTurn
    go_enter Tryd.func3, Tryd.ntmps3
    go_wp2
    go_ret
    exact ⟨rfl, Below.refl _ _⟩
  by_cases hl1 : p1.size ≤ 1048576
  case neg =>
    have b1 : decide ((1048576 : Int) < (p1.size : Nat)) = true := by simp; omega
    clear hc2 ht_signOfTurn
    go_enter Tryd.func3, Tryd.ntmps3
    go_wp2
    go_ret
    exact ⟨rfl, Below.refl _ _⟩
  exact lawFacingWithMistakes w p0 p1 a2 len2 cap2 z2 (outFacingWithMistakes_0 p0 p1 z2) (outFacingWithMistakes_1 p0 p1 z2) hl0 hl1 hc2 hk2 ht_signOfTurn
    (fun hl2 => fun w a2 cap2 hc2 hk2 => specFacingWithMistakes_any w p0 p1 a2 len2 cap2 z2 wf0 wf1 hl0 hl1 hl2 hc2 hk2)
    (fun hl2 => fun w a2 cap2 hc2 hk2 ht_signOfTurn => implFacingWithMistakes_any w p0 p1 a2 len2 cap2 z2 wf0 wf1 hl0 hl1 hl2 hc2 hk2 ht_signOfTurn)

end Go.Proofs.YtamodlmdlaeoiabDoor
