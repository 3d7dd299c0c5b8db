/- The walk of the law FnExactWrongSoldiers, out of the contracts of its two functions. -/
import Derived.Test.YtamodlmdlaeoiabDoorKinds
import Derived.Test.YtamodlmdlaeoiabDoorRMistake
import Derived.Test.YtamodlmdlaeoiabDoorIq
import Derived.Test.YtamodlmdlaeoiabDoorRMistake
namespace Go.Proofs.YtamodlmdlaeoiabDoor
open Go.ChangeShapes Go.WideShapes Go.ChangeAt Go.RowKit

set_option maxHeartbeats 4000000 in
theorem lawWrongSoldiers (w : World) (p0 : ByteArray) (p1 : ByteArray) (a2 : Option Addr) (len2 cap2 : Nat) (z2 : List RMistake) (r0 : List Int) (r1 : Bool) (hl0 : p0.size ≤ 1048576) (hl1 : p1.size ≤ 1048576) (ho0 : r0.length ≤ 4611686018427387904) (hc2 : CameMistake w a2 len2 z2) (hk2 : len2 ≤ 9223372036854775807) (ht_signOfTurn : Tab_signOfTurn w)
    (hS : len2 ≤ 1048576 → ∀ (w : World) (a2 : Option Addr) (cap2 : Nat), CameMistake w a2 len2 z2 → (len2 ≤ cap2 ∧ cap2 ≤ 9223372036854775807) → Calls Tryd.prog 14 #[.string p0, .string p1, .slice a2 len2 cap2] w fun e w' => ∃ v0, e = .returned (.tuple #[v0, .bool r1]) ∧ Own w' w.heap.size v0 r0 ∧ Below w.heap.size w w')
    (hI : len2 ≤ 1048576 → ∀ (w : World) (a2 : Option Addr) (cap2 : Nat), CameMistake w a2 len2 z2 → (len2 ≤ cap2 ∧ cap2 ≤ 9223372036854775807) → Tab_signOfTurn w → Calls Tryd.prog 15 #[.string p0, .string p1, .slice a2 len2 cap2] w fun e w' => ∃ v0, e = .returned (.tuple #[v0, .bool r1]) ∧ Own w' w.heap.size v0 r0 ∧ Below w.heap.size w w') :
    Calls Tryd.prog 4 #[.string p0, .string p1, .slice a2 len2 cap2] w fun e w' => e = .returned (.bool true) ∧ Below w.heap.size w w' := by
  have HS := Lib.hid hS
  have HI := Lib.hid hI
  have HT_signOfTurn := Lib.hid ht_signOfTurn
  clear ht_signOfTurn
  have HZ2 : Hid (z2.length = len2) := Lib.hid hc2.1
  have HT2 := Lib.hid (fun w2 (hl2 : len2 ≤ 1048576) (h : Below w.heap.size w w2) => toMistakeS_any w2 a2 len2 cap2 z2 hl2 (hc2.below h))
  have HX2 := Lib.hid (szMistakeS_any w a2 len2 cap2 z2 hk2 hc2)
  have HM2 := Lib.hid hc2.small
  obtain ⟨n0, hn0⟩ : ∃ n, n = r0.length := ⟨_, rfl⟩
  have HN0 := Lib.hid hn0
  have hm0 : n0 ≤ 4611686018427387904 := by omega
  clear hn0
  clear hS hI hc2
  have B0 : Hid (Below w.heap.size w w) := Lib.hid (Below.refl _ _)
  go_enter Tryd.func4, Tryd.ntmps4
  go_wp2_with fail
  go_at_call 9
  refine HX2.out.mono ?_
  rintro e w1 ⟨r, rfl, hr0, hr1, hr2, b1⟩
  have y1 := b1.size
  have B1 : Hid (Below w.heap.size w w1) := B0.out.trans (b1.mono (by omega))
  clear B0 b1 HX2
  by_cases hneg : r < 0
  · clear hr2
    go_wp2
    go_ret
    exact ⟨rfl, B1.out⟩
  have hl2 : len2 ≤ 1048576 := hr2 (by omega)
  have hzl2 : z2.length ≤ 1048576 := by have := HZ2.out; omega
  have HT2 := Lib.hid (fun w2 h => HT2.out w2 hl2 h)
  have HS := Lib.hid (HS.out hl2)
  have HI := Lib.hid (HI.out hl2)
  clear hr2
  go_wp2_with fail
  go_at_call 11
  refine (HT2.out w1 B1.out).mono ?_
  rintro e w2 ⟨c2, rfl, o2, b2⟩
  have y2 := b2.size
  have B2 : Hid (Below w.heap.size w w2) := B1.out.trans (b2.mono (by omega))
  clear B1
  have C2_2 := Lib.hid (OwnIMistake.of o2)
  clear o2 b2
  obtain ⟨ca2, cc2, ce2, ch2, ck2⟩ := C2_2.out.1.cameC HM2.out
  rw [HZ2.out] at ce2 ch2 ck2
  subst ce2
  have C2 := Lib.hid (HS.out w2 ca2 cc2 ch2 ck2)
  clear ch2 ck2
  go_wp2_with fail
  go_at_call 14
  refine (C2.out).mono ?_
  rintro e w3 ⟨v0, rfl, qv0, b3⟩
  have y3 := b3.size
  have C2_3 := Lib.hid (C2_2.out.below b3 (by omega))
  have B3 : Hid (Below w.heap.size w w3) := B2.out.trans (b3.mono (by omega))
  clear C2_2 B2
  have V0_3 := Lib.hid (OwnI.of qv0)
  clear qv0 b3
  clear C2_3
  go_wp2_with fail
  go_at_call 11
  refine (HT2.out w3 B3.out).mono ?_
  rintro e w4 ⟨x2, rfl, o4, b4⟩
  have y4 := b4.size
  have V0_4 := Lib.hid (V0_3.out.below b4 (by omega))
  have B4 : Hid (Below w.heap.size w w4) := B3.out.trans (b4.mono (by omega))
  clear V0_3 B3
  have X2_4 := Lib.hid (OwnIMistake.of o4)
  clear o4 b4
  obtain ⟨xa2, xc2, xe2, xh2, xk2⟩ := X2_4.out.1.cameC HM2.out
  rw [HZ2.out] at xe2 xh2 xk2
  subst xe2
  have C4 := Lib.hid (HI.out w4 xa2 xc2 xh2 xk2 (HT_signOfTurn.out.below B4.out))
  clear xh2 xk2
  go_wp2_with fail
  go_at_call 15
  refine (C4.out).mono ?_
  rintro e w5 ⟨g0, rfl, qg0, b5⟩
  have y5 := b5.size
  have V0_5 := Lib.hid (V0_4.out.below b5 (by omega))
  have X2_5 := Lib.hid (X2_4.out.below b5 (by omega))
  have B5 : Hid (Below w.heap.size w w5) := B4.out.trans (b5.mono (by omega))
  clear V0_4 X2_4 B4
  have G0_5 := Lib.hid (OwnI.of qg0)
  clear qg0 b5
  go_wp2_with fail
  go_at_call 16
  refine (eqIntS_two w5 _ _ _ _ _ _ r0 ho0 G0_5.out V0_5.out).mono ?_
  rintro e w6 ⟨rfl, b6⟩
  have y6 := b6.size
  have V0_6 := Lib.hid (V0_5.out.below b6 (by omega))
  have X2_6 := Lib.hid (X2_5.out.below b6 (by omega))
  have G0_6 := Lib.hid (G0_5.out.below b6 (by omega))
  have B6 : Hid (Below w.heap.size w w6) := B5.out.trans (b6.mono (by omega))
  clear V0_5 X2_5 G0_5 B5
  clear b6
  go_wp2_with fail
  go_at_call 11
  refine (HT2.out w6 B6.out).mono ?_
  rintro e w7 ⟨t2, rfl, o7, b7⟩
  have y7 := b7.size
  have V0_7 := Lib.hid (V0_6.out.below b7 (by omega))
  have X2_7 := Lib.hid (X2_6.out.below b7 (by omega))
  have G0_7 := Lib.hid (G0_6.out.below b7 (by omega))
  have B7 : Hid (Below w.heap.size w w7) := B6.out.trans (b7.mono (by omega))
  clear V0_6 X2_6 G0_6 B6
  have T2_7 := Lib.hid (OwnIMistake.of o7)
  clear o7 b7
  go_wp2_with fail
  go_at_call 13
  refine (eqMistakeS_two w7 _ _ _ _ _ _ z2 (by omega) X2_7.out T2_7.out).mono ?_
  rintro e w8 ⟨rfl, b8⟩
  have y8 := b8.size
  have V0_8 := Lib.hid (V0_7.out.below b8 (by omega))
  have X2_8 := Lib.hid (X2_7.out.below b8 (by omega))
  have G0_8 := Lib.hid (G0_7.out.below b8 (by omega))
  have T2_8 := Lib.hid (T2_7.out.below b8 (by omega))
  have B8 : Hid (Below w.heap.size w w8) := B7.out.trans (b8.mono (by omega))
  clear V0_7 X2_7 G0_7 T2_7 B7
  clear b8
  clear T2_8
  go_wp2_with fail
  go_at_call 17
  refine (markMistakeS_in w8 _ _ _ z2 (by omega) X2_8.out).mono ?_
  rintro e w9 ⟨rfl, o9, b9⟩
  have y9 := b9.size
  have V0_9 := Lib.hid (V0_8.out.betw b9 (by omega) (by omega))
  have G0_9 := Lib.hid (G0_8.out.betw b9 (by omega) (by omega))
  have B9 : Hid (Below w.heap.size w w9) := betw_below B8.out b9 (by omega)
  clear V0_8 X2_8 G0_8 B8
  have X2_9 := Lib.hid o9
  clear o9 b9
  rw [HZ2.out]
  go_wp2_with fail
  go_at_call 16
  refine (eqIntS_two w9 _ _ _ _ _ _ r0 ho0 G0_9.out V0_9.out).mono ?_
  rintro e w10 ⟨rfl, b10⟩
  have y10 := b10.size
  have V0_10 := Lib.hid (V0_9.out.below b10 (by omega))
  have X2_10 := Lib.hid (X2_9.out.below b10 (by omega))
  have G0_10 := Lib.hid (G0_9.out.below b10 (by omega))
  have B10 : Hid (Below w.heap.size w w10) := B9.out.trans (b10.mono (by omega))
  clear V0_9 X2_9 G0_9 B9
  clear b10
  clear X2_10
  go_wp2_with fail
  go_at_call 18
  refine (markIntS_in w10 _ _ _ r0 (1) ho0 (by omega) (by omega) G0_10.out).mono ?_
  rintro e w11 ⟨rfl, o11, b11⟩
  have y11 := b11.size
  have V0_11 := Lib.hid (V0_10.out.betw b11 (by omega) (by omega))
  have B11 : Hid (Below w.heap.size w w11) := betw_below B10.out b11 (by omega)
  clear V0_10 G0_10 B10
  have G0_11 := Lib.hid o11
  clear o11 b11
  rw [← HN0.out] at G0_11 ⊢
  go_wp2_with fail
  go_at_call 19
  refine (heldIntS_in w11 _ _ _ n0 1 hm0 (by omega) (by omega) G0_11.out).mono ?_
  rintro e ww ⟨rfl, rfl⟩
  go_wp2_with fail
  go_at_call 11
  refine (HT2.out w11 B11.out).mono ?_
  rintro e w12 ⟨d2, rfl, o12, b12⟩
  have y12 := b12.size
  have V0_12 := Lib.hid (V0_11.out.below b12 (by omega))
  have G0_12 := Lib.hid (G0_11.out.below b12 (by omega))
  have B12 : Hid (Below w.heap.size w w12) := B11.out.trans (b12.mono (by omega))
  clear V0_11 G0_11 B11
  have D2_12 := Lib.hid (OwnIMistake.of o12)
  clear o12 b12
  obtain ⟨da2, dc2, de2, dh2, dk2⟩ := D2_12.out.1.cameC HM2.out
  rw [HZ2.out] at de2 dh2 dk2
  subst de2
  have C12 := Lib.hid (HI.out w12 da2 dc2 dh2 dk2 (HT_signOfTurn.out.below B12.out))
  clear dh2 dk2
  go_wp2_with fail
  go_at_call 15
  refine (C12.out).mono ?_
  rintro e w13 ⟨h0, rfl, qh0, b13⟩
  have y13 := b13.size
  have V0_13 := Lib.hid (V0_12.out.below b13 (by omega))
  have G0_13 := Lib.hid (G0_12.out.below b13 (by omega))
  have D2_13 := Lib.hid (D2_12.out.below b13 (by omega))
  have B13 : Hid (Below w.heap.size w w13) := B12.out.trans (b13.mono (by omega))
  clear V0_12 G0_12 D2_12 B12
  have H0_13 := Lib.hid (OwnI.of qh0)
  clear qh0 b13
  clear D2_13
  go_wp2_with fail
  go_at_call 16
  refine (eqIntS_two w13 _ _ _ _ _ _ r0 ho0 H0_13.out V0_13.out).mono ?_
  rintro e w14 ⟨rfl, b14⟩
  have y14 := b14.size
  have V0_14 := Lib.hid (V0_13.out.below b14 (by omega))
  have G0_14 := Lib.hid (G0_13.out.below b14 (by omega))
  have H0_14 := Lib.hid (H0_13.out.below b14 (by omega))
  have B14 : Hid (Below w.heap.size w w14) := B13.out.trans (b14.mono (by omega))
  clear V0_13 G0_13 H0_13 B13
  clear b14
  go_wp2_with fail
  go_at_call 19
  refine (heldIntS_in w14 _ _ _ n0 1 hm0 (by omega) (by omega) G0_14.out).mono ?_
  rintro e ww ⟨rfl, rfl⟩
  go_wp2
  go_ret
  exact ⟨rfl, B14.out⟩

set_option maxHeartbeats 1000000 in
theorem walkFnExactWrongSoldiers (p0 : ByteArray) (p1 : ByteArray) (a2 : Option Addr) (len2 cap2 : Nat) (z2 : List RMistake) (wf0 : p0.size ≤ maxLen) (wf1 : p1.size ≤ maxLen) (w : World) (hc2 : CameMistake w a2 len2 z2) (hk2 : len2 ≤ 9223372036854775807) (ht_signOfTurn : Tab_signOfTurn w) :
    Calls Tryd.prog 4 #[.string p0, .string p1, .slice a2 len2 cap2] w fun e w' => e = .returned (.bool true) ∧ Below w.heap.size w w' := by
  by_cases hl0 : p0.size ≤ 1048576
  case neg =>
    have b0 : decide ((1048576 : Int) < (p0.size : Nat)) = true := by simp; omega
    clear hc2 ht_signOfTurn
    go_enter Tryd.func4, Tryd.ntmps4
    go_wp2
    go_ret
    exact ⟨rfl, Below.refl _ _⟩
  by_cases hl1 : p1.size ≤ 1048576
  case neg =>
    have b1 : decide ((1048576 : Int) < (p1.size : Nat)) = true := by simp; omega
    clear hc2 ht_signOfTurn
    go_enter Tryd.func4, Tryd.ntmps4
    go_wp2
    go_ret
    exact ⟨rfl, Below.refl _ _⟩
  exact lawWrongSoldiers w p0 p1 a2 len2 cap2 z2 (outWrongSoldiers_0 p0 p1 z2) (outWrongSoldiers_1 p0 p1 z2) hl0 hl1 (lenWrongSoldiers_0 p0 p1 z2 hl0 hl1) hc2 hk2 ht_signOfTurn
    (fun hl2 => fun w a2 cap2 hc2 hk2 => specWrongSoldiers_any w p0 p1 a2 len2 cap2 z2 wf0 wf1 hl0 hl1 hl2 hc2 hk2)
    (fun hl2 => fun w a2 cap2 hc2 hk2 ht_signOfTurn => implWrongSoldiers_any w p0 p1 a2 len2 cap2 z2 wf0 wf1 hl0 hl1 hl2 hc2 hk2 ht_signOfTurn)

end Go.Proofs.YtamodlmdlaeoiabDoor
