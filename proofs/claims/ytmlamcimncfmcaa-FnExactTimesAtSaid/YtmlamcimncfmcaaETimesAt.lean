/- The walk of the law FnExactTimesAt, out of the contracts of its two functions. -/
import Derived.Test.YtmlamcimncfmcaaKinds
import Derived.Test.YtmlamcimncfmcaaBxS
import Derived.Test.YtmlamcimncfmcaaSjc
namespace Go.Proofs.Ytmlamcimncfmcaa
open Go.ChangeShapes Go.WideShapes Go.ChangeAt Go.RowKit

set_option maxHeartbeats 4000000 in
theorem lawTimesAt (w : World) (p0 : Int) (gf1 : Int) (gl1 : Bool) (gs1 : Int) (p2 : Int) (p3 : Int) (r0 : List Int) (r1 : Bool) (ho0 : r0.length ≤ 4611686018427387904)
    (hS : ∀ (w : World), Calls Try.prog 23 #[.int .i64 p0, .agg #[.int .i64 gf1, .bool gl1, .int .i64 gs1], .int .i64 p2, .int .i64 p3] w fun e w' => ∃ v0, e = .returned (.tuple #[v0, .bool r1]) ∧ Own w' w.heap.size v0 r0 ∧ Below w.heap.size w w')
    (hI : ∀ (w : World), Calls Try.prog 24 #[.int .i64 p0, .agg #[.int .i64 gf1, .bool gl1, .int .i64 gs1], .int .i64 p2, .int .i64 p3] w fun e w' => ∃ v0, e = .returned (.tuple #[v0, .bool r1]) ∧ Own w' w.heap.size v0 r0 ∧ Below w.heap.size w w') :
    Calls Try.prog 6 #[.int .i64 p0, .agg #[.int .i64 gf1, .bool gl1, .int .i64 gs1], .int .i64 p2, .int .i64 p3] w fun e w' => e = .returned (.bool true) ∧ Below w.heap.size w w' := by
  have HS := Lib.hid hS
  have HI := Lib.hid hI
  obtain ⟨w0, hw_1⟩ : ∃ w0, w0 = w.alloc (.cells #[.int .i64 gf1, .bool gl1, .int .i64 gs1] 30) := ⟨_, rfl⟩
  have HW_1 : Hid (Below w.heap.size w w0) := Lib.hid (by rw [hw_1]; exact (Below.refl _ _).alloc (Nat.le_refl _) _)
  obtain ⟨pb1, hpb1⟩ : ∃ pb, pb = w.heap.size := ⟨_, rfl⟩
  have HPC1 : Hid (BoxSignal w0 pb1 gf1 gl1 gs1) := Lib.hid (by rw [hw_1, hpb1]; exact boxSignal_new _ gf1 gl1 gs1)
  have HTG1 := Lib.hid (fun w2 => toSignal_any gf1 gl1 gs1 w2)
  have HW0 : Hid (Below w.heap.size w w0) := HW_1
  have HPC1 : Hid (∀ w2, Below w0.heap.size w0 w2 → BoxSignal w2 pb1 gf1 gl1 gs1) := Lib.hid (fun w2 h => HPC1.out.below h)
  clear HW_1
  obtain ⟨n0, hn0⟩ : ∃ n, n = r0.length := ⟨_, rfl⟩
  have HN0 := Lib.hid hn0
  have hm0 : n0 ≤ 4611686018427387904 := by omega
  clear hn0
  clear hS hI
  have B0 : Hid (Below w0.heap.size w0 w0) := Lib.hid (Below.refl _ _)
  go_enter Try.func6, Try.ntmps6
  go_wp2_with fail
  rw [← hw_1, ← hpb1]
  clear hw_1 hpb1
  obtain ⟨bc0, bc1, bc2⟩ := HPC1.out w0 B0.out
  go_at_call 19
  refine (HTG1.out w0).mono ?_
  rintro e w1 ⟨rfl, b1⟩
  have y1 := b1.size
  have B1 : Hid (Below w0.heap.size w0 w1) := B0.out.trans (b1.mono (by omega))
  clear B0
  clear b1 bc0 bc1 bc2
  have C1 := Lib.hid (HS.out w1)
  go_wp2_with fail
  go_at_call 23
  refine (C1.out).mono ?_
  rintro e w2 ⟨v0, rfl, qv0, b2⟩
  have y2 := b2.size
  have B2 : Hid (Below w0.heap.size w0 w2) := B1.out.trans (b2.mono (by omega))
  clear B1
  have V0_2 := Lib.hid (OwnI.of qv0)
  clear qv0 b2
  obtain ⟨bc0, bc1, bc2⟩ := HPC1.out w2 B2.out
  go_wp2_with fail
  go_at_call 19
  refine (HTG1.out w2).mono ?_
  rintro e w3 ⟨rfl, b3⟩
  have y3 := b3.size
  have V0_3 := Lib.hid (V0_2.out.below b3 (by omega))
  have B3 : Hid (Below w0.heap.size w0 w3) := B2.out.trans (b3.mono (by omega))
  clear V0_2 B2
  clear b3 bc0 bc1 bc2
  have C3 := Lib.hid (HI.out w3)
  go_wp2_with fail
  go_at_call 24
  refine (C3.out).mono ?_
  rintro e w4 ⟨g0, rfl, qg0, b4⟩
  have y4 := b4.size
  have V0_4 := Lib.hid (V0_3.out.below b4 (by omega))
  have B4 : Hid (Below w0.heap.size w0 w4) := B3.out.trans (b4.mono (by omega))
  clear V0_3 B3
  have G0_4 := Lib.hid (OwnI.of qg0)
  clear qg0 b4
  go_wp2_with fail
  go_at_call 25
  refine (eqIntS_two w4 _ _ _ _ _ _ r0 ho0 G0_4.out V0_4.out).mono ?_
  rintro e w5 ⟨rfl, b5⟩
  have y5 := b5.size
  have V0_5 := Lib.hid (V0_4.out.below b5 (by omega))
  have G0_5 := Lib.hid (G0_4.out.below b5 (by omega))
  have B5 : Hid (Below w0.heap.size w0 w5) := B4.out.trans (b5.mono (by omega))
  clear V0_4 G0_4 B4
  clear b5
  go_wp2_with fail
  go_at_call 26
  refine (markIntS_in w5 _ _ _ r0 (1) ho0 (by omega) (by omega) G0_5.out).mono ?_
  rintro e w6 ⟨rfl, o6, b6⟩
  have y6 := b6.size
  have V0_6 := Lib.hid (V0_5.out.betw b6 (by omega) (by omega))
  have B6 : Hid (Below w0.heap.size w0 w6) := betw_below B5.out b6 (by omega)
  clear V0_5 G0_5 B5
  have G0_6 := Lib.hid o6
  clear o6 b6
  rw [← HN0.out] at G0_6 ⊢
  go_wp2_with fail
  go_at_call 27
  refine (heldIntS_in w6 _ _ _ n0 1 hm0 (by omega) (by omega) G0_6.out).mono ?_
  rintro e ww ⟨rfl, rfl⟩
  obtain ⟨bc0, bc1, bc2⟩ := HPC1.out w6 B6.out
  go_wp2_with fail
  go_at_call 19
  refine (HTG1.out w6).mono ?_
  rintro e w7 ⟨rfl, b7⟩
  have y7 := b7.size
  have V0_7 := Lib.hid (V0_6.out.below b7 (by omega))
  have G0_7 := Lib.hid (G0_6.out.below b7 (by omega))
  have B7 : Hid (Below w0.heap.size w0 w7) := B6.out.trans (b7.mono (by omega))
  clear V0_6 G0_6 B6
  clear b7 bc0 bc1 bc2
  have C7 := Lib.hid (HI.out w7)
  go_wp2_with fail
  go_at_call 24
  refine (C7.out).mono ?_
  rintro e w8 ⟨h0, rfl, qh0, b8⟩
  have y8 := b8.size
  have V0_8 := Lib.hid (V0_7.out.below b8 (by omega))
  have G0_8 := Lib.hid (G0_7.out.below b8 (by omega))
  have B8 : Hid (Below w0.heap.size w0 w8) := B7.out.trans (b8.mono (by omega))
  clear V0_7 G0_7 B7
  have H0_8 := Lib.hid (OwnI.of qh0)
  clear qh0 b8
  go_wp2_with fail
  go_at_call 25
  refine (eqIntS_two w8 _ _ _ _ _ _ r0 ho0 H0_8.out V0_8.out).mono ?_
  rintro e w9 ⟨rfl, b9⟩
  have y9 := b9.size
  have V0_9 := Lib.hid (V0_8.out.below b9 (by omega))
  have G0_9 := Lib.hid (G0_8.out.below b9 (by omega))
  have H0_9 := Lib.hid (H0_8.out.below b9 (by omega))
  have B9 : Hid (Below w0.heap.size w0 w9) := B8.out.trans (b9.mono (by omega))
  clear V0_8 G0_8 H0_8 B8
  clear b9
  go_wp2_with fail
  go_at_call 27
  refine (heldIntS_in w9 _ _ _ n0 1 hm0 (by omega) (by omega) G0_9.out).mono ?_
  rintro e ww ⟨rfl, rfl⟩
  go_wp2
  go_ret
  exact ⟨rfl, HW0.out.trans (B9.out.mono HW0.out.size)⟩

set_option maxHeartbeats 1000000 in
theorem walkFnExactTimesAt (p0 : Int) (gf1 : Int) (gl1 : Bool) (gs1 : Int) (p2 : Int) (p3 : Int) (wf0 : (Lit.int .i64 p0).wf = true) (wf2 : (Lit.int .i64 p2).wf = true) (wf3 : (Lit.int .i64 p3).wf = true) (w : World) :
    Calls Try.prog 6 #[.int .i64 p0, .agg #[.int .i64 gf1, .bool gl1, .int .i64 gs1], .int .i64 p2, .int .i64 p3] w fun e w' => e = .returned (.bool true) ∧ Below w.heap.size w w' := by
  exact lawTimesAt w p0 gf1 gl1 gs1 p2 p3 (outTimesAt_0 p0 (gf1, gl1, gs1) p2 p3) (outTimesAt_1 p0 (gf1, gl1, gs1) p2 p3) (lenTimesAt_0 p0 (gf1, gl1, gs1) p2 p3)
    (fun w => specTimesAt_any w p0 gf1 gl1 gs1 p2 p3 wf0 wf2 wf3)
    (fun w => implTimesAt_any w p0 gf1 gl1 gs1 p2 p3 wf0 wf2 wf3)

end Go.Proofs.Ytmlamcimncfmcaa
