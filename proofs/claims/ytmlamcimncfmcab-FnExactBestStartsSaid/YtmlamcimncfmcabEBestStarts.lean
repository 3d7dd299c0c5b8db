/- The walk of the law FnExactBestStarts, out of the contracts of its two functions. -/
import Derived.Test.YtmlamcimncfmcabKinds
import Derived.Test.YtmlamcimncfmcabSik
import Derived.Test.YtmlamcimncfmcabSjl
namespace Go.Proofs.Ytmlamcimncfmcab
open Go.ChangeShapes Go.WideShapes Go.ChangeAt Go.RowKit

set_option maxHeartbeats 4000000 in
theorem lawBestStarts (w : World) (p0 : Int) (p1 : Int) (r0 : List Int) (r1 : Bool) (ho0 : r0.length ≤ 4611686018427387904)
    (hS : ∀ (w : World), Calls Try.prog 7 #[.int .i64 p0, .int .i64 p1] w fun e w' => ∃ v0, e = .returned (.tuple #[v0, .bool r1]) ∧ Own w' w.heap.size v0 r0 ∧ Below w.heap.size w w')
    (hI : ∀ (w : World), Calls Try.prog 8 #[.int .i64 p0, .int .i64 p1] w fun e w' => ∃ v0, e = .returned (.tuple #[v0, .bool r1]) ∧ Own w' w.heap.size v0 r0 ∧ Below w.heap.size w w') :
    Calls Try.prog 3 #[.int .i64 p0, .int .i64 p1] w fun e w' => e = .returned (.bool true) ∧ Below w.heap.size w w' := by
  have HS := Lib.hid hS
  have HI := Lib.hid hI
  obtain ⟨n0, hn0⟩ : ∃ n, n = r0.length := ⟨_, rfl⟩
  have HN0 := Lib.hid hn0
  have hm0 : n0 ≤ 4611686018427387904 := by omega
  clear hn0
  clear hS hI
  have B0 : Hid (Below w.heap.size w w) := Lib.hid (Below.refl _ _)
  go_enter Try.func3, Try.ntmps3
  have C0 := Lib.hid (HS.out w)
  go_wp2_with fail
  go_at_call 7
  refine (C0.out).mono ?_
  rintro e w1 ⟨v0, rfl, qv0, b1⟩
  have y1 := b1.size
  have B1 : Hid (Below w.heap.size w w1) := B0.out.trans (b1.mono (by omega))
  clear B0
  have V0_1 := Lib.hid (OwnI.of qv0)
  clear qv0 b1
  have C1 := Lib.hid (HI.out w1)
  go_wp2_with fail
  go_at_call 8
  refine (C1.out).mono ?_
  rintro e w2 ⟨g0, rfl, qg0, b2⟩
  have y2 := b2.size
  have V0_2 := Lib.hid (V0_1.out.below b2 (by omega))
  have B2 : Hid (Below w.heap.size w w2) := B1.out.trans (b2.mono (by omega))
  clear V0_1 B1
  have G0_2 := Lib.hid (OwnI.of qg0)
  clear qg0 b2
  go_wp2_with fail
  go_at_call 9
  refine (eqIntS_two w2 _ _ _ _ _ _ r0 ho0 G0_2.out V0_2.out).mono ?_
  rintro e w3 ⟨rfl, b3⟩
  have y3 := b3.size
  have V0_3 := Lib.hid (V0_2.out.below b3 (by omega))
  have G0_3 := Lib.hid (G0_2.out.below b3 (by omega))
  have B3 : Hid (Below w.heap.size w w3) := B2.out.trans (b3.mono (by omega))
  clear V0_2 G0_2 B2
  clear b3
  go_wp2_with fail
  go_at_call 10
  refine (markIntS_in w3 _ _ _ r0 (1) ho0 (by omega) (by omega) G0_3.out).mono ?_
  rintro e w4 ⟨rfl, o4, b4⟩
  have y4 := b4.size
  have V0_4 := Lib.hid (V0_3.out.betw b4 (by omega) (by omega))
  have B4 : Hid (Below w.heap.size w w4) := betw_below B3.out b4 (by omega)
  clear V0_3 G0_3 B3
  have G0_4 := Lib.hid o4
  clear o4 b4
  rw [← HN0.out] at G0_4 ⊢
  go_wp2_with fail
  go_at_call 11
  refine (heldIntS_in w4 _ _ _ n0 1 hm0 (by omega) (by omega) G0_4.out).mono ?_
  rintro e ww ⟨rfl, rfl⟩
  have C4 := Lib.hid (HI.out w4)
  go_wp2_with fail
  go_at_call 8
  refine (C4.out).mono ?_
  rintro e w5 ⟨h0, rfl, qh0, b5⟩
  have y5 := b5.size
  have V0_5 := Lib.hid (V0_4.out.below b5 (by omega))
  have G0_5 := Lib.hid (G0_4.out.below b5 (by omega))
  have B5 : Hid (Below w.heap.size w w5) := B4.out.trans (b5.mono (by omega))
  clear V0_4 G0_4 B4
  have H0_5 := Lib.hid (OwnI.of qh0)
  clear qh0 b5
  go_wp2_with fail
  go_at_call 9
  refine (eqIntS_two w5 _ _ _ _ _ _ r0 ho0 H0_5.out V0_5.out).mono ?_
  rintro e w6 ⟨rfl, b6⟩
  have y6 := b6.size
  have V0_6 := Lib.hid (V0_5.out.below b6 (by omega))
  have G0_6 := Lib.hid (G0_5.out.below b6 (by omega))
  have H0_6 := Lib.hid (H0_5.out.below b6 (by omega))
  have B6 : Hid (Below w.heap.size w w6) := B5.out.trans (b6.mono (by omega))
  clear V0_5 G0_5 H0_5 B5
  clear b6
  go_wp2_with fail
  go_at_call 11
  refine (heldIntS_in w6 _ _ _ n0 1 hm0 (by omega) (by omega) G0_6.out).mono ?_
  rintro e ww ⟨rfl, rfl⟩
  go_wp2
  go_ret
  exact ⟨rfl, B6.out⟩

set_option maxHeartbeats 1000000 in
theorem walkFnExactBestStarts (p0 : Int) (p1 : Int) (wf0 : (Lit.int .i64 p0).wf = true) (wf1 : (Lit.int .i64 p1).wf = true) (w : World) :
    Calls Try.prog 3 #[.int .i64 p0, .int .i64 p1] w fun e w' => e = .returned (.bool true) ∧ Below w.heap.size w w' := by
  exact lawBestStarts w p0 p1 (outBestStarts_0 p0 p1) (outBestStarts_1 p0 p1) (lenBestStarts_0 p0 p1)
    (fun w => specBestStarts_any w p0 p1 wf0 wf1)
    (fun w => implBestStarts_any w p0 p1 wf0 wf1)

end Go.Proofs.Ytmlamcimncfmcab
