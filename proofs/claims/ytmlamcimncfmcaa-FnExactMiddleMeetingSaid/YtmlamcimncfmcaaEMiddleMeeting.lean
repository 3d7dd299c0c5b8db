/- The walk of the law FnExactMiddleMeeting, out of the contracts of its two functions. -/
import Derived.Test.YtmlamcimncfmcaaKinds
import Derived.Test.YtmlamcimncfmcaaSjc
namespace Go.Proofs.Ytmlamcimncfmcaa
open Go.ChangeShapes Go.WideShapes Go.ChangeAt Go.RowKit

set_option maxHeartbeats 4000000 in
theorem lawMiddleMeeting (w : World) (p0 : Int) (r0 : Int) (r1 : Int) (r2 : Bool)
    (hS : ∀ (w : World), Calls Try.prog 37 #[.int .i64 p0] w fun e w' => e = .returned (.tuple #[.int .i64 r0, .int .i64 r1, .bool r2]) ∧ Below w.heap.size w w')
    (hI : ∀ (w : World), Calls Try.prog 38 #[.int .i64 p0] w fun e w' => e = .returned (.tuple #[.int .i64 r0, .int .i64 r1, .bool r2]) ∧ Below w.heap.size w w') :
    Calls Try.prog 11 #[.int .i64 p0] w fun e w' => e = .returned (.bool true) ∧ Below w.heap.size w w' := by
  have HS := Lib.hid hS
  have HI := Lib.hid hI
  clear hS hI
  have B0 : Hid (Below w.heap.size w w) := Lib.hid (Below.refl _ _)
  go_enter Try.func11, Try.ntmps11
  have C0 := Lib.hid (HS.out w)
  go_wp2_with fail
  go_at_call 37
  refine (C0.out).mono ?_
  rintro e w1 ⟨rfl, b1⟩
  have y1 := b1.size
  have B1 : Hid (Below w.heap.size w w1) := B0.out.trans (b1.mono (by omega))
  clear B0
  clear b1
  have C1 := Lib.hid (HI.out w1)
  go_wp2_with fail
  go_at_call 38
  refine (C1.out).mono ?_
  rintro e w2 ⟨rfl, b2⟩
  have y2 := b2.size
  have B2 : Hid (Below w.heap.size w w2) := B1.out.trans (b2.mono (by omega))
  clear B1
  clear b2
  go_wp2
  go_ret
  exact ⟨rfl, B2.out⟩

set_option maxHeartbeats 1000000 in
theorem walkFnExactMiddleMeeting (p0 : Int) (wf0 : (Lit.int .i64 p0).wf = true) (w : World) :
    Calls Try.prog 11 #[.int .i64 p0] w fun e w' => e = .returned (.bool true) ∧ Below w.heap.size w w' := by
  exact lawMiddleMeeting w p0 (outMiddleMeeting_0 p0) (outMiddleMeeting_1 p0) (outMiddleMeeting_2 p0)
    (fun w => specMiddleMeeting_any w p0 wf0)
    (fun w => implMiddleMeeting_any w p0 wf0)

end Go.Proofs.Ytmlamcimncfmcaa
