/- The walk of the law FnExactLeastTimeWith, out of the contracts of its two functions. -/
import Derived.Test.YtmlamcimncfmcaaKinds
import Derived.Test.YtmlamcimncfmcaaSie
import Derived.Test.YtmlamcimncfmcaaSje
namespace Go.Proofs.Ytmlamcimncfmcaa
open Go.ChangeShapes Go.WideShapes Go.ChangeAt Go.RowKit

set_option maxHeartbeats 4000000 in
theorem lawLeastTimeWith (w : World) (p0 : Int) (p1 : Int) (r0 : Int) (r1 : Bool)
    (hS : ∀ (w : World), Calls Try.prog 39 #[.int .i64 p0, .int .i64 p1] w fun e w' => e = .returned (.tuple #[.int .i64 r0, .bool r1]) ∧ Below w.heap.size w w')
    (hI : ∀ (w : World), Calls Try.prog 40 #[.int .i64 p0, .int .i64 p1] w fun e w' => e = .returned (.tuple #[.int .i64 r0, .bool r1]) ∧ Below w.heap.size w w') :
    Calls Try.prog 12 #[.int .i64 p0, .int .i64 p1] w fun e w' => e = .returned (.bool true) ∧ Below w.heap.size w w' := by
  have HS := Lib.hid hS
  have HI := Lib.hid hI
  clear hS hI
  have B0 : Hid (Below w.heap.size w w) := Lib.hid (Below.refl _ _)
  go_enter Try.func12, Try.ntmps12
  have C0 := Lib.hid (HS.out w)
  go_wp2_with fail
  go_at_call 39
  refine (C0.out).mono ?_
  rintro e w1 ⟨rfl, b1⟩
  have y1 := b1.size
  have B1 : Hid (Below w.heap.size w w1) := B0.out.trans (b1.mono (by omega))
  clear B0
  clear b1
  have C1 := Lib.hid (HI.out w1)
  go_wp2_with fail
  go_at_call 40
  refine (C1.out).mono ?_
  rintro e w2 ⟨rfl, b2⟩
  have y2 := b2.size
  have B2 : Hid (Below w.heap.size w w2) := B1.out.trans (b2.mono (by omega))
  clear B1
  clear b2
  go_wp2
  go_ret
  exact ⟨rfl, B2.out⟩

set_option maxHeartbeats 1000000 in
theorem walkFnExactLeastTimeWith (p0 : Int) (p1 : Int) (wf0 : (Lit.int .i64 p0).wf = true) (wf1 : (Lit.int .i64 p1).wf = true) (w : World) :
    Calls Try.prog 12 #[.int .i64 p0, .int .i64 p1] w fun e w' => e = .returned (.bool true) ∧ Below w.heap.size w w' := by
  exact lawLeastTimeWith w p0 p1 (outLeastTimeWith_0 p0 p1) (outLeastTimeWith_1 p0 p1)
    (fun w => specLeastTimeWith_any w p0 p1 wf0 wf1)
    (fun w => implLeastTimeWith_any w p0 p1 wf0 wf1)

end Go.Proofs.Ytmlamcimncfmcaa
