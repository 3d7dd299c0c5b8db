/- The walk of the law FnExactTurnAround, out of the contracts of its two functions. -/
import Derived.Test.YtkdpjimbhpclaaaKinds
import Derived.Test.YtkdpjimbhpclaaaOda
import Derived.Test.YtkdpjimbhpclaaaVu
namespace Go.Proofs.Ytkdpjimbhpclaaa
open Go.ChangeShapes Go.WideShapes Go.ChangeAt Go.RowKit

set_option maxHeartbeats 4000000 in
theorem lawTurnAround (w : World) (p0 : ByteArray) (p1 : Int) (r0 : ByteArray) (r1 : Bool) (hl0 : p0.size ≤ 1048576)
    (hS : ∀ (w : World), Calls Try.prog 17 #[.string p0, .int .i64 p1] w fun e w' => e = .returned (.tuple #[.string r0, .bool r1]) ∧ Below w.heap.size w w')
    (hI : ∀ (w : World), Calls Try.prog 18 #[.string p0, .int .i64 p1] w fun e w' => e = .returned (.tuple #[.string r0, .bool r1]) ∧ Below w.heap.size w w') :
    Calls Try.prog 5 #[.string p0, .int .i64 p1] w fun e w' => e = .returned (.bool true) ∧ Below w.heap.size w w' := by
  have HS := Lib.hid hS
  have HI := Lib.hid hI
  clear hS hI
  have B0 : Hid (Below w.heap.size w w) := Lib.hid (Below.refl _ _)
  go_enter Try.func5, Try.ntmps5
  have C0 := Lib.hid (HS.out w)
  go_wp2_with fail
  go_at_call 17
  refine (C0.out).mono ?_
  rintro e w1 ⟨rfl, b1⟩
  have y1 := b1.size
  have B1 : Hid (Below w.heap.size w w1) := B0.out.trans (b1.mono (by omega))
  clear B0
  clear b1
  have C1 := Lib.hid (HI.out w1)
  go_wp2_with fail
  go_at_call 18
  refine (C1.out).mono ?_
  rintro e w2 ⟨rfl, b2⟩
  have y2 := b2.size
  have B2 : Hid (Below w.heap.size w w2) := B1.out.trans (b2.mono (by omega))
  clear B1
  clear b2
  go_wp2
  go_ret
  exact ⟨rfl, B2.out⟩

set_option maxHeartbeats 1000000 in
theorem walkFnExactTurnAround (p0 : ByteArray) (p1 : Int) (wf0 : p0.size ≤ maxLen) (wf1 : (Lit.int .i64 p1).wf = true) (w : World) :
    Calls Try.prog 5 #[.string p0, .int .i64 p1] w fun e w' => e = .returned (.bool true) ∧ Below w.heap.size w w' := by
  by_cases hl0 : p0.size ≤ 1048576
  case neg =>
    have b0 : decide ((1048576 : Int) < (p0.size : Nat)) = true := by simp; omega
    go_enter Try.func5, Try.ntmps5
    go_wp2
    go_ret
    exact ⟨rfl, Below.refl _ _⟩
  exact lawTurnAround w p0 p1 (outTurnAround_0 p0 p1) (outTurnAround_1 p0 p1) hl0
    (fun w => specTurnAround_any w p0 p1 wf0 wf1 hl0)
    (fun w => implTurnAround_any w p0 p1 wf0 wf1 hl0)

end Go.Proofs.Ytkdpjimbhpclaaa
