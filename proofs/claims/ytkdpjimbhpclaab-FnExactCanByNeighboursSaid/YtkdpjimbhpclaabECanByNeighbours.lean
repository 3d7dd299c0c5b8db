/- The walk of the law FnExactCanByNeighbours, out of the contracts of its two functions. -/
import Derived.Test.YtkdpjimbhpclaabKinds
import Derived.Test.YtkdpjimbhpclaabOde
import Derived.Test.YtkdpjimbhpclaabVz
namespace Go.Proofs.Ytkdpjimbhpclaab
open Go.ChangeShapes Go.WideShapes Go.ChangeAt Go.RowKit

set_option maxHeartbeats 4000000 in
theorem lawCanByNeighbours (w : World) (p0 : ByteArray) (p1 : ByteArray) (r0 : Bool) (r1 : Bool) (hl0 : p0.size ≤ 1048576) (hl1 : p1.size ≤ 1048576)
    (hS : ∀ (w : World), Calls Try.prog 11 #[.string p0, .string p1] w fun e w' => e = .returned (.tuple #[.bool r0, .bool r1]) ∧ Below w.heap.size w w')
    (hI : ∀ (w : World), Calls Try.prog 12 #[.string p0, .string p1] w fun e w' => e = .returned (.tuple #[.bool r0, .bool r1]) ∧ Below w.heap.size w w') :
    Calls Try.prog 3 #[.string p0, .string p1] w fun e w' => e = .returned (.bool true) ∧ Below w.heap.size w w' := by
  have HS := Lib.hid hS
  have HI := Lib.hid hI
  clear hS hI
  have B0 : Hid (Below w.heap.size w w) := Lib.hid (Below.refl _ _)
  go_enter Try.func3, Try.ntmps3
  have C0 := Lib.hid (HS.out w)
  go_wp2_with fail
  go_at_call 11
  refine (C0.out).mono ?_
  rintro e w1 ⟨rfl, b1⟩
  have y1 := b1.size
  have B1 : Hid (Below w.heap.size w w1) := B0.out.trans (b1.mono (by omega))
  clear B0
  clear b1
  have C1 := Lib.hid (HI.out w1)
  go_wp2_with fail
  go_at_call 12
  refine (C1.out).mono ?_
  rintro e w2 ⟨rfl, b2⟩
  have y2 := b2.size
  have B2 : Hid (Below w.heap.size w w2) := B1.out.trans (b2.mono (by omega))
  clear B1
  clear b2
  go_wp2
  go_ret
  exact ⟨rfl, B2.out⟩

set_option maxHeartbeats 1000000 in
theorem walkFnExactCanByNeighbours (p0 : ByteArray) (p1 : ByteArray) (wf0 : p0.size ≤ maxLen) (wf1 : p1.size ≤ maxLen) (w : World) :
    Calls Try.prog 3 #[.string p0, .string p1] w fun e w' => e = .returned (.bool true) ∧ Below w.heap.size w w' := by
  by_cases hl0 : p0.size ≤ 1048576
  case neg =>
    have b0 : decide ((1048576 : Int) < (p0.size : Nat)) = true := by simp; omega
    go_enter Try.func3, Try.ntmps3
    go_wp2
    go_ret
    exact ⟨rfl, Below.refl _ _⟩
  by_cases hl1 : p1.size ≤ 1048576
  case neg =>
    have b1 : decide ((1048576 : Int) < (p1.size : Nat)) = true := by simp; omega
    go_enter Try.func3, Try.ntmps3
    go_wp2
    go_ret
    exact ⟨rfl, Below.refl _ _⟩
  exact lawCanByNeighbours w p0 p1 (outCanByNeighbours_0 p0 p1) (outCanByNeighbours_1 p0 p1) hl0 hl1
    (fun w => specCanByNeighbours_any w p0 p1 wf0 wf1 hl0 hl1)
    (fun w => implCanByNeighbours_any w p0 p1 wf0 wf1 hl0 hl1)

end Go.Proofs.Ytkdpjimbhpclaab
