/- The walk of the law FnExactFacingAfter, out of the contracts of its two functions. -/
import Derived.Test.YtamodlmdlaeoiaaDoorKinds
import Derived.Test.YtamodlmdlaeoiaaDoorIp
namespace Go.Proofs.YtamodlmdlaeoiaaDoor
open Go.ChangeShapes Go.WideShapes Go.ChangeAt Go.RowKit

set_option maxHeartbeats 4000000 in
theorem lawFacingAfter (w : World) (p0 : ByteArray) (p1 : ByteArray) (r0 : ByteArray) (r1 : Bool) (hl0 : p0.size ≤ 1048576) (hl1 : p1.size ≤ 1048576) (ht_signOfTurn : Tab_signOfTurn w)
    (hS : ∀ (w : World), Calls Tryd.prog 15 #[.string p0, .string p1] w fun e w' => e = .returned (.tuple #[.string r0, .bool r1]) ∧ Below w.heap.size w w')
    (hI : ∀ (w : World), Tab_signOfTurn w → Calls Tryd.prog 16 #[.string p0, .string p1] w fun e w' => e = .returned (.tuple #[.string r0, .bool r1]) ∧ Below w.heap.size w w') :
    Calls Tryd.prog 5 #[.string p0, .string p1] w fun e w' => e = .returned (.bool true) ∧ Below w.heap.size w w' := by
  have HS := Lib.hid hS
  have HI := Lib.hid hI
  have HT_signOfTurn := Lib.hid ht_signOfTurn
  clear ht_signOfTurn
  clear hS hI
  have B0 : Hid (Below w.heap.size w w) := Lib.hid (Below.refl _ _)
  go_enter Tryd.func5, Tryd.ntmps5
  have C0 := Lib.hid (HS.out w)
  go_wp2_with fail
  go_at_call 15
  refine (C0.out).mono ?_
  rintro e w1 ⟨rfl, b1⟩
  have y1 := b1.size
  have B1 : Hid (Below w.heap.size w w1) := B0.out.trans (b1.mono (by omega))
  clear B0
  clear b1
  have C1 := Lib.hid (HI.out w1 (HT_signOfTurn.out.below B1.out))
  go_wp2_with fail
  go_at_call 16
  refine (C1.out).mono ?_
  rintro e w2 ⟨rfl, b2⟩
  have y2 := b2.size
  have B2 : Hid (Below w.heap.size w w2) := B1.out.trans (b2.mono (by omega))
  clear B1
  clear b2
  go_wp2
  go_ret
  exact ⟨rfl, B2.out⟩

set_option maxHeartbeats 1000000 in
theorem walkFnExactFacingAfter (p0 : ByteArray) (p1 : ByteArray) (wf0 : p0.size ≤ maxLen) (wf1 : p1.size ≤ maxLen) (w : World) (ht_signOfTurn : Tab_signOfTurn w) :
    Calls Tryd.prog 5 #[.string p0, .string p1] w fun e w' => e = .returned (.bool true) ∧ Below w.heap.size w w' := by
  by_cases hl0 : p0.size ≤ 1048576
  case neg =>
    have b0 : decide ((1048576 : Int) < (p0.size : Nat)) = true := by simp; omega
    clear ht_signOfTurn
    go_enter Tryd.func5, Tryd.ntmps5
    go_wp2
    go_ret
    exact ⟨rfl, Below.refl _ _⟩
  by_cases hl1 : p1.size ≤ 1048576
  case neg =>
    have b1 : decide ((1048576 : Int) < (p1.size : Nat)) = true := by simp; omega
    clear ht_signOfTurn
    go_enter Tryd.func5, Tryd.ntmps5
    go_wp2
    go_ret
    exact ⟨rfl, Below.refl _ _⟩
  exact lawFacingAfter w p0 p1 (outFacingAfter_0 p0 p1) (outFacingAfter_1 p0 p1) hl0 hl1 ht_signOfTurn
    (fun w => specFacingAfter_any w p0 p1 wf0 wf1 hl0 hl1)
    (fun w ht_signOfTurn => implFacingAfter_any w p0 p1 wf0 wf1 hl0 hl1 ht_signOfTurn)

end Go.Proofs.YtamodlmdlaeoiaaDoor
