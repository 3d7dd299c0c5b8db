/- The walk of the law FnExactWaysToFace, out of the contracts of its two functions. -/
import Derived.Test.YtamodlmdlaeoiabDoorKinds
import Derived.Test.YtamodlmdlaeoiabDoorIs
namespace Go.Proofs.YtamodlmdlaeoiabDoor
open Go.ChangeShapes Go.WideShapes Go.ChangeAt Go.RowKit

set_option maxHeartbeats 4000000 in
theorem lawWaysToFace (w : World) (p0 : ByteArray) (p1 : Int) (p2 : Int) (r0 : Int) (r1 : Bool) (hl0 : p0.size ≤ 1048576) (ht_signOfTurn : Tab_signOfTurn w)
    (hS : ∀ (w : World), Calls Tryd.prog 22 #[.string p0, .int .i64 p1, .int .i64 p2] w fun e w' => e = .returned (.tuple #[.int .i64 r0, .bool r1]) ∧ Below w.heap.size w w')
    (hI : ∀ (w : World), Tab_signOfTurn w → Calls Tryd.prog 23 #[.string p0, .int .i64 p1, .int .i64 p2] w fun e w' => e = .returned (.tuple #[.int .i64 r0, .bool r1]) ∧ Below w.heap.size w w') :
    Calls Tryd.prog 6 #[.string p0, .int .i64 p1, .int .i64 p2] w fun e w' => e = .returned (.bool true) ∧ Below w.heap.size w w' := by
  have HS := Lib.hid hS
  have HI := Lib.hid hI
  have HT_signOfTurn := Lib.hid ht_signOfTurn
  clear ht_signOfTurn
  clear hS hI
  have B0 : Hid (Below w.heap.size w w) := Lib.hid (Below.refl _ _)
  go_enter Tryd.func6, Tryd.ntmps6
  have C0 := Lib.hid (HS.out w)
  go_wp2_with fail
  go_at_call 22
  refine (C0.out).mono ?_
  rintro e w1 ⟨rfl, b1⟩
  have y1 := b1.size
  have B1 : Hid (Below w.heap.size w w1) := B0.out.trans (b1.mono (by omega))
  clear B0
  clear b1
  have C1 := Lib.hid (HI.out w1 (HT_signOfTurn.out.below B1.out))
  go_wp2_with fail
  go_at_call 23
  refine (C1.out).mono ?_
  rintro e w2 ⟨rfl, b2⟩
  have y2 := b2.size
  have B2 : Hid (Below w.heap.size w w2) := B1.out.trans (b2.mono (by omega))
  clear B1
  clear b2
  go_wp2
  go_ret
  exact ⟨rfl, B2.out⟩

set_option maxHeartbeats 1000000 in
theorem walkFnExactWaysToFace (p0 : ByteArray) (p1 : Int) (p2 : Int) (wf0 : p0.size ≤ maxLen) (wf1 : (Lit.int .i64 p1).wf = true) (wf2 : (Lit.int .i64 p2).wf = true) (w : World) (ht_signOfTurn : Tab_signOfTurn w) :
    Calls Tryd.prog 6 #[.string p0, .int .i64 p1, .int .i64 p2] w fun e w' => e = .returned (.bool true) ∧ Below w.heap.size w w' := by
  by_cases hl0 : p0.size ≤ 1048576
  case neg =>
    have b0 : decide ((1048576 : Int) < (p0.size : Nat)) = true := by simp; omega
    clear ht_signOfTurn
    go_enter Tryd.func6, Tryd.ntmps6
    go_wp2
    go_ret
    exact ⟨rfl, Below.refl _ _⟩
  exact lawWaysToFace w p0 p1 p2 (outWaysToFace_0 p0 p1 p2) (outWaysToFace_1 p0 p1 p2) hl0 ht_signOfTurn
    (fun w => specWaysToFace_any w p0 p1 p2 wf0 wf1 wf2 hl0)
    (fun w ht_signOfTurn => implWaysToFace_any w p0 p1 p2 wf0 wf1 wf2 hl0 ht_signOfTurn)

end Go.Proofs.YtamodlmdlaeoiabDoor
