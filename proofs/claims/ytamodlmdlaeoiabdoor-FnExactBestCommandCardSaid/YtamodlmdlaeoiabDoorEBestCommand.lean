/- The walk of the law FnExactBestCommand, out of the contracts of its two functions. -/
import Derived.Test.YtamodlmdlaeoiabDoorKinds
import Derived.Test.YtamodlmdlaeoiabDoorIh
namespace Go.Proofs.YtamodlmdlaeoiabDoor
open Go.ChangeShapes Go.WideShapes Go.ChangeAt Go.RowKit

set_option maxHeartbeats 4000000 in
theorem lawBestCommand (w : World) (p0 : ByteArray) (p1 : Int) (r0 : ByteArray) (r1 : Int) (r2 : Bool) (hl0 : p0.size ≤ 1048576) (ht_signOfTurn : Tab_signOfTurn w) (ht_turnsChosen : Tab_turnsChosen w)
    (hS : ∀ (w : World), Calls Tryd.prog 24 #[.string p0, .int .i64 p1] w fun e w' => e = .returned (.tuple #[.string r0, .int .i64 r1, .bool r2]) ∧ Below w.heap.size w w')
    (hI : ∀ (w : World), Tab_signOfTurn w → Tab_turnsChosen w → Calls Tryd.prog 25 #[.string p0, .int .i64 p1] w fun e w' => e = .returned (.tuple #[.string r0, .int .i64 r1, .bool r2]) ∧ Below w.heap.size w w') :
    Calls Tryd.prog 7 #[.string p0, .int .i64 p1] w fun e w' => e = .returned (.bool true) ∧ Below w.heap.size w w' := by
  have HS := Lib.hid hS
  have HI := Lib.hid hI
  have HT_signOfTurn := Lib.hid ht_signOfTurn
  clear ht_signOfTurn
  have HT_turnsChosen := Lib.hid ht_turnsChosen
  clear ht_turnsChosen
  clear hS hI
  have B0 : Hid (Below w.heap.size w w) := Lib.hid (Below.refl _ _)
  go_enter Tryd.func7, Tryd.ntmps7
  have C0 := Lib.hid (HS.out w)
  go_wp2_with fail
  go_at_call 24
  refine (C0.out).mono ?_
  rintro e w1 ⟨rfl, b1⟩
  have y1 := b1.size
  have B1 : Hid (Below w.heap.size w w1) := B0.out.trans (b1.mono (by omega))
  clear B0
  clear b1
  have C1 := Lib.hid (HI.out w1 (HT_signOfTurn.out.below B1.out) (HT_turnsChosen.out.below B1.out))
  go_wp2_with fail
  go_at_call 25
  refine (C1.out).mono ?_
  rintro e w2 ⟨rfl, b2⟩
  have y2 := b2.size
  have B2 : Hid (Below w.heap.size w w2) := B1.out.trans (b2.mono (by omega))
  clear B1
  clear b2
  go_wp2
  go_ret
  exact ⟨rfl, B2.out⟩

set_option maxHeartbeats 1000000 in
theorem walkFnExactBestCommand (p0 : ByteArray) (p1 : Int) (wf0 : p0.size ≤ maxLen) (wf1 : (Lit.int .i64 p1).wf = true) (w : World) (ht_signOfTurn : Tab_signOfTurn w) (ht_turnsChosen : Tab_turnsChosen w) :
    Calls Tryd.prog 7 #[.string p0, .int .i64 p1] w fun e w' => e = .returned (.bool true) ∧ Below w.heap.size w w' := by
  by_cases hl0 : p0.size ≤ 1048576
  case neg =>
    have b0 : decide ((1048576 : Int) < (p0.size : Nat)) = true := by simp; omega
    clear ht_signOfTurn ht_turnsChosen
    go_enter Tryd.func7, Tryd.ntmps7
    go_wp2
    go_ret
    exact ⟨rfl, Below.refl _ _⟩
  exact lawBestCommand w p0 p1 (outBestCommand_0 p0 p1) (outBestCommand_1 p0 p1) (outBestCommand_2 p0 p1) hl0 ht_signOfTurn ht_turnsChosen
    (fun w => specBestCommand_any w p0 p1 wf0 wf1 hl0)
    (fun w ht_signOfTurn ht_turnsChosen => implBestCommand_any w p0 p1 wf0 wf1 hl0 ht_signOfTurn ht_turnsChosen)

end Go.Proofs.YtamodlmdlaeoiabDoor
