/- The walk of the law FnExactIsClue, out of the contracts of its two functions. -/
import Derived.Test.YtodlpdbmiicdfaaKinds
import Derived.Test.YtodlpdbmiicdfaaBxC
import Derived.Test.YtodlpdbmiicdfaaPzb
import Derived.Test.YtodlpdbmiicdfaaZd
namespace Go.Proofs.Ytodlpdbmiicdfaa
open Go.ChangeShapes Go.WideShapes Go.ChangeAt Go.RowKit

set_option maxHeartbeats 4000000 in
theorem lawIsClue (w : World) (p0 : Int) (ca1 : Int) (cb1 : Int) (cc1 : Int) (cd1 : Int) (r0 : Bool)
    (hS : ∀ (w : World), Calls Try.prog 13 #[.int .i64 p0, .agg #[.int .i64 ca1, .int .i64 cb1, .int .i64 cc1, .int .i64 cd1]] w fun e w' => e = .returned (.bool r0) ∧ Below w.heap.size w w')
    (hI : ∀ (w : World), Calls Try.prog 15 #[.int .i64 p0, .agg #[.int .i64 ca1, .int .i64 cb1, .int .i64 cc1, .int .i64 cd1]] w fun e w' => e = .returned (.bool r0) ∧ Below w.heap.size w w') :
    Calls Try.prog 3 #[.int .i64 p0, .agg #[.int .i64 ca1, .int .i64 cb1, .int .i64 cc1, .int .i64 cd1]] w fun e w' => e = .returned (.bool true) ∧ Below w.heap.size w w' := by
  have HS := Lib.hid hS
  have HI := Lib.hid hI
  obtain ⟨w0, hw_1⟩ : ∃ w0, w0 = w.alloc (.cells #[.int .i64 ca1, .int .i64 cb1, .int .i64 cc1, .int .i64 cd1] 23) := ⟨_, rfl⟩
  have HW_1 : Hid (Below w.heap.size w w0) := Lib.hid (by rw [hw_1]; exact (Below.refl _ _).alloc (Nat.le_refl _) _)
  obtain ⟨pb1, hpb1⟩ : ∃ pb, pb = w.heap.size := ⟨_, rfl⟩
  have HPC1 : Hid (BoxClue w0 pb1 ca1 cb1 cc1 cd1) := Lib.hid (by rw [hw_1, hpb1]; exact boxClue_new _ ca1 cb1 cc1 cd1)
  have HTG1 := Lib.hid (fun w2 => toClue_any ca1 cb1 cc1 cd1 w2)
  have HW0 : Hid (Below w.heap.size w w0) := HW_1
  have HPC1 : Hid (∀ w2, Below w0.heap.size w0 w2 → BoxClue w2 pb1 ca1 cb1 cc1 cd1) := Lib.hid (fun w2 h => HPC1.out.below h)
  clear HW_1
  clear hS hI
  have B0 : Hid (Below w0.heap.size w0 w0) := Lib.hid (Below.refl _ _)
  go_enter Try.func3, Try.ntmps3
  go_wp2_with fail
  rw [← hw_1, ← hpb1]
  clear hw_1 hpb1
  obtain ⟨bc0, bc1, bc2, bc3⟩ := HPC1.out w0 B0.out
  go_at_call 14
  refine (HTG1.out w0).mono ?_
  rintro e w1 ⟨rfl, b1⟩
  have y1 := b1.size
  have B1 : Hid (Below w0.heap.size w0 w1) := B0.out.trans (b1.mono (by omega))
  clear B0
  clear b1 bc0 bc1 bc2 bc3
  have C1 := Lib.hid (HS.out w1)
  go_wp2_with fail
  go_at_call 13
  refine (C1.out).mono ?_
  rintro e w2 ⟨rfl, b2⟩
  have y2 := b2.size
  have B2 : Hid (Below w0.heap.size w0 w2) := B1.out.trans (b2.mono (by omega))
  clear B1
  clear b2
  obtain ⟨bc0, bc1, bc2, bc3⟩ := HPC1.out w2 B2.out
  go_wp2_with fail
  go_at_call 14
  refine (HTG1.out w2).mono ?_
  rintro e w3 ⟨rfl, b3⟩
  have y3 := b3.size
  have B3 : Hid (Below w0.heap.size w0 w3) := B2.out.trans (b3.mono (by omega))
  clear B2
  clear b3 bc0 bc1 bc2 bc3
  have C3 := Lib.hid (HI.out w3)
  go_wp2_with fail
  go_at_call 15
  refine (C3.out).mono ?_
  rintro e w4 ⟨rfl, b4⟩
  have y4 := b4.size
  have B4 : Hid (Below w0.heap.size w0 w4) := B3.out.trans (b4.mono (by omega))
  clear B3
  clear b4
  go_wp2
  go_ret
  exact ⟨rfl, HW0.out.trans (B4.out.mono HW0.out.size)⟩

set_option maxHeartbeats 1000000 in
theorem walkFnExactIsClue (p0 : Int) (ca1 : Int) (cb1 : Int) (cc1 : Int) (cd1 : Int) (_wf0 : (Lit.int .i64 p0).wf = true) (w : World) :
    Calls Try.prog 3 #[.int .i64 p0, .agg #[.int .i64 ca1, .int .i64 cb1, .int .i64 cc1, .int .i64 cd1]] w fun e w' => e = .returned (.bool true) ∧ Below w.heap.size w w' := by
  exact lawIsClue w p0 ca1 cb1 cc1 cd1 (outIsClue_0 p0 (ca1, cb1, cc1, cd1))
    (fun w => specIsClue_any w p0 ca1 cb1 cc1 cd1)
    (fun w => implIsClue_any w p0 ca1 cb1 cc1 cd1)

end Go.Proofs.Ytodlpdbmiicdfaa
