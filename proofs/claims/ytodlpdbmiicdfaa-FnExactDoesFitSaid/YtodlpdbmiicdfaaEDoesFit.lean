/- The walk of the law FnExactDoesFit, out of the contracts of its two functions. -/
import Derived.Test.YtodlpdbmiicdfaaKinds
import Derived.Test.YtodlpdbmiicdfaaBxC
import Derived.Test.YtodlpdbmiicdfaaPzd
import Derived.Test.YtodlpdbmiicdfaaZg
namespace Go.Proofs.Ytodlpdbmiicdfaa
open Go.ChangeShapes Go.WideShapes Go.ChangeAt Go.RowKit

set_option maxHeartbeats 4000000 in
theorem lawDoesFit (w : World) (ca0 : Int) (cb0 : Int) (cc0 : Int) (cd0 : Int) (p1 : ByteArray) (r0 : Bool) (r1 : Bool) (hl1 : p1.size ≤ 1048576)
    (hS : ∀ (w : World), Calls Try.prog 27 #[.agg #[.int .i64 ca0, .int .i64 cb0, .int .i64 cc0, .int .i64 cd0], .string p1] w fun e w' => e = .returned (.tuple #[.bool r0, .bool r1]) ∧ Below w.heap.size w w')
    (hI : ∀ (w : World), Calls Try.prog 28 #[.agg #[.int .i64 ca0, .int .i64 cb0, .int .i64 cc0, .int .i64 cd0], .string p1] w fun e w' => e = .returned (.tuple #[.bool r0, .bool r1]) ∧ Below w.heap.size w w') :
    Calls Try.prog 7 #[.agg #[.int .i64 ca0, .int .i64 cb0, .int .i64 cc0, .int .i64 cd0], .string p1] w fun e w' => e = .returned (.bool true) ∧ Below w.heap.size w w' := by
  have HS := Lib.hid hS
  have HI := Lib.hid hI
  obtain ⟨w0, hw_0⟩ : ∃ w0, w0 = w.alloc (.cells #[.int .i64 ca0, .int .i64 cb0, .int .i64 cc0, .int .i64 cd0] 23) := ⟨_, rfl⟩
  have HW_0 : Hid (Below w.heap.size w w0) := Lib.hid (by rw [hw_0]; exact (Below.refl _ _).alloc (Nat.le_refl _) _)
  obtain ⟨pb0, hpb0⟩ : ∃ pb, pb = w.heap.size := ⟨_, rfl⟩
  have HPC0 : Hid (BoxClue w0 pb0 ca0 cb0 cc0 cd0) := Lib.hid (by rw [hw_0, hpb0]; exact boxClue_new _ ca0 cb0 cc0 cd0)
  have HTG0 := Lib.hid (fun w2 => toClue_any ca0 cb0 cc0 cd0 w2)
  have HW0 : Hid (Below w.heap.size w w0) := HW_0
  have HPC0 : Hid (∀ w2, Below w0.heap.size w0 w2 → BoxClue w2 pb0 ca0 cb0 cc0 cd0) := Lib.hid (fun w2 h => HPC0.out.below h)
  clear HW_0
  clear hS hI
  have B0 : Hid (Below w0.heap.size w0 w0) := Lib.hid (Below.refl _ _)
  go_enter Try.func7, Try.ntmps7
  go_wp2_with fail
  rw [← hw_0, ← hpb0]
  clear hw_0 hpb0
  obtain ⟨bc0, bc1, bc2, bc3⟩ := HPC0.out w0 B0.out
  go_at_call 14
  refine (HTG0.out w0).mono ?_
  rintro e w1 ⟨rfl, b1⟩
  have y1 := b1.size
  have B1 : Hid (Below w0.heap.size w0 w1) := B0.out.trans (b1.mono (by omega))
  clear B0
  clear b1 bc0 bc1 bc2 bc3
  have C1 := Lib.hid (HS.out w1)
  go_wp2_with fail
  go_at_call 27
  refine (C1.out).mono ?_
  rintro e w2 ⟨rfl, b2⟩
  have y2 := b2.size
  have B2 : Hid (Below w0.heap.size w0 w2) := B1.out.trans (b2.mono (by omega))
  clear B1
  clear b2
  obtain ⟨bc0, bc1, bc2, bc3⟩ := HPC0.out w2 B2.out
  go_wp2_with fail
  go_at_call 14
  refine (HTG0.out w2).mono ?_
  rintro e w3 ⟨rfl, b3⟩
  have y3 := b3.size
  have B3 : Hid (Below w0.heap.size w0 w3) := B2.out.trans (b3.mono (by omega))
  clear B2
  clear b3 bc0 bc1 bc2 bc3
  have C3 := Lib.hid (HI.out w3)
  go_wp2_with fail
  go_at_call 28
  refine (C3.out).mono ?_
  rintro e w4 ⟨rfl, b4⟩
  have y4 := b4.size
  have B4 : Hid (Below w0.heap.size w0 w4) := B3.out.trans (b4.mono (by omega))
  clear B3
  clear b4
  go_wp2
  go_ret
  exact ⟨rfl, HW0.out.trans (B4.out.mono HW0.out.size)⟩

set_option maxHeartbeats 1000000 in
theorem walkFnExactDoesFit (ca0 : Int) (cb0 : Int) (cc0 : Int) (cd0 : Int) (p1 : ByteArray) (_wf1 : p1.size ≤ maxLen) (w : World) :
    Calls Try.prog 7 #[.agg #[.int .i64 ca0, .int .i64 cb0, .int .i64 cc0, .int .i64 cd0], .string p1] w fun e w' => e = .returned (.bool true) ∧ Below w.heap.size w w' := by
  by_cases hl1 : p1.size ≤ 1048576
  case neg =>
    have b1 : decide ((1048576 : Int) < (p1.size : Nat)) = true := by simp; omega
    go_enter Try.func7, Try.ntmps7
    go_wp2
    go_ret
    exact ⟨rfl, (Below.refl _ _).alloc (Nat.le_refl _) _⟩
  exact lawDoesFit w ca0 cb0 cc0 cd0 p1 (outDoesFit_0 (ca0, cb0, cc0, cd0) p1) (outDoesFit_1 (ca0, cb0, cc0, cd0) p1) hl1
    (fun w => specDoesFit_any w ca0 cb0 cc0 cd0 p1 hl1)
    (fun w => implDoesFit_any w ca0 cb0 cc0 cd0 p1 hl1)

end Go.Proofs.Ytodlpdbmiicdfaa
