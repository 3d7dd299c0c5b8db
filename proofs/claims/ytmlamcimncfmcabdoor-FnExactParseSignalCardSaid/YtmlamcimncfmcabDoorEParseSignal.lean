/- The walk of the law FnExactParseSignal, out of the contracts of its two functions (a struct as a result: by hand). -/
import Derived.Test.YtmlamcimncfmcabDoorKinds
import Derived.Test.YtmlamcimncfmcabDoorRSignal
import Derived.Test.YtmlamcimncfmcabDoorSjh
namespace Go.Proofs.YtmlamcimncfmcabDoor
open Go.ChangeShapes Go.WideShapes Go.ChangeAt Go.RowKit

set_option maxRecDepth 20000 in
set_option maxHeartbeats 4000000 in
theorem lawParseSignal (w : World) (p0 : ByteArray) (x : Int) (l : Bool) (y : Int) (r1 : Bool) (hl0 : p0.size ≤ 1048576)
    (hS : ∀ (w : World), Calls Tryd.prog 8 #[.string p0] w fun e w' => e = .returned (.tuple #[.agg #[.int .i64 x, .bool l, .int .i64 y], .bool r1]) ∧ Below w.heap.size w w')
    (ht : Tab_libParse w)
    (hI : ∀ (w : World), Tab_libParse w → Calls Tryd.prog 9 #[.string p0] w fun e w' => e = .returned (.tuple #[.agg #[.int .i64 x, .bool l, .int .i64 y], .bool r1]) ∧ Below w.heap.size w w') :
    Calls Tryd.prog 4 #[.string p0] w fun e w' => e = .returned (.bool true) ∧ Below w.heap.size w w' := by
  have HS := Lib.hid hS
  have HI := Lib.hid hI
  have HE := Lib.hid (fun w2 => eqSignal_any x l y w2)
  have HT := Lib.hid ht
  clear hS hI ht
  go_enter Tryd.func4, Tryd.ntmps4
  go_wp2_with fail
  go_at_call 8
  refine (HS.out w).mono ?_
  rintro e w1 ⟨rfl, b1⟩
  have B1 : Hid (Below w.heap.size w w1) := Lib.hid b1
  have B1a : Hid (Below w.heap.size w (w1.alloc (.cells #[.int .i64 x, .bool l, .int .i64 y] 26))) := Lib.hid (b1.alloc b1.size _)
  clear b1
  go_wp2_with fail
  go_at_call 9
  refine (HI.out _ (HT.out.below B1a.out)).mono ?_
  rintro e w2 ⟨rfl, b2⟩
  have hl1 : w1.heap.size < (w1.alloc (.cells #[.int .i64 x, .bool l, .int .i64 y] 26)).heap.size := by rw [alloc_size1]; exact Nat.lt_succ_self _
  have c0 : w2.cell? ⟨w1.heap.size, 0, none⟩ = some (.int .i64 x) := (b2.cell (p := ⟨w1.heap.size, 0, none⟩) hl1).trans (by rw [World.cell?_alloc_new]; rfl)
  have c1 : w2.cell? ⟨w1.heap.size, 1, none⟩ = some (.bool l) := (b2.cell (p := ⟨w1.heap.size, 1, none⟩) hl1).trans (by rw [World.cell?_alloc_new]; rfl)
  have c2 : w2.cell? ⟨w1.heap.size, 2, none⟩ = some (.int .i64 y) := (b2.cell (p := ⟨w1.heap.size, 2, none⟩) hl1).trans (by rw [World.cell?_alloc_new]; rfl)
  have B2 : Hid (Below w.heap.size w w2) := Lib.hid (B1a.out.trans (b2.mono B1a.out.size))
  have B2a : Hid (Below w.heap.size w (w2.alloc (.cells #[.int .i64 x, .bool l, .int .i64 y] 26))) := Lib.hid (B2.out.alloc B2.out.size _)
  have hlt2 : w1.heap.size < w2.heap.size := World.block_lt_of_cell? w2 _ c0
  clear b2 hl1
  go_wp2_with fail
  go_at_call 10
  refine (HE.out _).mono ?_
  rintro e w3 ⟨rfl, b3⟩
  have B3 : Hid (Below w.heap.size w w3) := Lib.hid (B2a.out.trans (b3.mono B2a.out.size))
  clear b3 c0 c1 c2 hlt2
  go_wp2
  go_ret
  exact ⟨rfl, B3.out⟩

set_option maxRecDepth 20000 in
set_option maxHeartbeats 1000000 in
theorem walkFnExactParseSignal (p0 : ByteArray) (wf0 : p0.size ≤ maxLen) (w : World) (ht : Tab_libParse w) :
    Calls Tryd.prog 4 #[.string p0] w fun e w' => e = .returned (.bool true) ∧ Below w.heap.size w w' := by
  by_cases hl0 : p0.size ≤ 1048576
  case neg =>
    have b0 : decide ((1048576 : Int) < (p0.size : Nat)) = true := by simp; omega
    clear ht
    go_enter Tryd.func4, Tryd.ntmps4
    go_wp2
    go_ret
    exact ⟨rfl, Below.refl _ _⟩
  exact lawParseSignal w p0 (outParseSignal_0 p0).1 (outParseSignal_0 p0).2.1 (outParseSignal_0 p0).2.2 (outParseSignal_1 p0) hl0
    (fun w => specParseSignal_any w p0 wf0 hl0) ht
    (fun w h => implParseSignal_any w p0 wf0 hl0 h)

end Go.Proofs.YtmlamcimncfmcabDoor
