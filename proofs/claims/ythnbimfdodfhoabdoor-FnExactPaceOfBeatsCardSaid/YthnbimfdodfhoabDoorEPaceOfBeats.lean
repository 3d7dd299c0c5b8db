/- The walk of the law FnExactPaceOfBeats, out of the contracts of its two functions (a struct as a result: by hand). -/
import Derived.Test.YthnbimfdodfhoabDoorKinds
import Derived.Test.YthnbimfdodfhoabDoorRPace
import Derived.Test.YthnbimfdodfhoabDoorPm
import Derived.Test.YthnbimfdodfhoabDoorJh
import Derived.Test.YthnbimfdodfhoabDoorSha
namespace Go.Proofs.YthnbimfdodfhoabDoor
open Go.ChangeShapes Go.WideShapes Go.ChangeAt Go.RowKit

set_option maxRecDepth 20000 in
set_option maxHeartbeats 4000000 in
theorem lawPaceOfBeats (w : World) (p0 : ByteArray) (x y : Int) (r1 : Bool) (hl0 : p0.size ≤ 1048576)
    (hS : ∀ (w : World), Calls Tryd.prog 6 #[.string p0] w fun e w' => e = .returned (.tuple #[.agg #[.int .i64 x, .int .i64 y], .bool r1]) ∧ Below w.heap.size w w')
    (hI : ∀ (w : World), Calls Tryd.prog 7 #[.string p0] w fun e w' => e = .returned (.tuple #[.agg #[.int .i64 x, .int .i64 y], .bool r1]) ∧ Below w.heap.size w w') :
    Calls Tryd.prog 3 #[.string p0] w fun e w' => e = .returned (.bool true) ∧ Below w.heap.size w w' := by
  have HS := Lib.hid hS
  have HI := Lib.hid hI
  have HE := Lib.hid (fun w2 => eqPace_any x y w2)
  clear hS hI
  go_enter Tryd.func3, Tryd.ntmps3
  go_wp2_with fail
  go_at_call 6
  refine (HS.out w).mono ?_
  rintro e w1 ⟨rfl, b1⟩
  have B1 : Hid (Below w.heap.size w w1) := Lib.hid b1
  have B1a : Hid (Below w.heap.size w (w1.alloc (.cells #[.int .i64 x, .int .i64 y] 23))) := Lib.hid (b1.alloc b1.size _)
  clear b1
  go_wp2_with fail
  go_at_call 7
  refine (HI.out _).mono ?_
  rintro e w2 ⟨rfl, b2⟩
  have hl1 : w1.heap.size < (w1.alloc (.cells #[.int .i64 x, .int .i64 y] 23)).heap.size := by rw [alloc_size1]; exact Nat.lt_succ_self _
  have c0 : w2.cell? ⟨w1.heap.size, 0, none⟩ = some (.int .i64 x) := (b2.cell (p := ⟨w1.heap.size, 0, none⟩) hl1).trans (by rw [World.cell?_alloc_new]; rfl)
  have c1 : w2.cell? ⟨w1.heap.size, 1, none⟩ = some (.int .i64 y) := (b2.cell (p := ⟨w1.heap.size, 1, none⟩) hl1).trans (by rw [World.cell?_alloc_new]; rfl)
  have B2 : Hid (Below w.heap.size w w2) := Lib.hid (B1a.out.trans (b2.mono B1a.out.size))
  have B2a : Hid (Below w.heap.size w (w2.alloc (.cells #[.int .i64 x, .int .i64 y] 23))) := Lib.hid (B2.out.alloc B2.out.size _)
  have hlt2 : w1.heap.size < w2.heap.size := World.block_lt_of_cell? w2 _ c0
  clear b2 hl1
  go_wp2_with fail
  go_at_call 8
  refine (HE.out _).mono ?_
  rintro e w3 ⟨rfl, b3⟩
  have B3 : Hid (Below w.heap.size w w3) := Lib.hid (B2a.out.trans (b3.mono B2a.out.size))
  clear b3 c0 c1 hlt2
  go_wp2
  go_ret
  exact ⟨rfl, B3.out⟩

theorem implPaceOfBeats_any (w : World) (s : ByteArray) (hls : s.size ≤ 1048576) :
    Calls Tryd.prog 7 #[.string s] w fun e w' => e = .returned (.tuple #[.agg #[.int .i64 (outPaceOfBeats_0 s).1, .int .i64 (outPaceOfBeats_0 s).2], .bool (outPaceOfBeats_1 s)]) ∧ Below w.heap.size w w' :=
  implPaceOfBeats_of w s hls
    (fun w => Any.strings_Trim_laid Tryd.lays160 (by kernel_rfl) s ⟨#[48, 49]⟩ w (by omega) (by decide) (fun j b h => by
      have hm : b ∈ [(48 : UInt8), 49] := List.mem_of_getElem? h
      simp only [List.mem_cons, List.not_mem_nil, or_false] at hm
      rcases hm with rfl | rfl <;> decide))
    (fun w => (Tryd.strings_IndexByte s 49 w).mono fun e w' ⟨he, hw⟩ => ⟨he, hw⟩)

set_option maxRecDepth 20000 in
set_option maxHeartbeats 1000000 in
theorem walkFnExactPaceOfBeats (p0 : ByteArray) (wf0 : p0.size ≤ maxLen) (w : World) :
    Calls Tryd.prog 3 #[.string p0] w fun e w' => e = .returned (.bool true) ∧ Below w.heap.size w w' := by
  by_cases hl0 : p0.size ≤ 1048576
  case neg =>
    have b0 : decide ((1048576 : Int) < (p0.size : Nat)) = true := by simp; omega
    go_enter Tryd.func3, Tryd.ntmps3
    go_wp2
    go_ret
    exact ⟨rfl, Below.refl _ _⟩
  exact lawPaceOfBeats w p0 (outPaceOfBeats_0 p0).1 (outPaceOfBeats_0 p0).2 (outPaceOfBeats_1 p0) hl0
    (fun w => specPaceOfBeats_any w p0 wf0 hl0)
    (fun w => implPaceOfBeats_any w p0 hl0)

end Go.Proofs.YthnbimfdodfhoabDoor
