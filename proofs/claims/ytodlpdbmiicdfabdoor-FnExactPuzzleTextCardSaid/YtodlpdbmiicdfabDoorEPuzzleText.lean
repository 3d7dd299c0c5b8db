/- The walk of the law FnExactPuzzleText (a puzzle by value), out of the contracts of its two functions. -/
import Derived.Test.YtodlpdbmiicdfabDoorKinds
import Derived.Test.YtodlpdbmiicdfabDoorRPuzzle
import Derived.Test.YtodlpdbmiicdfabDoorPzm
import Derived.Test.YtodlpdbmiicdfabDoorZw
namespace Go.Proofs.YtodlpdbmiicdfabDoor
open Go.ChangeShapes Go.WideShapes Go.ChangeAt Go.RowKit

set_option maxHeartbeats 8000000 in
theorem lawPuzzleText (w : World) (s0 : Int) (a0 : Option Addr) (len0 cap0 : Nat) (z0 : List RClue) (r0 : ByteArray) (r1 : Bool) (hc0 : CameClue w a0 len0 z0) (hk0 : len0 ≤ 9223372036854775807)
    (hS : len0 ≤ 1048576 → ∀ (w : World) (a0 : Option Addr) (cap0 : Nat), CameClue w a0 len0 z0 → (len0 ≤ cap0 ∧ cap0 ≤ 9223372036854775807) → Calls Tryd.prog 6 #[.agg #[.int .i64 s0, .slice a0 len0 cap0]] w fun e w' => e = .returned (.tuple #[.string r0, .bool r1]) ∧ Below w.heap.size w w')
    (hI : len0 ≤ 1048576 → ∀ (w : World) (a0 : Option Addr) (cap0 : Nat), CameClue w a0 len0 z0 → (len0 ≤ cap0 ∧ cap0 ≤ 9223372036854775807) → Calls Tryd.prog 8 #[.agg #[.int .i64 s0, .slice a0 len0 cap0]] w fun e w' => e = .returned (.tuple #[.string r0, .bool r1]) ∧ Below w.heap.size w w') :
    Calls Tryd.prog 3 #[.agg #[.int .i64 s0, .slice a0 len0 cap0]] w fun e w' => e = .returned (.bool true) ∧ Below w.heap.size w w' := by
  have HS := Lib.hid hS
  have HI := Lib.hid hI
  have HZ0 : Hid (z0.length = len0) := Lib.hid hc0.1
  have HW0 : Hid (Below w.heap.size w (w.alloc (.cells #[.int .i64 s0, .slice a0 len0 cap0] 24))) := Lib.hid ((Below.refl _ _).alloc (Nat.le_refl _) _)
  have HT0 := Lib.hid (fun w2 (hl0 : len0 ≤ 1048576) (h : Below (w.alloc (.cells #[.int .i64 s0, .slice a0 len0 cap0] 24)).heap.size (w.alloc (.cells #[.int .i64 s0, .slice a0 len0 cap0] 24)) w2) => toPuzzle_any w2 s0 a0 len0 cap0 z0 hl0 (hc0.below (HW0.out.trans (h.mono HW0.out.size))))
  have HX0 := Lib.hid (szPuzzle_any (w.alloc (.cells #[.int .i64 s0, .slice a0 len0 cap0] 24)) s0 a0 len0 cap0 hk0)
  have y0 : (w.alloc (.cells #[.int .i64 s0, .slice a0 len0 cap0] 24)).heap.size = w.heap.size + 1 := rz_size1 _ _
  clear hS hI hc0
  have B0 : Hid (Below (w.alloc (.cells #[.int .i64 s0, .slice a0 len0 cap0] 24)).heap.size (w.alloc (.cells #[.int .i64 s0, .slice a0 len0 cap0] 24)) (w.alloc (.cells #[.int .i64 s0, .slice a0 len0 cap0] 24))) := Lib.hid (Below.refl _ _)
  have PA_0 : Hid (BoxZ (w.alloc (.cells #[.int .i64 s0, .slice a0 len0 cap0] 24)) w.heap.size s0 (.slice a0 len0 cap0)) := Lib.hid (BoxZ.new w s0 _ _)
  skip
  obtain ⟨k0, k1⟩ := PA_0.out
  go_enter Tryd.func3, Tryd.ntmps3
  go_wp2_with fail
  go_at_call 5
  refine HX0.out.mono ?_
  rintro e w1 ⟨r, rfl, hr0, hr1, hr2, b1⟩
  have y1 := b1.size
  have PA_1 := Lib.hid (PA_0.out.below b1 PA_0.out.lt)
  skip
  have B1 : Hid (Below (w.alloc (.cells #[.int .i64 s0, .slice a0 len0 cap0] 24)).heap.size (w.alloc (.cells #[.int .i64 s0, .slice a0 len0 cap0] 24)) w1) := Lib.hid b1
  clear B0 b1 HX0 PA_0 k0 k1
  by_cases hneg : r < 0
  · clear hr2
    go_wp2
    go_ret
    exact ⟨rfl, HW0.out.trans (B1.out.mono HW0.out.size)⟩
  have hl0 : len0 ≤ 1048576 := hr2 (by omega)
  have hzl0 : z0.length ≤ 1048576 := by have := HZ0.out; omega
  have HT0 := Lib.hid (fun w2 h => HT0.out w2 hl0 h)
  have HS := Lib.hid (HS.out hl0)
  have HI := Lib.hid (HI.out hl0)
  clear hr2
  obtain ⟨kPA0, kPA1⟩ := PA_1.out
  have hT := HT0.out w1 B1.out
  have HTT := Lib.hid hT
  clear hT
  go_wp2_with fail
  go_at_call 7
  refine HTT.out.mono ?_
  rintro e w2 ⟨cv, rfl, o2, b2⟩
  have y2 := b2.size
  have PA_2 := Lib.hid (PA_1.out.below b2 PA_1.out.lt)
  have B2 : Hid (Below (w.alloc (.cells #[.int .i64 s0, .slice a0 len0 cap0] 24)).heap.size (w.alloc (.cells #[.int .i64 s0, .slice a0 len0 cap0] 24)) w2) := Lib.hid (B1.out.trans (b2.mono (by omega)))
  clear PA_1 B1 HTT kPA0 kPA1
  have C_2 := Lib.hid (OwnIClue.of o2)
  obtain ⟨ca, cc, ce, ch, ck⟩ := C_2.out.1.cameC
  rw [HZ0.out] at ce ch ck
  subst ce
  clear o2 b2
  have CC := Lib.hid (HS.out w2 ca cc ch ck)
  go_wp2_with fail
  go_at_call 6
  refine CC.out.mono ?_
  rintro e w3 ⟨rfl, b3⟩
  have y3 := b3.size
  have PA_3 := Lib.hid (PA_2.out.below b3 PA_2.out.lt)
  have C_3 := Lib.hid (C_2.out.below b3 (by omega))
  have B3 : Hid (Below (w.alloc (.cells #[.int .i64 s0, .slice a0 len0 cap0] 24)).heap.size (w.alloc (.cells #[.int .i64 s0, .slice a0 len0 cap0] 24)) w3) := Lib.hid (B2.out.trans (b3.mono (by omega)))
  clear PA_2 C_2 B2 CC
  clear b3
  clear ch ck
  clear C_3
  obtain ⟨kPA0, kPA1⟩ := PA_3.out
  have hT := HT0.out w3 B3.out
  have HTT := Lib.hid hT
  clear hT
  go_wp2_with fail
  go_at_call 7
  refine HTT.out.mono ?_
  rintro e w4 ⟨xv, rfl, o4, b4⟩
  have y4 := b4.size
  have PA_4 := Lib.hid (PA_3.out.below b4 PA_3.out.lt)
  have B4 : Hid (Below (w.alloc (.cells #[.int .i64 s0, .slice a0 len0 cap0] 24)).heap.size (w.alloc (.cells #[.int .i64 s0, .slice a0 len0 cap0] 24)) w4) := Lib.hid (B3.out.trans (b4.mono (by omega)))
  clear PA_3 B3 HTT kPA0 kPA1
  have X_4 := Lib.hid (OwnIClue.of o4)
  obtain ⟨xa, xc, xe, xh, xk⟩ := X_4.out.1.cameC
  rw [HZ0.out] at xe xh xk
  subst xe
  clear o4 b4
  have y5 : (w4.alloc (.cells #[.int .i64 s0, .slice xa len0 xc] 30)).heap.size = w4.heap.size + 1 := rz_size1 _ _
  have PA_5 := Lib.hid (PA_4.out.alloc (.cells #[.int .i64 s0, .slice xa len0 xc] 30))
  have X_5 := Lib.hid (X_4.out.below ((Below.refl w4.heap.size w4).alloc (Nat.le_refl _) (.cells #[.int .i64 s0, .slice xa len0 xc] 30)) (by omega))
  have BX_5 : Hid (BoxZ (w4.alloc (.cells #[.int .i64 s0, .slice xa len0 xc] 30)) w4.heap.size s0 (.slice xa len0 xc)) := Lib.hid (BoxZ.new w4 _ _ _)
  have B5 : Hid (Below (w.alloc (.cells #[.int .i64 s0, .slice a0 len0 cap0] 24)).heap.size (w.alloc (.cells #[.int .i64 s0, .slice a0 len0 cap0] 24)) (w4.alloc (.cells #[.int .i64 s0, .slice xa len0 xc] 30))) := Lib.hid (B4.out.alloc (by have := B4.out.size; omega) _)
  clear PA_4 X_4 B4
  have xhh := X_5.out.1.cameC
  clear xh
  obtain ⟨xa', xc', xe, xhh, _⟩ := xhh
  rw [HZ0.out] at xe xhh
  injection xe with xe1 _ xe3
  subst xe1 xe3
  obtain ⟨kBX0, kBX1⟩ := BX_5.out
  have CC := Lib.hid (HI.out (w4.alloc (.cells #[.int .i64 s0, .slice xa len0 xc] 30)) xa xc xhh xk)
  go_wp2_with fail
  go_at_call 8
  refine CC.out.mono ?_
  rintro e w6 ⟨rfl, b6⟩
  have y6 := b6.size
  have PA_6 := Lib.hid (PA_5.out.below b6 PA_5.out.lt)
  have X_6 := Lib.hid (X_5.out.below b6 (by omega))
  have BX_6 := Lib.hid (BX_5.out.below b6 BX_5.out.lt)
  have B6 : Hid (Below (w.alloc (.cells #[.int .i64 s0, .slice a0 len0 cap0] 24)).heap.size (w.alloc (.cells #[.int .i64 s0, .slice a0 len0 cap0] 24)) w6) := Lib.hid (B5.out.trans (b6.mono (by omega)))
  clear PA_5 X_5 BX_5 B5 CC kBX0 kBX1
  clear b6
  clear xhh xk
  obtain ⟨kBX0, kBX1⟩ := BX_6.out
  obtain ⟨kPA0, kPA1⟩ := PA_6.out
  have hTa := HT0.out
  have HTA := Lib.hid hTa
  clear hTa
  go_wp2_with fail
  go_region_held_law (fun w' => w'.cell? ⟨w.heap.size, 0, none⟩ = some (.int .i64 s0) ∧ w'.cell? ⟨w.heap.size, 1, none⟩ = some (.slice a0 len0 cap0) ∧ w'.cell? ⟨w4.heap.size, 0, none⟩ = some (.int .i64 s0) ∧ w'.cell? ⟨w4.heap.size, 1, none⟩ = some (.slice xa len0 xc)) (first | exact ⟨pt.c0, pt.c1, xt.c0, xt.c1⟩ | exact ⟨pe.c0, pe.c1, xe.c0, xe.c1⟩ | go_keep)
    (first
      | (go_at_call 7; refine (HTA.out _ (by exact ⟨B6.out.os, B6.out.tape, B6.out.output, B6.out.size, B6.out.block⟩)).mono ?_; rintro e wt ⟨tv, rfl, ot, bt⟩; obtain ⟨ta, tc, rfl⟩ := ot.any; have pt := BoxZ.below (g := w.heap.size) (s := s0) (v := .slice a0 len0 cap0) (h := by exact ⟨PA_6.out.c0, PA_6.out.c1⟩) bt PA_6.out.lt; have xt := BoxZ.below (g := w4.heap.size) (s := s0) (v := .slice xa len0 xc) (h := by exact ⟨BX_6.out.c0, BX_6.out.c1⟩) bt BX_6.out.lt; have yt := bt.size)
      | (go_at_call 9; refine (eqPuzzle_two wt _ _ _ _ _ _ s0 z0 (by omega) (OwnIClue.below (h := by exact ⟨X_6.out.1, X_6.out.2⟩) bt (by show _ ≤ w6.heap.size; omega)) (OwnIClue.of ot)).mono ?_; rintro e wf ⟨rfl, be⟩; have pe := pt.below be pt.lt; have xe := xt.below be xt.lt))
  have bf : Below w6.heap.size w6 wf := (show Below w6.heap.size w6 wt from ⟨bt.os, bt.tape, bt.output, bt.size, bt.block⟩).trans (be.mono bt.size)
  have y7 := bf.size
  have PA_7 := Lib.hid (PA_6.out.below bf PA_6.out.lt)
  have X_7 := Lib.hid (X_6.out.below bf (by omega))
  have BX_7 := Lib.hid (BX_6.out.below bf BX_6.out.lt)
  have B7 : Hid (Below (w.alloc (.cells #[.int .i64 s0, .slice a0 len0 cap0] 24)).heap.size (w.alloc (.cells #[.int .i64 s0, .slice a0 len0 cap0] 24)) wf) := Lib.hid (B6.out.trans (bf.mono (by omega)))
  clear PA_6 X_6 BX_6 B6 kBX0 kBX1 kPA0 kPA1 HTA bt be ot pt xt pe xe yt bf
  go_wp2
  go_ret
  exact ⟨rfl, HW0.out.trans (B7.out.mono HW0.out.size)⟩

set_option maxHeartbeats 1000000 in
theorem walkFnExactPuzzleText (s0 : Int) (a0 : Option Addr) (len0 cap0 : Nat) (z0 : List RClue) (w : World) (hc0 : CameClue w a0 len0 z0) (hk0 : len0 ≤ 9223372036854775807) :
    Calls Tryd.prog 3 #[.agg #[.int .i64 s0, .slice a0 len0 cap0]] w fun e w' => e = .returned (.bool true) ∧ Below w.heap.size w w' := by
  exact lawPuzzleText w s0 a0 len0 cap0 z0 (outPuzzleText_0 s0 z0) (outPuzzleText_1 s0 z0) hc0 hk0
    (fun hl => fun w a cap hc _ => specPuzzleText_any w s0 a len0 cap z0 hl hc)
    (fun hl => fun w a cap hc _ => implPuzzleText_any w s0 a len0 cap z0 hl hc)

end Go.Proofs.YtodlpdbmiicdfabDoor
