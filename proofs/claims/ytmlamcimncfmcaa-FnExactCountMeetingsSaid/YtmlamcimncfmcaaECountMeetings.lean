/- The walk of the law FnExactCountMeetings, out of the contracts of its two functions. -/
import Derived.Test.YtmlamcimncfmcaaKinds
import Derived.Test.YtmlamcimncfmcaaBxS
import Derived.Test.YtmlamcimncfmcaaAny
import Derived.Test.YtmlamcimncfmcaaSjc
namespace Go.Proofs.Ytmlamcimncfmcaa
open Go.ChangeShapes Go.WideShapes Go.ChangeAt Go.RowKit

structure CountMeetingsAV  (p0 : Int) (gf1 : Int) (gl1 : Bool) (gs1 : Int) (gf2 : Int) (gl2 : Bool) (gs2 : Int) (p3 : Int) (r0 : Int) (r1 : Bool) (pb1 pb2 : Nat) (l : Array Bool) (v14 v15 v16 v17 v18 v19 v20 v13 v21 v22 v9 v10 : Value) : Prop where
  f0 : l.getD 0 false = true → v14 = .int .i64 p0
  f1 : l.getD 1 false = true → v15 = .agg #[.int .i64 gf1, .bool gl1, .int .i64 gs1]
  f2 : l.getD 2 false = true → v16 = .agg #[.int .i64 gf1, .bool gl1, .int .i64 gs1]
  f3 : l.getD 3 false = true → v17 = .agg #[.int .i64 gf2, .bool gl2, .int .i64 gs2]
  f4 : l.getD 4 false = true → v18 = .agg #[.int .i64 gf2, .bool gl2, .int .i64 gs2]
  f5 : l.getD 5 false = true → v19 = .int .i64 p3
  f6 : l.getD 6 false = true → v20 = .tuple #[.int .i64 r0, .bool r1]
  f7 : l.getD 7 false = true → v13 = .tuple #[.int .i64 r0, .bool r1]
  f8 : l.getD 8 false = true → v21 = .int .i64 r0
  f9 : l.getD 9 false = true → v22 = .bool r1
  f10 : l.getD 10 false = true → v9 = .int .i64 r0
  f11 : l.getD 11 false = true → v10 = .bool r1
def CountMeetingsA (w0 : World)  (p0 : Int) (gf1 : Int) (gl1 : Bool) (gs1 : Int) (gf2 : Int) (gl2 : Bool) (gs2 : Int) (p3 : Int) (r0 : Int) (r1 : Bool) (pb1 pb2 : Nat) (l : Array Bool) (a : Act) (w : World) : Prop :=
  ∃ v9 v10 v13 v14 v15 v16 v17 v18 v19 v20 v21 v22 : Value, a = { tmps := List.toArray (Value.int IntKind.i64 p0 :: Value.agg #[Value.int IntKind.i64 gf1, Value.bool gl1, Value.int IntKind.i64 gs1] :: Value.agg #[Value.int IntKind.i64 gf2, Value.bool gl2, Value.int IntKind.i64 gs2] :: Value.int IntKind.i64 p3 :: undef :: Value.pointer (some { block := pb1, off := 0 }) :: Value.pointer (some { block := pb2, off := 0 }) :: undef :: Value.bool false :: v9 :: v10 :: undef :: undef :: v13 :: v14 :: v15 :: v16 :: v17 :: v18 :: v19 :: v20 :: v21 :: v22 :: undef :: undef :: undef :: undef :: undef :: undef :: undef :: undef :: undef :: undef :: undef :: undef :: undef :: undef :: undef :: undef :: undef :: undef :: []), defers := [] } ∧ Hid (CountMeetingsAV p0 gf1 gl1 gs1 gf2 gl2 gs2 p3 r0 r1 pb1 pb2 l v14 v15 v16 v17 v18 v19 v20 v13 v21 v22 v9 v10) ∧ Hid (Below w0.heap.size w0 w)
structure CountMeetingsBV  (p0 : Int) (gf1 : Int) (gl1 : Bool) (gs1 : Int) (gf2 : Int) (gl2 : Bool) (gs2 : Int) (p3 : Int) (r0 : Int) (r1 : Bool) (pb1 pb2 : Nat) (l : Array Bool) (v24 v25 v26 v27 v28 v29 v30 v23 v31 v32 v11 v12 : Value) : Prop where
  f0 : l.getD 0 false = true → v24 = .int .i64 p0
  f1 : l.getD 1 false = true → v25 = .agg #[.int .i64 gf1, .bool gl1, .int .i64 gs1]
  f2 : l.getD 2 false = true → v26 = .agg #[.int .i64 gf1, .bool gl1, .int .i64 gs1]
  f3 : l.getD 3 false = true → v27 = .agg #[.int .i64 gf2, .bool gl2, .int .i64 gs2]
  f4 : l.getD 4 false = true → v28 = .agg #[.int .i64 gf2, .bool gl2, .int .i64 gs2]
  f5 : l.getD 5 false = true → v29 = .int .i64 p3
  f6 : l.getD 6 false = true → v30 = .tuple #[.int .i64 r0, .bool r1]
  f7 : l.getD 7 false = true → v23 = .tuple #[.int .i64 r0, .bool r1]
  f8 : l.getD 8 false = true → v31 = .int .i64 r0
  f9 : l.getD 9 false = true → v32 = .bool r1
  f10 : l.getD 10 false = true → v11 = .int .i64 r0
  f11 : l.getD 11 false = true → v12 = .bool r1
def CountMeetingsB (w0 : World)  (p0 : Int) (gf1 : Int) (gl1 : Bool) (gs1 : Int) (gf2 : Int) (gl2 : Bool) (gs2 : Int) (p3 : Int) (r0 : Int) (r1 : Bool) (pb1 pb2 : Nat) (l : Array Bool) (a : Act) (w : World) : Prop :=
  ∃ v11 v12 v23 v24 v25 v26 v27 v28 v29 v30 v31 v32 : Value, a = { tmps := List.toArray (Value.int IntKind.i64 p0 :: Value.agg #[Value.int IntKind.i64 gf1, Value.bool gl1, Value.int IntKind.i64 gs1] :: Value.agg #[Value.int IntKind.i64 gf2, Value.bool gl2, Value.int IntKind.i64 gs2] :: Value.int IntKind.i64 p3 :: undef :: Value.pointer (some { block := pb1, off := 0 }) :: Value.pointer (some { block := pb2, off := 0 }) :: undef :: Value.bool false :: Value.int IntKind.i64 r0 :: Value.bool r1 :: v11 :: v12 :: Value.tuple #[Value.int IntKind.i64 r0, Value.bool r1] :: Value.int IntKind.i64 p0 :: Value.agg #[Value.int IntKind.i64 gf1, Value.bool gl1, Value.int IntKind.i64 gs1] :: Value.agg #[Value.int IntKind.i64 gf1, Value.bool gl1, Value.int IntKind.i64 gs1] :: Value.agg #[Value.int IntKind.i64 gf2, Value.bool gl2, Value.int IntKind.i64 gs2] :: Value.agg #[Value.int IntKind.i64 gf2, Value.bool gl2, Value.int IntKind.i64 gs2] :: Value.int IntKind.i64 p3 :: Value.tuple #[Value.int IntKind.i64 r0, Value.bool r1] :: Value.int IntKind.i64 r0 :: Value.bool r1 :: v23 :: v24 :: v25 :: v26 :: v27 :: v28 :: v29 :: v30 :: v31 :: v32 :: undef :: undef :: undef :: undef :: undef :: undef :: undef :: undef :: []), defers := [] } ∧ Hid (CountMeetingsBV p0 gf1 gl1 gs1 gf2 gl2 gs2 p3 r0 r1 pb1 pb2 l v24 v25 v26 v27 v28 v29 v30 v23 v31 v32 v11 v12) ∧ Hid (Below w0.heap.size w0 w)
set_option maxHeartbeats 4000000 in
theorem lawCountMeetings (w : World) (p0 : Int) (gf1 : Int) (gl1 : Bool) (gs1 : Int) (gf2 : Int) (gl2 : Bool) (gs2 : Int) (p3 : Int) (r0 : Int) (r1 : Bool)
    (hS : ∀ (w : World), Calls Try.prog 30 #[.int .i64 p0, .agg #[.int .i64 gf1, .bool gl1, .int .i64 gs1], .agg #[.int .i64 gf2, .bool gl2, .int .i64 gs2], .int .i64 p3] w fun e w' => e = .returned (.tuple #[.int .i64 r0, .bool r1]) ∧ Below w.heap.size w w')
    (hI : ∀ (w : World), Calls Try.prog 31 #[.int .i64 p0, .agg #[.int .i64 gf1, .bool gl1, .int .i64 gs1], .agg #[.int .i64 gf2, .bool gl2, .int .i64 gs2], .int .i64 p3] w fun e w' => e = .returned (.tuple #[.int .i64 r0, .bool r1]) ∧ Below w.heap.size w w') :
    Calls Try.prog 8 #[.int .i64 p0, .agg #[.int .i64 gf1, .bool gl1, .int .i64 gs1], .agg #[.int .i64 gf2, .bool gl2, .int .i64 gs2], .int .i64 p3] w fun e w' => e = .returned (.bool true) ∧ Below w.heap.size w w' := by
  have HS := Lib.hid hS
  have HI := Lib.hid hI
  obtain ⟨wb1, hw_1⟩ : ∃ w0, w0 = w.alloc (.cells #[.int .i64 gf1, .bool gl1, .int .i64 gs1] 30) := ⟨_, rfl⟩
  have HW_1 : Hid (Below w.heap.size w wb1) := Lib.hid (by rw [hw_1]; exact (Below.refl _ _).alloc (Nat.le_refl _) _)
  obtain ⟨pb1, hpb1⟩ : ∃ pb, pb = w.heap.size := ⟨_, rfl⟩
  have HPC1 : Hid (BoxSignal wb1 pb1 gf1 gl1 gs1) := Lib.hid (by rw [hw_1, hpb1]; exact boxSignal_new _ gf1 gl1 gs1)
  have HTG1 := Lib.hid (fun w2 => toSignal_any gf1 gl1 gs1 w2)
  obtain ⟨w0, hw_2⟩ : ∃ w0, w0 = wb1.alloc (.cells #[.int .i64 gf2, .bool gl2, .int .i64 gs2] 30) := ⟨_, rfl⟩
  have HW_2 : Hid (Below w.heap.size w w0) := Lib.hid (by rw [hw_2]; exact HW_1.out.alloc HW_1.out.size _)
  obtain ⟨pb2, hpb2⟩ : ∃ pb, pb = w.heap.size + 1 := ⟨_, rfl⟩
  have HPC2 : Hid (BoxSignal w0 pb2 gf2 gl2 gs2) := Lib.hid (by rw [hw_2, hpb2]; exact boxSignal_at _ _ gf2 gl2 gs2 (by rw [hw_1, alloc_size1]))
  have HTG2 := Lib.hid (fun w2 => toSignal_any gf2 gl2 gs2 w2)
  have HPC1 : Hid (BoxSignal w0 pb1 gf1 gl1 gs1) := Lib.hid (by rw [hw_2]; exact HPC1.out.below ((Below.refl _ _).alloc (Nat.le_refl _) _))
  have HW0 : Hid (Below w.heap.size w w0) := HW_2
  have HPC1 : Hid (∀ w2, Below w0.heap.size w0 w2 → BoxSignal w2 pb1 gf1 gl1 gs1) := Lib.hid (fun w2 h => HPC1.out.below h)
  have HPC2 : Hid (∀ w2, Below w0.heap.size w0 w2 → BoxSignal w2 pb2 gf2 gl2 gs2) := Lib.hid (fun w2 h => HPC2.out.below h)
  clear HW_1 HW_2
  clear hS hI
  have B0 : Hid (Below w0.heap.size w0 w0) := Lib.hid (Below.refl _ _)
  go_enter Try.func8, Try.ntmps8
  go_wp2_with fail
  rw [← hw_1, ← hw_2, ← hpb2, ← hpb1]
  clear hw_1 hpb1 hw_2 hpb2
  have HPA1 := Lib.hid (show ∀ w5, Below w0.heap.size w0 w5 → BoxSignal w5 pb1 gf1 gl1 gs1 from HPC1.out)
  have HPA2 := Lib.hid (show ∀ w5, Below w0.heap.size w0 w5 → BoxSignal w5 pb2 gf2 gl2 gs2 from HPC2.out)
  refine wp_region_inv (by kernel_rfl) (CountMeetingsA w0 p0 gf1 gl1 gs1 gf2 gl2 gs2 p3 r0 r1 pb1 pb2) (by kernel_rfl) ?_ ?_ ?_
  · exact ⟨_, _, _, _, _, _, _, _, _, _, _, _, rfl, Lib.hid ⟨fun h => by simp at h, fun h => by simp at h, fun h => by simp at h, fun h => by simp at h, fun h => by simp at h, fun h => by simp at h, fun h => by simp at h, fun h => by simp at h, fun h => by simp at h, fun h => by simp at h, fun h => by simp at h, fun h => by simp at h⟩, Lib.hid ⟨rfl, rfl, rfl, Nat.le_refl _, fun _ _ => rfl⟩⟩
  · intro i o l a w' ho hsz hl hdep hI
    obtain ⟨v9, v10, v13, v14, v15, v16, v17, v18, v19, v20, v21, v22, rfl, HV, BL⟩ := hI
    have HSZ : Hid (l.size = 12) := Lib.hid hsz
    have HLF : Hid (l.getD i false = false) := Lib.hid (by rcases h : l.getD i false with _ | _; rfl; rw [getD_flip (by have hs := HSZ.out; have := (Array.getElem?_eq_some_iff.1 ho).1; simp at this; omega), h] at hl; cases hl)
    clear hsz hl
    match i, ho with
    | 0, ho =>
      obtain rfl := Option.some.inj ho
      clear hdep ho
      go_wp2
      exact ⟨v9, v10, v13, _, v15, v16, v17, v18, v19, v20, v21, v22, rfl, Lib.hid ⟨fun _ => by first | rfl | exact int_eq (by omega), fun h => HV.out.f1 (ung (by decide) h), fun h => HV.out.f2 (ung (by decide) h), fun h => HV.out.f3 (ung (by decide) h), fun h => HV.out.f4 (ung (by decide) h), fun h => HV.out.f5 (ung (by decide) h), fun h => HV.out.f6 (ung (by decide) h), fun h => HV.out.f7 (ung (by decide) h), fun h => HV.out.f8 (ung (by decide) h), fun h => HV.out.f9 (ung (by decide) h), fun h => HV.out.f10 (ung (by decide) h), fun h => HV.out.f11 (ung (by decide) h)⟩, BL⟩
    | 1, ho =>
      obtain rfl := Option.some.inj ho
      clear hdep ho
      obtain ⟨c0, c1, c2⟩ := HPA1.out _ BL.out
      go_wp2
      exact ⟨v9, v10, v13, v14, _, v16, v17, v18, v19, v20, v21, v22, rfl, Lib.hid ⟨fun h => HV.out.f0 (ung (by decide) h), fun _ => by first | rfl | exact int_eq (by omega), fun h => HV.out.f2 (ung (by decide) h), fun h => HV.out.f3 (ung (by decide) h), fun h => HV.out.f4 (ung (by decide) h), fun h => HV.out.f5 (ung (by decide) h), fun h => HV.out.f6 (ung (by decide) h), fun h => HV.out.f7 (ung (by decide) h), fun h => HV.out.f8 (ung (by decide) h), fun h => HV.out.f9 (ung (by decide) h), fun h => HV.out.f10 (ung (by decide) h), fun h => HV.out.f11 (ung (by decide) h)⟩, BL⟩
    | 2, ho =>
      obtain rfl := Option.some.inj ho
      obtain rfl := HV.out.f1 (hdep ⟨1, .data⟩ (by simp) rfl)
      clear hdep ho
      go_wp2_with fail
      go_at_call 19
      refine (HTG1.out _).mono ?_
      rintro e w2 ⟨rfl, b2⟩
      have B2 : Hid (Below w0.heap.size w0 _) := Lib.hid (BL.out.trans (b2.mono BL.out.size))
      clear b2
      go_wp2
      exact ⟨v9, v10, v13, v14, _, _, v17, v18, v19, v20, v21, v22, rfl, Lib.hid ⟨fun h => HV.out.f0 (ung (by decide) h), fun h => HV.out.f1 (ung (by decide) h), fun _ => by first | rfl | exact int_eq (by omega), fun h => HV.out.f3 (ung (by decide) h), fun h => HV.out.f4 (ung (by decide) h), fun h => HV.out.f5 (ung (by decide) h), fun h => HV.out.f6 (ung (by decide) h), fun h => HV.out.f7 (ung (by decide) h), fun h => HV.out.f8 (ung (by decide) h), fun h => HV.out.f9 (ung (by decide) h), fun h => HV.out.f10 (ung (by decide) h), fun h => HV.out.f11 (ung (by decide) h)⟩, B2⟩
    | 3, ho =>
      obtain rfl := Option.some.inj ho
      clear hdep ho
      obtain ⟨c0, c1, c2⟩ := HPA2.out _ BL.out
      go_wp2
      exact ⟨v9, v10, v13, v14, v15, v16, _, v18, v19, v20, v21, v22, rfl, Lib.hid ⟨fun h => HV.out.f0 (ung (by decide) h), fun h => HV.out.f1 (ung (by decide) h), fun h => HV.out.f2 (ung (by decide) h), fun _ => by first | rfl | exact int_eq (by omega), fun h => HV.out.f4 (ung (by decide) h), fun h => HV.out.f5 (ung (by decide) h), fun h => HV.out.f6 (ung (by decide) h), fun h => HV.out.f7 (ung (by decide) h), fun h => HV.out.f8 (ung (by decide) h), fun h => HV.out.f9 (ung (by decide) h), fun h => HV.out.f10 (ung (by decide) h), fun h => HV.out.f11 (ung (by decide) h)⟩, BL⟩
    | 4, ho =>
      obtain rfl := Option.some.inj ho
      obtain rfl := HV.out.f3 (hdep ⟨3, .data⟩ (by simp) rfl)
      clear hdep ho
      go_wp2_with fail
      go_at_call 19
      refine (HTG2.out _).mono ?_
      rintro e w2 ⟨rfl, b2⟩
      have B2 : Hid (Below w0.heap.size w0 _) := Lib.hid (BL.out.trans (b2.mono BL.out.size))
      clear b2
      go_wp2
      exact ⟨v9, v10, v13, v14, v15, v16, _, _, v19, v20, v21, v22, rfl, Lib.hid ⟨fun h => HV.out.f0 (ung (by decide) h), fun h => HV.out.f1 (ung (by decide) h), fun h => HV.out.f2 (ung (by decide) h), fun h => HV.out.f3 (ung (by decide) h), fun _ => by first | rfl | exact int_eq (by omega), fun h => HV.out.f5 (ung (by decide) h), fun h => HV.out.f6 (ung (by decide) h), fun h => HV.out.f7 (ung (by decide) h), fun h => HV.out.f8 (ung (by decide) h), fun h => HV.out.f9 (ung (by decide) h), fun h => HV.out.f10 (ung (by decide) h), fun h => HV.out.f11 (ung (by decide) h)⟩, B2⟩
    | 5, ho =>
      obtain rfl := Option.some.inj ho
      clear hdep ho
      go_wp2
      exact ⟨v9, v10, v13, v14, v15, v16, v17, v18, _, v20, v21, v22, rfl, Lib.hid ⟨fun h => HV.out.f0 (ung (by decide) h), fun h => HV.out.f1 (ung (by decide) h), fun h => HV.out.f2 (ung (by decide) h), fun h => HV.out.f3 (ung (by decide) h), fun h => HV.out.f4 (ung (by decide) h), fun _ => by first | rfl | exact int_eq (by omega), fun h => HV.out.f6 (ung (by decide) h), fun h => HV.out.f7 (ung (by decide) h), fun h => HV.out.f8 (ung (by decide) h), fun h => HV.out.f9 (ung (by decide) h), fun h => HV.out.f10 (ung (by decide) h), fun h => HV.out.f11 (ung (by decide) h)⟩, BL⟩
    | 6, ho =>
      obtain rfl := Option.some.inj ho
      obtain rfl := HV.out.f0 (hdep ⟨0, .data⟩ (by simp) rfl)
      obtain rfl := HV.out.f2 (hdep ⟨2, .data⟩ (by simp) rfl)
      obtain rfl := HV.out.f4 (hdep ⟨4, .data⟩ (by simp) rfl)
      obtain rfl := HV.out.f5 (hdep ⟨5, .data⟩ (by simp) rfl)
      clear hdep ho
      go_wp2_with fail
      go_at_call 30
      refine (HS.out _).mono ?_
      rintro e w2 ⟨rfl, b2⟩
      have B2 : Hid (Below w0.heap.size w0 _) := Lib.hid (BL.out.trans (b2.mono BL.out.size))
      clear b2
      go_wp2
      exact ⟨v9, v10, v13, _, v15, _, v17, _, _, _, v21, v22, rfl, Lib.hid ⟨fun h => HV.out.f0 (ung (by decide) h), fun h => HV.out.f1 (ung (by decide) h), fun h => HV.out.f2 (ung (by decide) h), fun h => HV.out.f3 (ung (by decide) h), fun h => HV.out.f4 (ung (by decide) h), fun h => HV.out.f5 (ung (by decide) h), fun _ => by first | rfl | exact int_eq (by omega), fun h => HV.out.f7 (ung (by decide) h), fun h => HV.out.f8 (ung (by decide) h), fun h => HV.out.f9 (ung (by decide) h), fun h => HV.out.f10 (ung (by decide) h), fun h => HV.out.f11 (ung (by decide) h)⟩, B2⟩
    | 7, ho =>
      obtain rfl := Option.some.inj ho
      obtain rfl := HV.out.f6 (hdep ⟨6, .data⟩ (by simp) rfl)
      clear hdep ho
      go_wp2
      exact ⟨v9, v10, _, v14, v15, v16, v17, v18, v19, _, v21, v22, rfl, Lib.hid ⟨fun h => HV.out.f0 (ung (by decide) h), fun h => HV.out.f1 (ung (by decide) h), fun h => HV.out.f2 (ung (by decide) h), fun h => HV.out.f3 (ung (by decide) h), fun h => HV.out.f4 (ung (by decide) h), fun h => HV.out.f5 (ung (by decide) h), fun h => HV.out.f6 (ung (by decide) h), fun _ => by first | rfl | exact int_eq (by omega), fun h => HV.out.f8 (ung (by decide) h), fun h => HV.out.f9 (ung (by decide) h), fun h => HV.out.f10 (ung (by decide) h), fun h => HV.out.f11 (ung (by decide) h)⟩, BL⟩
    | 8, ho =>
      obtain rfl := Option.some.inj ho
      obtain rfl := HV.out.f7 (hdep ⟨7, .data⟩ (by simp) rfl)
      clear hdep ho
      go_wp2
      exact ⟨v9, v10, _, v14, v15, v16, v17, v18, v19, v20, _, v22, rfl, Lib.hid ⟨fun h => HV.out.f0 (ung (by decide) h), fun h => HV.out.f1 (ung (by decide) h), fun h => HV.out.f2 (ung (by decide) h), fun h => HV.out.f3 (ung (by decide) h), fun h => HV.out.f4 (ung (by decide) h), fun h => HV.out.f5 (ung (by decide) h), fun h => HV.out.f6 (ung (by decide) h), fun h => HV.out.f7 (ung (by decide) h), fun _ => by first | rfl | exact int_eq (by omega), fun h => HV.out.f9 (ung (by decide) h), fun h => HV.out.f10 (ung (by decide) h), fun h => HV.out.f11 (ung (by decide) h)⟩, BL⟩
    | 9, ho =>
      obtain rfl := Option.some.inj ho
      obtain rfl := HV.out.f7 (hdep ⟨7, .data⟩ (by simp) rfl)
      clear hdep ho
      go_wp2
      exact ⟨v9, v10, _, v14, v15, v16, v17, v18, v19, v20, v21, _, rfl, Lib.hid ⟨fun h => HV.out.f0 (ung (by decide) h), fun h => HV.out.f1 (ung (by decide) h), fun h => HV.out.f2 (ung (by decide) h), fun h => HV.out.f3 (ung (by decide) h), fun h => HV.out.f4 (ung (by decide) h), fun h => HV.out.f5 (ung (by decide) h), fun h => HV.out.f6 (ung (by decide) h), fun h => HV.out.f7 (ung (by decide) h), fun h => HV.out.f8 (ung (by decide) h), fun _ => by first | rfl | exact int_eq (by omega), fun h => HV.out.f10 (ung (by decide) h), fun h => HV.out.f11 (ung (by decide) h)⟩, BL⟩
    | 10, ho =>
      obtain rfl := Option.some.inj ho
      obtain rfl := HV.out.f8 (hdep ⟨8, .data⟩ (by simp) rfl)
      clear hdep ho
      go_wp2
      exact ⟨_, v10, v13, v14, v15, v16, v17, v18, v19, v20, _, v22, rfl, Lib.hid ⟨fun h => HV.out.f0 (ung (by decide) h), fun h => HV.out.f1 (ung (by decide) h), fun h => HV.out.f2 (ung (by decide) h), fun h => HV.out.f3 (ung (by decide) h), fun h => HV.out.f4 (ung (by decide) h), fun h => HV.out.f5 (ung (by decide) h), fun h => HV.out.f6 (ung (by decide) h), fun h => HV.out.f7 (ung (by decide) h), fun h => HV.out.f8 (ung (by decide) h), fun h => HV.out.f9 (ung (by decide) h), fun _ => by first | rfl | exact int_eq (by omega), fun h => HV.out.f11 (ung (by decide) h)⟩, BL⟩
    | 11, ho =>
      obtain rfl := Option.some.inj ho
      obtain rfl := HV.out.f9 (hdep ⟨9, .data⟩ (by simp) rfl)
      clear hdep ho
      go_wp2
      exact ⟨v9, _, v13, v14, v15, v16, v17, v18, v19, v20, v21, _, rfl, Lib.hid ⟨fun h => HV.out.f0 (ung (by decide) h), fun h => HV.out.f1 (ung (by decide) h), fun h => HV.out.f2 (ung (by decide) h), fun h => HV.out.f3 (ung (by decide) h), fun h => HV.out.f4 (ung (by decide) h), fun h => HV.out.f5 (ung (by decide) h), fun h => HV.out.f6 (ung (by decide) h), fun h => HV.out.f7 (ung (by decide) h), fun h => HV.out.f8 (ung (by decide) h), fun h => HV.out.f9 (ung (by decide) h), fun h => HV.out.f10 (ung (by decide) h), fun _ => by first | rfl | exact int_eq (by omega)⟩, BL⟩
    | i + 12, ho => simp at ho
  · intro l a w2 hall hI
    obtain ⟨v9, v10, v13, v14, v15, v16, v17, v18, v19, v20, v21, v22, rfl, HV, BL⟩ := hI
    obtain rfl := HV.out.f0 (hall 0 (by decide))
    obtain rfl := HV.out.f1 (hall 1 (by decide))
    obtain rfl := HV.out.f2 (hall 2 (by decide))
    obtain rfl := HV.out.f3 (hall 3 (by decide))
    obtain rfl := HV.out.f4 (hall 4 (by decide))
    obtain rfl := HV.out.f5 (hall 5 (by decide))
    obtain rfl := HV.out.f6 (hall 6 (by decide))
    obtain rfl := HV.out.f7 (hall 7 (by decide))
    obtain rfl := HV.out.f8 (hall 8 (by decide))
    obtain rfl := HV.out.f9 (hall 9 (by decide))
    obtain rfl := HV.out.f10 (hall 10 (by decide))
    obtain rfl := HV.out.f11 (hall 11 (by decide))
    clear hall HV
    obtain ⟨wm, hwm⟩ : ∃ wm, wm = w2 := ⟨_, rfl⟩
    rw [← hwm] at BL ⊢
    clear hwm
    have BLm := BL
    clear BL
    have HPD1 : Hid (∀ w5, Below wm.heap.size wm w5 → BoxSignal w5 pb1 gf1 gl1 gs1) := Lib.hid (fun w5 h => HPC1.out w5 (BLm.out.trans (h.mono BLm.out.size)))
    have HPD2 : Hid (∀ w5, Below wm.heap.size wm w5 → BoxSignal w5 pb2 gf2 gl2 gs2) := Lib.hid (fun w5 h => HPC2.out w5 (BLm.out.trans (h.mono BLm.out.size)))
    go_wp2_with fail
    refine wp_region_inv (by kernel_rfl) (CountMeetingsB wm p0 gf1 gl1 gs1 gf2 gl2 gs2 p3 r0 r1 pb1 pb2) (by kernel_rfl) ?_ ?_ ?_
    · exact ⟨_, _, _, _, _, _, _, _, _, _, _, _, rfl, Lib.hid ⟨fun h => by simp at h, fun h => by simp at h, fun h => by simp at h, fun h => by simp at h, fun h => by simp at h, fun h => by simp at h, fun h => by simp at h, fun h => by simp at h, fun h => by simp at h, fun h => by simp at h, fun h => by simp at h, fun h => by simp at h⟩, Lib.hid ⟨rfl, rfl, rfl, Nat.le_refl _, fun _ _ => rfl⟩⟩
    · intro i o l a w' ho hsz hl hdep hI
      obtain ⟨v11, v12, v23, v24, v25, v26, v27, v28, v29, v30, v31, v32, rfl, HV, BL⟩ := hI
      have HSZ : Hid (l.size = 12) := Lib.hid hsz
      have HLF : Hid (l.getD i false = false) := Lib.hid (by rcases h : l.getD i false with _ | _; rfl; rw [getD_flip (by have hs := HSZ.out; have := (Array.getElem?_eq_some_iff.1 ho).1; simp at this; omega), h] at hl; cases hl)
      clear hsz hl
      match i, ho with
      | 0, ho =>
        obtain rfl := Option.some.inj ho
        clear hdep ho
        go_wp2
        exact ⟨v11, v12, v23, _, v25, v26, v27, v28, v29, v30, v31, v32, rfl, Lib.hid ⟨fun _ => by first | rfl | exact int_eq (by omega), fun h => HV.out.f1 (ung (by decide) h), fun h => HV.out.f2 (ung (by decide) h), fun h => HV.out.f3 (ung (by decide) h), fun h => HV.out.f4 (ung (by decide) h), fun h => HV.out.f5 (ung (by decide) h), fun h => HV.out.f6 (ung (by decide) h), fun h => HV.out.f7 (ung (by decide) h), fun h => HV.out.f8 (ung (by decide) h), fun h => HV.out.f9 (ung (by decide) h), fun h => HV.out.f10 (ung (by decide) h), fun h => HV.out.f11 (ung (by decide) h)⟩, BL⟩
      | 1, ho =>
        obtain rfl := Option.some.inj ho
        clear hdep ho
        obtain ⟨c0, c1, c2⟩ := HPD1.out _ BL.out
        go_wp2
        exact ⟨v11, v12, v23, v24, _, v26, v27, v28, v29, v30, v31, v32, rfl, Lib.hid ⟨fun h => HV.out.f0 (ung (by decide) h), fun _ => by first | rfl | exact int_eq (by omega), fun h => HV.out.f2 (ung (by decide) h), fun h => HV.out.f3 (ung (by decide) h), fun h => HV.out.f4 (ung (by decide) h), fun h => HV.out.f5 (ung (by decide) h), fun h => HV.out.f6 (ung (by decide) h), fun h => HV.out.f7 (ung (by decide) h), fun h => HV.out.f8 (ung (by decide) h), fun h => HV.out.f9 (ung (by decide) h), fun h => HV.out.f10 (ung (by decide) h), fun h => HV.out.f11 (ung (by decide) h)⟩, BL⟩
      | 2, ho =>
        obtain rfl := Option.some.inj ho
        obtain rfl := HV.out.f1 (hdep ⟨1, .data⟩ (by simp) rfl)
        clear hdep ho
        go_wp2_with fail
        go_at_call 19
        refine (HTG1.out _).mono ?_
        rintro e w2 ⟨rfl, b2⟩
        have B2 : Hid (Below wm.heap.size wm _) := Lib.hid (BL.out.trans (b2.mono BL.out.size))
        clear b2
        go_wp2
        exact ⟨v11, v12, v23, v24, _, _, v27, v28, v29, v30, v31, v32, rfl, Lib.hid ⟨fun h => HV.out.f0 (ung (by decide) h), fun h => HV.out.f1 (ung (by decide) h), fun _ => by first | rfl | exact int_eq (by omega), fun h => HV.out.f3 (ung (by decide) h), fun h => HV.out.f4 (ung (by decide) h), fun h => HV.out.f5 (ung (by decide) h), fun h => HV.out.f6 (ung (by decide) h), fun h => HV.out.f7 (ung (by decide) h), fun h => HV.out.f8 (ung (by decide) h), fun h => HV.out.f9 (ung (by decide) h), fun h => HV.out.f10 (ung (by decide) h), fun h => HV.out.f11 (ung (by decide) h)⟩, B2⟩
      | 3, ho =>
        obtain rfl := Option.some.inj ho
        clear hdep ho
        obtain ⟨c0, c1, c2⟩ := HPD2.out _ BL.out
        go_wp2
        exact ⟨v11, v12, v23, v24, v25, v26, _, v28, v29, v30, v31, v32, rfl, Lib.hid ⟨fun h => HV.out.f0 (ung (by decide) h), fun h => HV.out.f1 (ung (by decide) h), fun h => HV.out.f2 (ung (by decide) h), fun _ => by first | rfl | exact int_eq (by omega), fun h => HV.out.f4 (ung (by decide) h), fun h => HV.out.f5 (ung (by decide) h), fun h => HV.out.f6 (ung (by decide) h), fun h => HV.out.f7 (ung (by decide) h), fun h => HV.out.f8 (ung (by decide) h), fun h => HV.out.f9 (ung (by decide) h), fun h => HV.out.f10 (ung (by decide) h), fun h => HV.out.f11 (ung (by decide) h)⟩, BL⟩
      | 4, ho =>
        obtain rfl := Option.some.inj ho
        obtain rfl := HV.out.f3 (hdep ⟨3, .data⟩ (by simp) rfl)
        clear hdep ho
        go_wp2_with fail
        go_at_call 19
        refine (HTG2.out _).mono ?_
        rintro e w2 ⟨rfl, b2⟩
        have B2 : Hid (Below wm.heap.size wm _) := Lib.hid (BL.out.trans (b2.mono BL.out.size))
        clear b2
        go_wp2
        exact ⟨v11, v12, v23, v24, v25, v26, _, _, v29, v30, v31, v32, rfl, Lib.hid ⟨fun h => HV.out.f0 (ung (by decide) h), fun h => HV.out.f1 (ung (by decide) h), fun h => HV.out.f2 (ung (by decide) h), fun h => HV.out.f3 (ung (by decide) h), fun _ => by first | rfl | exact int_eq (by omega), fun h => HV.out.f5 (ung (by decide) h), fun h => HV.out.f6 (ung (by decide) h), fun h => HV.out.f7 (ung (by decide) h), fun h => HV.out.f8 (ung (by decide) h), fun h => HV.out.f9 (ung (by decide) h), fun h => HV.out.f10 (ung (by decide) h), fun h => HV.out.f11 (ung (by decide) h)⟩, B2⟩
      | 5, ho =>
        obtain rfl := Option.some.inj ho
        clear hdep ho
        go_wp2
        exact ⟨v11, v12, v23, v24, v25, v26, v27, v28, _, v30, v31, v32, rfl, Lib.hid ⟨fun h => HV.out.f0 (ung (by decide) h), fun h => HV.out.f1 (ung (by decide) h), fun h => HV.out.f2 (ung (by decide) h), fun h => HV.out.f3 (ung (by decide) h), fun h => HV.out.f4 (ung (by decide) h), fun _ => by first | rfl | exact int_eq (by omega), fun h => HV.out.f6 (ung (by decide) h), fun h => HV.out.f7 (ung (by decide) h), fun h => HV.out.f8 (ung (by decide) h), fun h => HV.out.f9 (ung (by decide) h), fun h => HV.out.f10 (ung (by decide) h), fun h => HV.out.f11 (ung (by decide) h)⟩, BL⟩
      | 6, ho =>
        obtain rfl := Option.some.inj ho
        obtain rfl := HV.out.f0 (hdep ⟨0, .data⟩ (by simp) rfl)
        obtain rfl := HV.out.f2 (hdep ⟨2, .data⟩ (by simp) rfl)
        obtain rfl := HV.out.f4 (hdep ⟨4, .data⟩ (by simp) rfl)
        obtain rfl := HV.out.f5 (hdep ⟨5, .data⟩ (by simp) rfl)
        clear hdep ho
        go_wp2_with fail
        go_at_call 31
        refine (HI.out _).mono ?_
        rintro e w2 ⟨rfl, b2⟩
        have B2 : Hid (Below wm.heap.size wm _) := Lib.hid (BL.out.trans (b2.mono BL.out.size))
        clear b2
        go_wp2
        exact ⟨v11, v12, v23, _, v25, _, v27, _, _, _, v31, v32, rfl, Lib.hid ⟨fun h => HV.out.f0 (ung (by decide) h), fun h => HV.out.f1 (ung (by decide) h), fun h => HV.out.f2 (ung (by decide) h), fun h => HV.out.f3 (ung (by decide) h), fun h => HV.out.f4 (ung (by decide) h), fun h => HV.out.f5 (ung (by decide) h), fun _ => by first | rfl | exact int_eq (by omega), fun h => HV.out.f7 (ung (by decide) h), fun h => HV.out.f8 (ung (by decide) h), fun h => HV.out.f9 (ung (by decide) h), fun h => HV.out.f10 (ung (by decide) h), fun h => HV.out.f11 (ung (by decide) h)⟩, B2⟩
      | 7, ho =>
        obtain rfl := Option.some.inj ho
        obtain rfl := HV.out.f6 (hdep ⟨6, .data⟩ (by simp) rfl)
        clear hdep ho
        go_wp2
        exact ⟨v11, v12, _, v24, v25, v26, v27, v28, v29, _, v31, v32, rfl, Lib.hid ⟨fun h => HV.out.f0 (ung (by decide) h), fun h => HV.out.f1 (ung (by decide) h), fun h => HV.out.f2 (ung (by decide) h), fun h => HV.out.f3 (ung (by decide) h), fun h => HV.out.f4 (ung (by decide) h), fun h => HV.out.f5 (ung (by decide) h), fun h => HV.out.f6 (ung (by decide) h), fun _ => by first | rfl | exact int_eq (by omega), fun h => HV.out.f8 (ung (by decide) h), fun h => HV.out.f9 (ung (by decide) h), fun h => HV.out.f10 (ung (by decide) h), fun h => HV.out.f11 (ung (by decide) h)⟩, BL⟩
      | 8, ho =>
        obtain rfl := Option.some.inj ho
        obtain rfl := HV.out.f7 (hdep ⟨7, .data⟩ (by simp) rfl)
        clear hdep ho
        go_wp2
        exact ⟨v11, v12, _, v24, v25, v26, v27, v28, v29, v30, _, v32, rfl, Lib.hid ⟨fun h => HV.out.f0 (ung (by decide) h), fun h => HV.out.f1 (ung (by decide) h), fun h => HV.out.f2 (ung (by decide) h), fun h => HV.out.f3 (ung (by decide) h), fun h => HV.out.f4 (ung (by decide) h), fun h => HV.out.f5 (ung (by decide) h), fun h => HV.out.f6 (ung (by decide) h), fun h => HV.out.f7 (ung (by decide) h), fun _ => by first | rfl | exact int_eq (by omega), fun h => HV.out.f9 (ung (by decide) h), fun h => HV.out.f10 (ung (by decide) h), fun h => HV.out.f11 (ung (by decide) h)⟩, BL⟩
      | 9, ho =>
        obtain rfl := Option.some.inj ho
        obtain rfl := HV.out.f7 (hdep ⟨7, .data⟩ (by simp) rfl)
        clear hdep ho
        go_wp2
        exact ⟨v11, v12, _, v24, v25, v26, v27, v28, v29, v30, v31, _, rfl, Lib.hid ⟨fun h => HV.out.f0 (ung (by decide) h), fun h => HV.out.f1 (ung (by decide) h), fun h => HV.out.f2 (ung (by decide) h), fun h => HV.out.f3 (ung (by decide) h), fun h => HV.out.f4 (ung (by decide) h), fun h => HV.out.f5 (ung (by decide) h), fun h => HV.out.f6 (ung (by decide) h), fun h => HV.out.f7 (ung (by decide) h), fun h => HV.out.f8 (ung (by decide) h), fun _ => by first | rfl | exact int_eq (by omega), fun h => HV.out.f10 (ung (by decide) h), fun h => HV.out.f11 (ung (by decide) h)⟩, BL⟩
      | 10, ho =>
        obtain rfl := Option.some.inj ho
        obtain rfl := HV.out.f8 (hdep ⟨8, .data⟩ (by simp) rfl)
        clear hdep ho
        go_wp2
        exact ⟨_, v12, v23, v24, v25, v26, v27, v28, v29, v30, _, v32, rfl, Lib.hid ⟨fun h => HV.out.f0 (ung (by decide) h), fun h => HV.out.f1 (ung (by decide) h), fun h => HV.out.f2 (ung (by decide) h), fun h => HV.out.f3 (ung (by decide) h), fun h => HV.out.f4 (ung (by decide) h), fun h => HV.out.f5 (ung (by decide) h), fun h => HV.out.f6 (ung (by decide) h), fun h => HV.out.f7 (ung (by decide) h), fun h => HV.out.f8 (ung (by decide) h), fun h => HV.out.f9 (ung (by decide) h), fun _ => by first | rfl | exact int_eq (by omega), fun h => HV.out.f11 (ung (by decide) h)⟩, BL⟩
      | 11, ho =>
        obtain rfl := Option.some.inj ho
        obtain rfl := HV.out.f9 (hdep ⟨9, .data⟩ (by simp) rfl)
        clear hdep ho
        go_wp2
        exact ⟨v11, _, v23, v24, v25, v26, v27, v28, v29, v30, v31, _, rfl, Lib.hid ⟨fun h => HV.out.f0 (ung (by decide) h), fun h => HV.out.f1 (ung (by decide) h), fun h => HV.out.f2 (ung (by decide) h), fun h => HV.out.f3 (ung (by decide) h), fun h => HV.out.f4 (ung (by decide) h), fun h => HV.out.f5 (ung (by decide) h), fun h => HV.out.f6 (ung (by decide) h), fun h => HV.out.f7 (ung (by decide) h), fun h => HV.out.f8 (ung (by decide) h), fun h => HV.out.f9 (ung (by decide) h), fun h => HV.out.f10 (ung (by decide) h), fun _ => by first | rfl | exact int_eq (by omega)⟩, BL⟩
      | i + 12, ho => simp at ho
    · intro l a w2 hall hI
      obtain ⟨v11, v12, v23, v24, v25, v26, v27, v28, v29, v30, v31, v32, rfl, HV, BL⟩ := hI
      obtain rfl := HV.out.f0 (hall 0 (by decide))
      obtain rfl := HV.out.f1 (hall 1 (by decide))
      obtain rfl := HV.out.f2 (hall 2 (by decide))
      obtain rfl := HV.out.f3 (hall 3 (by decide))
      obtain rfl := HV.out.f4 (hall 4 (by decide))
      obtain rfl := HV.out.f5 (hall 5 (by decide))
      obtain rfl := HV.out.f6 (hall 6 (by decide))
      obtain rfl := HV.out.f7 (hall 7 (by decide))
      obtain rfl := HV.out.f8 (hall 8 (by decide))
      obtain rfl := HV.out.f9 (hall 9 (by decide))
      obtain rfl := HV.out.f10 (hall 10 (by decide))
      obtain rfl := HV.out.f11 (hall 11 (by decide))
      clear hall HV
      go_wp2
      go_ret
      exact ⟨rfl, HW0.out.trans ((BLm.out.trans (BL.out.mono BLm.out.size)).mono HW0.out.size)⟩

set_option maxHeartbeats 1000000 in
theorem walkFnExactCountMeetings (p0 : Int) (gf1 : Int) (gl1 : Bool) (gs1 : Int) (gf2 : Int) (gl2 : Bool) (gs2 : Int) (p3 : Int) (wf0 : (Lit.int .i64 p0).wf = true) (wf3 : (Lit.int .i64 p3).wf = true) (w : World) :
    Calls Try.prog 8 #[.int .i64 p0, .agg #[.int .i64 gf1, .bool gl1, .int .i64 gs1], .agg #[.int .i64 gf2, .bool gl2, .int .i64 gs2], .int .i64 p3] w fun e w' => e = .returned (.bool true) ∧ Below w.heap.size w w' := by
  exact lawCountMeetings w p0 gf1 gl1 gs1 gf2 gl2 gs2 p3 (outCountMeetings_0 p0 (gf1, gl1, gs1) (gf2, gl2, gs2) p3) (outCountMeetings_1 p0 (gf1, gl1, gs1) (gf2, gl2, gs2) p3)
    (fun w => specCountMeetings_any w p0 gf1 gl1 gs1 gf2 gl2 gs2 p3 wf0 wf3)
    (fun w => implCountMeetings_any w p0 gf1 gl1 gs1 gf2 gl2 gs2 p3 wf0 wf3)

end Go.Proofs.Ytmlamcimncfmcaa
