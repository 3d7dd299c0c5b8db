/- Chapter 8: the model's siComes, siMeet, siFirst. -/
import Derived.Test.YtmlamcimncfmcaaSia
import Derived.Test.YtmlamcimncfmcaaAny
namespace Go.Proofs.Ytmlamcimncfmcaa
open Go.ChangeShapes Go.WideShapes Go.ChangeAt Go.RowKit
open Si

set_option maxHeartbeats 2000000 in
theorem siComes_any (n f s t : Nat) (l : Bool) (hg : OkS n f s) (ht : t ≤ 1000000) (w : World) :
    Calls Try.prog 52 #[.int .i64 n, .agg #[.int .i64 f, .bool l, .int .i64 s], .int .i64 t] w fun e w' => e = .returned (.bool (comesB n s t)) ∧ Below w.heap.size w w' := by
  obtain ⟨a1, a2, a3, a4, a5⟩ := hg
  have HB : Hid (Below w.heap.size w (w.alloc (.cells #[.int .i64 f, .bool l, .int .i64 s] 33))) := Lib.hid ((Below.refl _ _).alloc (Nat.le_refl _) _)
  have hs0 : ¬ s = 0 := by omega
  by_cases h0 : t = 0
  · have HE : Hid (comesB n s t = true) := Lib.hid (by unfold comesB; rw [decide_eq_true h0]; rfl)
    have hq : ((t : Int) == 0) = true := by rw [beq_iff_eq]; omega
    clear h0
    go_enter Try.func52, Try.ntmps52
    go_wp2
    go_ret
    exact ⟨ret_bool (by rw [HE.out]), HB.out⟩
  have hq : ((t : Int) == 0) = false := by rw [beq_eq_false_iff_ne]; omega
  have hqp : ¬ (t : Int) = 0 := by omega
  by_cases h1 : 1 < n
  · obtain ⟨m, hm⟩ : ∃ m, m = t % s := ⟨_, rfl⟩
    have em : (t : Int) % (s : Int) = (m : Int) := by rw [hm]; simp
    have HE : Hid (comesB n s t = ((m : Int) == 0)) := Lib.hid (by
      unfold comesB
      rw [decide_eq_false h0, decide_eq_true h1, Bool.false_or, Bool.true_and, ← hm]
      by_cases e : m = 0
      · subst e; rfl
      · rw [decide_eq_false e]; symm; rw [beq_eq_false_iff_ne]; omega)
    have hn1 : (1 : Int) < (n : Int) := by omega
    clear hm h0
    go_enter Try.func52, Try.ntmps52
    go_wp2
    go_ret
    exact ⟨ret_bool (by rw [HE.out]), HB.out⟩
  · have HE : Hid (comesB n s t = false) := Lib.hid (by unfold comesB; rw [decide_eq_false h0, decide_eq_false h1]; rfl)
    have hn1 : ¬ (1 : Int) < (n : Int) := by omega
    clear h0
    go_enter Try.func52, Try.ntmps52
    go_wp2
    go_ret
    exact ⟨ret_bool (by rw [HE.out]), HB.out⟩

structure MeAV (n f s g u t G pa b : Nat) (lx m : Bool) (l : Array Bool) (v21 v22 v23 v24 v25 v26 v27 v28 v29 v8 : Value) : Prop where
  f0 : l.getD 0 false = true → v21 = .int .i64 (n : Int)
  f1 : l.getD 1 false = true → v22 = .agg #[.int .i64 f, .bool lx, .int .i64 s]
  f2 : l.getD 2 false = true → v23 = .int .i64 (t : Int)
  f3 : l.getD 3 false = true → v24 = .int .i64 (pa : Int)
  f4 : l.getD 4 false = true → v25 = .int .i64 (n : Int)
  f5 : l.getD 5 false = true → v26 = .agg #[.int .i64 g, .bool m, .int .i64 u]
  f6 : l.getD 6 false = true → v27 = .int .i64 (t : Int)
  f7 : l.getD 7 false = true → v28 = .int .i64 (b : Int)
  f8 : l.getD 8 false = true → v29 = .bool ((pa : Int) == (b : Int))
  f9 : l.getD 9 false = true → v8 = .bool ((pa : Int) == (b : Int))
def MeA (w0 : World) (n f s g u t G pa b : Nat) (lx m : Bool) (l : Array Bool) (a : Act) (w : World) : Prop :=
  ∃ v8 v21 v22 v23 v24 v25 v26 v27 v28 v29 : Value, a = { tmps := List.toArray (Value.int IntKind.i64 ↑n :: Value.agg #[Value.int IntKind.i64 ↑f, Value.bool lx, Value.int IntKind.i64 ↑s] :: Value.agg #[Value.int IntKind.i64 ↑g, Value.bool m, Value.int IntKind.i64 ↑u] :: Value.int IntKind.i64 ↑t :: undef :: Value.pointer (some { block := G, off := 0 }) :: Value.pointer (some { block := G + 1, off := 0 }) :: undef :: v8 :: Value.int IntKind.i64 ↑n :: Value.agg #[Value.int IntKind.i64 ↑f, Value.bool lx, Value.int IntKind.i64 ↑s] :: Value.int IntKind.i64 ↑t :: Value.bool false :: Value.bool true :: Value.bool true :: Value.int IntKind.i64 ↑n :: Value.agg #[Value.int IntKind.i64 ↑g, Value.bool m, Value.int IntKind.i64 ↑u] :: Value.int IntKind.i64 ↑t :: Value.bool true :: Value.bool false :: Value.bool false :: v21 :: v22 :: v23 :: v24 :: v25 :: v26 :: v27 :: v28 :: v29 :: []), defers := [] } ∧ Hid (MeAV n f s g u t G pa b lx m l v21 v22 v23 v24 v25 v26 v27 v28 v29 v8) ∧ Hid (Below w0.heap.size w0 w)

structure MeBV (n f s g u t G pa b : Nat) (lx m : Bool) (l : Array Bool) (v21 v22 v23 v24 v25 v26 v27 v28 v29 v8 : Value) : Prop where
  f0 : l.getD 0 false = true → v21 = .int .i64 (n : Int)
  f1 : l.getD 1 false = true → v22 = .agg #[.int .i64 f, .bool lx, .int .i64 s]
  f2 : l.getD 2 false = true → v23 = .int .i64 (t : Int)
  f3 : l.getD 3 false = true → v24 = .int .i64 (pa : Int)
  f4 : l.getD 4 false = true → v25 = .int .i64 (n : Int)
  f5 : l.getD 5 false = true → v26 = .agg #[.int .i64 g, .bool m, .int .i64 u]
  f6 : l.getD 6 false = true → v27 = .int .i64 (t : Int)
  f7 : l.getD 7 false = true → v28 = .int .i64 (b : Int)
  f8 : l.getD 8 false = true → v29 = .bool ((pa : Int) == (b : Int))
  f9 : l.getD 9 false = true → v8 = .bool ((pa : Int) == (b : Int))
def MeB (w0 : World) (n f s g u t G pa b : Nat) (lx m : Bool) (l : Array Bool) (a : Act) (w : World) : Prop :=
  ∃ v8 v21 v22 v23 v24 v25 v26 v27 v28 v29 : Value, a = { tmps := List.toArray (Value.int IntKind.i64 ↑n :: Value.agg #[Value.int IntKind.i64 ↑f, Value.bool lx, Value.int IntKind.i64 ↑s] :: Value.agg #[Value.int IntKind.i64 ↑g, Value.bool m, Value.int IntKind.i64 ↑u] :: Value.int IntKind.i64 ↑t :: undef :: Value.pointer (some { block := G, off := 0 }) :: Value.pointer (some { block := G + 1, off := 0 }) :: undef :: v8 :: Value.int IntKind.i64 ↑n :: Value.agg #[Value.int IntKind.i64 ↑f, Value.bool lx, Value.int IntKind.i64 ↑s] :: Value.int IntKind.i64 ↑t :: Value.bool true :: Value.bool false :: Value.bool false :: undef :: undef :: undef :: undef :: undef :: Value.bool false :: v21 :: v22 :: v23 :: v24 :: v25 :: v26 :: v27 :: v28 :: v29 :: []), defers := [] } ∧ Hid (MeBV n f s g u t G pa b lx m l v21 v22 v23 v24 v25 v26 v27 v28 v29 v8) ∧ Hid (Below w0.heap.size w0 w)
set_option maxHeartbeats 4000000 in
theorem siMeet_any (n f s g u t : Nat) (lx m : Bool) (h1 : OkS n f s) (h2 : OkS n g u) (ht : t ≤ 1000000) (w : World) :
    Calls Try.prog 56 #[.int .i64 n, .agg #[.int .i64 f, .bool lx, .int .i64 s], .agg #[.int .i64 g, .bool m, .int .i64 u], .int .i64 t] w fun e w' => e = .returned (.bool (meetB n f lx s g m u t)) ∧ Below w.heap.size w w' := by
  have HC1 := Lib.hid (fun w2 => siComes_any n f s t lx h1 ht w2)
  have HC2 := Lib.hid (fun w2 => siComes_any n g u t m h2 ht w2)
  have HA1 := Lib.hid (fun w2 => siAt_any n f s t lx h1 ht w2)
  have HA2 := Lib.hid (fun w2 => siAt_any n g u t m h2 ht w2)
  have HB0 : Hid (Below w.heap.size w ((w.alloc (.cells #[.int .i64 f, .bool lx, .int .i64 s] 33)).alloc (.cells #[.int .i64 g, .bool m, .int .i64 u] 33))) := Lib.hid (((Below.refl _ _).alloc (Nat.le_refl _) _).alloc (by rw [alloc_size1]; omega) _)
  have HK : Hid (∀ w2, Below ((w.alloc (.cells #[.int .i64 f, .bool lx, .int .i64 s] 33)).alloc (.cells #[.int .i64 g, .bool m, .int .i64 u] 33)).heap.size ((w.alloc (.cells #[.int .i64 f, .bool lx, .int .i64 s] 33)).alloc (.cells #[.int .i64 g, .bool m, .int .i64 u] 33)) w2 → BoxS w2 w.heap.size f lx s ∧ BoxS w2 (w.heap.size + 1) g m u ∧ Below w.heap.size w w2) := Lib.hid (fun w2 h => by
    have k1 : BoxS ((w.alloc (.cells #[.int .i64 f, .bool lx, .int .i64 s] 33)).alloc (.cells #[.int .i64 g, .bool m, .int .i64 u] 33)) w.heap.size f lx s := (boxS_new w f s lx).below ((Below.refl _ _).alloc (Nat.le_refl _) _)
    have k2 := boxS_new (w.alloc (.cells #[.int .i64 f, .bool lx, .int .i64 s] 33)) g u m
    rw [alloc_size1] at k2
    exact ⟨k1.below h, k2.below h, HB0.out.trans (h.mono HB0.out.size)⟩)
  clear h1 h2 ht
  rcases e1 : comesB n s t with _ | _
  · rw [e1] at HC1
    rcases e2 : comesB n u t with _ | _
    · rw [e2] at HC2
      have HE : Hid (meetB n f lx s g m u t = false) := Lib.hid (by unfold meetB; rw [e1, e2]; rfl)
      clear e1 e2
      go_enter Try.func56, Try.ntmps56
      go_wp2_with fail
      go_at_call 52
      refine (HC1.out _).mono ?_
      rintro e w3 ⟨rfl, b3⟩
      have K3 : Hid (Below ((w.alloc (.cells #[.int .i64 f, .bool lx, .int .i64 s] 33)).alloc (.cells #[.int .i64 g, .bool m, .int .i64 u] 33)).heap.size ((w.alloc (.cells #[.int .i64 f, .bool lx, .int .i64 s] 33)).alloc (.cells #[.int .i64 g, .bool m, .int .i64 u] 33)) w3) := Lib.hid (b3)
      clear b3
      obtain ⟨⟨c0, c1, c2⟩, ⟨d0, d1, d2⟩, _⟩ := HK.out _ K3.out
      go_wp2_with fail
      go_at_call 52
      refine (HC2.out _).mono ?_
      rintro e w4 ⟨rfl, b4⟩
      have K4 : Hid (Below ((w.alloc (.cells #[.int .i64 f, .bool lx, .int .i64 s] 33)).alloc (.cells #[.int .i64 g, .bool m, .int .i64 u] 33)).heap.size ((w.alloc (.cells #[.int .i64 f, .bool lx, .int .i64 s] 33)).alloc (.cells #[.int .i64 g, .bool m, .int .i64 u] 33)) w4) := Lib.hid (K3.out.trans (b4.mono K3.out.size))
      clear b4 c0 c1 c2 d0 d1 d2
      obtain ⟨⟨c0, c1, c2⟩, ⟨d0, d1, d2⟩, _⟩ := HK.out _ K4.out
      go_wp2
      go_ret
      exact ⟨ret_bool (by rw [HE.out]), (HK.out _ K4.out).2.2⟩
    · rw [e2] at HC2
      have HE : Hid (meetB n f lx s g m u t = decide ((posN n f lx s t : Int) = (posN n g m u t : Int))) := Lib.hid (by
        unfold meetB; rw [e1, e2, Bool.false_or, Bool.true_and, decide_eq_decide]; omega)
      have HQ : Hid (((posN n f lx s t : Int) == (posN n g m u t : Int)) = decide ((posN n f lx s t : Int) = (posN n g m u t : Int))) := Lib.hid (by rw [Bool.eq_iff_iff, beq_iff_eq, decide_eq_true_iff])
      clear e1 e2
      go_enter Try.func56, Try.ntmps56
      go_wp2_with fail
      go_at_call 52
      refine (HC1.out _).mono ?_
      rintro e w3 ⟨rfl, b3⟩
      have K3 : Hid (Below ((w.alloc (.cells #[.int .i64 f, .bool lx, .int .i64 s] 33)).alloc (.cells #[.int .i64 g, .bool m, .int .i64 u] 33)).heap.size ((w.alloc (.cells #[.int .i64 f, .bool lx, .int .i64 s] 33)).alloc (.cells #[.int .i64 g, .bool m, .int .i64 u] 33)) w3) := Lib.hid (b3)
      clear b3
      obtain ⟨⟨c0, c1, c2⟩, ⟨d0, d1, d2⟩, _⟩ := HK.out _ K3.out
      go_wp2_with fail
      go_at_call 52
      refine (HC2.out _).mono ?_
      rintro e w4 ⟨rfl, b4⟩
      have K4 : Hid (Below ((w.alloc (.cells #[.int .i64 f, .bool lx, .int .i64 s] 33)).alloc (.cells #[.int .i64 g, .bool m, .int .i64 u] 33)).heap.size ((w.alloc (.cells #[.int .i64 f, .bool lx, .int .i64 s] 33)).alloc (.cells #[.int .i64 g, .bool m, .int .i64 u] 33)) w4) := Lib.hid (K3.out.trans (b4.mono K3.out.size))
      clear b4 c0 c1 c2 d0 d1 d2
      obtain ⟨⟨c0, c1, c2⟩, ⟨d0, d1, d2⟩, _⟩ := HK.out _ K4.out
      obtain ⟨ws, hws⟩ : ∃ ws, ws = w4 := ⟨_, rfl⟩
      have HB5 : Hid (Below w.heap.size w ws) := Lib.hid (by rw [hws]; exact (HK.out _ K4.out).2.2)
      have HK1 : Hid (∀ w5, Below ws.heap.size ws w5 → BoxS w5 w.heap.size f lx s) := Lib.hid (fun w5 h => by rw [hws] at h; exact (HK.out _ (K4.out.trans (h.mono K4.out.size))).1)
      have HK2 : Hid (∀ w5, Below ws.heap.size ws w5 → BoxS w5 (w.heap.size + 1) g m u) := Lib.hid (fun w5 h => by rw [hws] at h; exact (HK.out _ (K4.out.trans (h.mono K4.out.size))).2.1)
      clear c0 c1 c2 d0 d1 d2
      rw [← hws]
      clear hws K3 K4 HK
      obtain ⟨G, hG⟩ : ∃ G, G = w.heap.size := ⟨_, rfl⟩
      have HG := Lib.hid hG
      rw [← hG] at HB5 HK1 HK2 ⊢
      clear hG HB0
      obtain ⟨pa, ha⟩ : ∃ a, a = posN n f lx s t := ⟨_, rfl⟩
      obtain ⟨b, hb⟩ : ∃ b, b = posN n g m u t := ⟨_, rfl⟩
      rw [← ha] at HA1 HE HQ
      rw [← hb] at HA2 HE HQ
      clear ha hb
      go_wp2_with fail
      refine wp_region_inv (by kernel_rfl) (MeA ws n f s g u t G pa b lx m) (by kernel_rfl) ?_ ?_ ?_
      · exact ⟨_, _, _, _, _, _, _, _, _, _, rfl, Lib.hid ⟨fun h => by simp at h, fun h => by simp at h, fun h => by simp at h, fun h => by simp at h, fun h => by simp at h, fun h => by simp at h, fun h => by simp at h, fun h => by simp at h, fun h => by simp at h, fun h => by simp at h⟩, Lib.hid ⟨rfl, rfl, rfl, Nat.le_refl _, fun _ _ => rfl⟩⟩
      · intro i o l a w' ho hsz hl hdep hI
        obtain ⟨v8, v21, v22, v23, v24, v25, v26, v27, v28, v29, rfl, HV, BL⟩ := hI
        have HSZ : Hid (l.size = 10) := Lib.hid hsz
        have HLF : Hid (l.getD i false = false) := Lib.hid (by rcases h : l.getD i false with _ | _; rfl; rw [getD_flip (by have hs := HSZ.out; have := (Array.getElem?_eq_some_iff.1 ho).1; simp at this; omega), h] at hl; cases hl)
        clear hsz hl
        match i, ho with
        | 0, ho =>
          obtain rfl := Option.some.inj ho
          clear hdep ho
          go_wp2
          exact ⟨v8, _, v22, v23, v24, v25, v26, v27, v28, v29, rfl, Lib.hid ⟨fun _ => by first | rfl | exact int_eq (by omega), fun h => HV.out.f1 (ung (by decide) h), fun h => HV.out.f2 (ung (by decide) h), fun h => HV.out.f3 (ung (by decide) h), fun h => HV.out.f4 (ung (by decide) h), fun h => HV.out.f5 (ung (by decide) h), fun h => HV.out.f6 (ung (by decide) h), fun h => HV.out.f7 (ung (by decide) h), fun h => HV.out.f8 (ung (by decide) h), fun h => HV.out.f9 (ung (by decide) h)⟩, BL⟩
        | 1, ho =>
          obtain rfl := Option.some.inj ho
          clear hdep ho
          obtain ⟨c0, c1, c2⟩ := HK1.out _ BL.out
          go_wp2
          exact ⟨v8, v21, _, v23, v24, v25, v26, v27, v28, v29, rfl, Lib.hid ⟨fun h => HV.out.f0 (ung (by decide) h), fun _ => by first | rfl | exact int_eq (by omega), fun h => HV.out.f2 (ung (by decide) h), fun h => HV.out.f3 (ung (by decide) h), fun h => HV.out.f4 (ung (by decide) h), fun h => HV.out.f5 (ung (by decide) h), fun h => HV.out.f6 (ung (by decide) h), fun h => HV.out.f7 (ung (by decide) h), fun h => HV.out.f8 (ung (by decide) h), fun h => HV.out.f9 (ung (by decide) h)⟩, BL⟩
        | 2, ho =>
          obtain rfl := Option.some.inj ho
          clear hdep ho
          go_wp2
          exact ⟨v8, v21, v22, _, v24, v25, v26, v27, v28, v29, rfl, Lib.hid ⟨fun h => HV.out.f0 (ung (by decide) h), fun h => HV.out.f1 (ung (by decide) h), fun _ => by first | rfl | exact int_eq (by omega), fun h => HV.out.f3 (ung (by decide) h), fun h => HV.out.f4 (ung (by decide) h), fun h => HV.out.f5 (ung (by decide) h), fun h => HV.out.f6 (ung (by decide) h), fun h => HV.out.f7 (ung (by decide) h), fun h => HV.out.f8 (ung (by decide) h), fun h => HV.out.f9 (ung (by decide) h)⟩, BL⟩
        | 3, ho =>
          obtain rfl := Option.some.inj ho
          obtain rfl := HV.out.f0 (hdep ⟨0, .data⟩ (by simp) rfl)
          obtain rfl := HV.out.f1 (hdep ⟨1, .data⟩ (by simp) rfl)
          obtain rfl := HV.out.f2 (hdep ⟨2, .data⟩ (by simp) rfl)
          clear hdep ho
          go_wp2_with fail
          go_at_call 46
          refine (HA1.out _).mono ?_
          rintro e w2 ⟨rfl, b2⟩
          have B2 : Hid (Below ws.heap.size ws _) := Lib.hid (BL.out.trans (b2.mono BL.out.size))
          clear b2
          go_wp2
          exact ⟨v8, _, _, _, _, v25, v26, v27, v28, v29, rfl, Lib.hid ⟨fun h => HV.out.f0 (ung (by decide) h), fun h => HV.out.f1 (ung (by decide) h), fun h => HV.out.f2 (ung (by decide) h), fun _ => by first | rfl | exact int_eq (by omega), fun h => HV.out.f4 (ung (by decide) h), fun h => HV.out.f5 (ung (by decide) h), fun h => HV.out.f6 (ung (by decide) h), fun h => HV.out.f7 (ung (by decide) h), fun h => HV.out.f8 (ung (by decide) h), fun h => HV.out.f9 (ung (by decide) h)⟩, B2⟩
        | 4, ho =>
          obtain rfl := Option.some.inj ho
          clear hdep ho
          go_wp2
          exact ⟨v8, v21, v22, v23, v24, _, v26, v27, v28, v29, rfl, Lib.hid ⟨fun h => HV.out.f0 (ung (by decide) h), fun h => HV.out.f1 (ung (by decide) h), fun h => HV.out.f2 (ung (by decide) h), fun h => HV.out.f3 (ung (by decide) h), fun _ => by first | rfl | exact int_eq (by omega), fun h => HV.out.f5 (ung (by decide) h), fun h => HV.out.f6 (ung (by decide) h), fun h => HV.out.f7 (ung (by decide) h), fun h => HV.out.f8 (ung (by decide) h), fun h => HV.out.f9 (ung (by decide) h)⟩, BL⟩
        | 5, ho =>
          obtain rfl := Option.some.inj ho
          clear hdep ho
          obtain ⟨c0, c1, c2⟩ := HK2.out _ BL.out
          go_wp2
          exact ⟨v8, v21, v22, v23, v24, v25, _, v27, v28, v29, rfl, Lib.hid ⟨fun h => HV.out.f0 (ung (by decide) h), fun h => HV.out.f1 (ung (by decide) h), fun h => HV.out.f2 (ung (by decide) h), fun h => HV.out.f3 (ung (by decide) h), fun h => HV.out.f4 (ung (by decide) h), fun _ => by first | rfl | exact int_eq (by omega), fun h => HV.out.f6 (ung (by decide) h), fun h => HV.out.f7 (ung (by decide) h), fun h => HV.out.f8 (ung (by decide) h), fun h => HV.out.f9 (ung (by decide) h)⟩, BL⟩
        | 6, ho =>
          obtain rfl := Option.some.inj ho
          clear hdep ho
          go_wp2
          exact ⟨v8, v21, v22, v23, v24, v25, v26, _, v28, v29, rfl, Lib.hid ⟨fun h => HV.out.f0 (ung (by decide) h), fun h => HV.out.f1 (ung (by decide) h), fun h => HV.out.f2 (ung (by decide) h), fun h => HV.out.f3 (ung (by decide) h), fun h => HV.out.f4 (ung (by decide) h), fun h => HV.out.f5 (ung (by decide) h), fun _ => by first | rfl | exact int_eq (by omega), fun h => HV.out.f7 (ung (by decide) h), fun h => HV.out.f8 (ung (by decide) h), fun h => HV.out.f9 (ung (by decide) h)⟩, BL⟩
        | 7, ho =>
          obtain rfl := Option.some.inj ho
          obtain rfl := HV.out.f4 (hdep ⟨4, .data⟩ (by simp) rfl)
          obtain rfl := HV.out.f5 (hdep ⟨5, .data⟩ (by simp) rfl)
          obtain rfl := HV.out.f6 (hdep ⟨6, .data⟩ (by simp) rfl)
          clear hdep ho
          go_wp2_with fail
          go_at_call 46
          refine (HA2.out _).mono ?_
          rintro e w2 ⟨rfl, b2⟩
          have B2 : Hid (Below ws.heap.size ws _) := Lib.hid (BL.out.trans (b2.mono BL.out.size))
          clear b2
          go_wp2
          exact ⟨v8, v21, v22, v23, v24, _, _, _, _, v29, rfl, Lib.hid ⟨fun h => HV.out.f0 (ung (by decide) h), fun h => HV.out.f1 (ung (by decide) h), fun h => HV.out.f2 (ung (by decide) h), fun h => HV.out.f3 (ung (by decide) h), fun h => HV.out.f4 (ung (by decide) h), fun h => HV.out.f5 (ung (by decide) h), fun h => HV.out.f6 (ung (by decide) h), fun _ => by first | rfl | exact int_eq (by omega), fun h => HV.out.f8 (ung (by decide) h), fun h => HV.out.f9 (ung (by decide) h)⟩, B2⟩
        | 8, ho =>
          obtain rfl := Option.some.inj ho
          obtain rfl := HV.out.f3 (hdep ⟨3, .data⟩ (by simp) rfl)
          obtain rfl := HV.out.f7 (hdep ⟨7, .data⟩ (by simp) rfl)
          clear hdep ho
          go_wp2
          exact ⟨v8, v21, v22, v23, _, v25, v26, v27, _, _, rfl, Lib.hid ⟨fun h => HV.out.f0 (ung (by decide) h), fun h => HV.out.f1 (ung (by decide) h), fun h => HV.out.f2 (ung (by decide) h), fun h => HV.out.f3 (ung (by decide) h), fun h => HV.out.f4 (ung (by decide) h), fun h => HV.out.f5 (ung (by decide) h), fun h => HV.out.f6 (ung (by decide) h), fun h => HV.out.f7 (ung (by decide) h), fun _ => by first | rfl | exact int_eq (by omega), fun h => HV.out.f9 (ung (by decide) h)⟩, BL⟩
        | 9, ho =>
          obtain rfl := Option.some.inj ho
          obtain rfl := HV.out.f8 (hdep ⟨8, .data⟩ (by simp) rfl)
          clear hdep ho
          go_wp2
          exact ⟨_, v21, v22, v23, v24, v25, v26, v27, v28, _, rfl, Lib.hid ⟨fun h => HV.out.f0 (ung (by decide) h), fun h => HV.out.f1 (ung (by decide) h), fun h => HV.out.f2 (ung (by decide) h), fun h => HV.out.f3 (ung (by decide) h), fun h => HV.out.f4 (ung (by decide) h), fun h => HV.out.f5 (ung (by decide) h), fun h => HV.out.f6 (ung (by decide) h), fun h => HV.out.f7 (ung (by decide) h), fun h => HV.out.f8 (ung (by decide) h), fun _ => by first | rfl | exact int_eq (by omega)⟩, BL⟩
        | i + 10, ho => simp at ho
      · intro l a w2 hall hI
        obtain ⟨v8, v21, v22, v23, v24, v25, v26, v27, v28, v29, rfl, HV, BL⟩ := hI
        obtain rfl := HV.out.f0 (hall 0 (by decide))
        obtain rfl := HV.out.f1 (hall 1 (by decide))
        obtain rfl := HV.out.f2 (hall 2 (by decide))
        obtain rfl := HV.out.f3 (hall 3 (by decide))
        obtain rfl := HV.out.f4 (hall 4 (by decide))
        obtain rfl := HV.out.f5 (hall 5 (by decide))
        obtain rfl := HV.out.f6 (hall 6 (by decide))
        obtain rfl := HV.out.f7 (hall 7 (by decide))
        obtain rfl := HV.out.f8 (hall 8 (by decide))
        obtain rfl := HV.out.f9 (hall 9 (by decide))
        clear hall HV
        go_wp2
        go_ret
        exact ⟨ret_bool (by rw [HE.out]; exact HQ.out), by have h := HB5.out.trans (BL.out.mono (by have := HB5.out.size; have := HG.out; omega)); rw [HG.out] at h; exact h⟩
  · rw [e1] at HC1
    have HE : Hid (meetB n f lx s g m u t = decide ((posN n f lx s t : Int) = (posN n g m u t : Int))) := Lib.hid (by
      unfold meetB; rw [e1, Bool.true_or, Bool.true_and, decide_eq_decide]; omega)
    have HQ : Hid (((posN n f lx s t : Int) == (posN n g m u t : Int)) = decide ((posN n f lx s t : Int) = (posN n g m u t : Int))) := Lib.hid (by rw [Bool.eq_iff_iff, beq_iff_eq, decide_eq_true_iff])
    clear e1
    go_enter Try.func56, Try.ntmps56
    go_wp2_with fail
    go_at_call 52
    refine (HC1.out _).mono ?_
    rintro e w3 ⟨rfl, b3⟩
    have K3 : Hid (Below ((w.alloc (.cells #[.int .i64 f, .bool lx, .int .i64 s] 33)).alloc (.cells #[.int .i64 g, .bool m, .int .i64 u] 33)).heap.size ((w.alloc (.cells #[.int .i64 f, .bool lx, .int .i64 s] 33)).alloc (.cells #[.int .i64 g, .bool m, .int .i64 u] 33)) w3) := Lib.hid (b3)
    clear b3
    obtain ⟨⟨c0, c1, c2⟩, ⟨d0, d1, d2⟩, _⟩ := HK.out _ K3.out
    obtain ⟨ws, hws⟩ : ∃ ws, ws = w3 := ⟨_, rfl⟩
    have HB5 : Hid (Below w.heap.size w ws) := Lib.hid (by rw [hws]; exact (HK.out _ K3.out).2.2)
    have HK1 : Hid (∀ w5, Below ws.heap.size ws w5 → BoxS w5 w.heap.size f lx s) := Lib.hid (fun w5 h => by rw [hws] at h; exact (HK.out _ (K3.out.trans (h.mono K3.out.size))).1)
    have HK2 : Hid (∀ w5, Below ws.heap.size ws w5 → BoxS w5 (w.heap.size + 1) g m u) := Lib.hid (fun w5 h => by rw [hws] at h; exact (HK.out _ (K3.out.trans (h.mono K3.out.size))).2.1)
    clear c0 c1 c2 d0 d1 d2
    rw [← hws]
    clear hws K3 HK
    obtain ⟨G, hG⟩ : ∃ G, G = w.heap.size := ⟨_, rfl⟩
    have HG := Lib.hid hG
    rw [← hG] at HB5 HK1 HK2 ⊢
    clear hG HB0
    obtain ⟨pa, ha⟩ : ∃ a, a = posN n f lx s t := ⟨_, rfl⟩
    obtain ⟨b, hb⟩ : ∃ b, b = posN n g m u t := ⟨_, rfl⟩
    rw [← ha] at HA1 HE HQ
    rw [← hb] at HA2 HE HQ
    clear ha hb
    go_wp2_with fail
    refine wp_region_inv (by kernel_rfl) (MeB ws n f s g u t G pa b lx m) (by kernel_rfl) ?_ ?_ ?_
    · exact ⟨_, _, _, _, _, _, _, _, _, _, rfl, Lib.hid ⟨fun h => by simp at h, fun h => by simp at h, fun h => by simp at h, fun h => by simp at h, fun h => by simp at h, fun h => by simp at h, fun h => by simp at h, fun h => by simp at h, fun h => by simp at h, fun h => by simp at h⟩, Lib.hid ⟨rfl, rfl, rfl, Nat.le_refl _, fun _ _ => rfl⟩⟩
    · intro i o l a w' ho hsz hl hdep hI
      obtain ⟨v8, v21, v22, v23, v24, v25, v26, v27, v28, v29, rfl, HV, BL⟩ := hI
      have HSZ : Hid (l.size = 10) := Lib.hid hsz
      have HLF : Hid (l.getD i false = false) := Lib.hid (by rcases h : l.getD i false with _ | _; rfl; rw [getD_flip (by have hs := HSZ.out; have := (Array.getElem?_eq_some_iff.1 ho).1; simp at this; omega), h] at hl; cases hl)
      clear hsz hl
      match i, ho with
      | 0, ho =>
        obtain rfl := Option.some.inj ho
        clear hdep ho
        go_wp2
        exact ⟨v8, _, v22, v23, v24, v25, v26, v27, v28, v29, rfl, Lib.hid ⟨fun _ => by first | rfl | exact int_eq (by omega), fun h => HV.out.f1 (ung (by decide) h), fun h => HV.out.f2 (ung (by decide) h), fun h => HV.out.f3 (ung (by decide) h), fun h => HV.out.f4 (ung (by decide) h), fun h => HV.out.f5 (ung (by decide) h), fun h => HV.out.f6 (ung (by decide) h), fun h => HV.out.f7 (ung (by decide) h), fun h => HV.out.f8 (ung (by decide) h), fun h => HV.out.f9 (ung (by decide) h)⟩, BL⟩
      | 1, ho =>
        obtain rfl := Option.some.inj ho
        clear hdep ho
        obtain ⟨c0, c1, c2⟩ := HK1.out _ BL.out
        go_wp2
        exact ⟨v8, v21, _, v23, v24, v25, v26, v27, v28, v29, rfl, Lib.hid ⟨fun h => HV.out.f0 (ung (by decide) h), fun _ => by first | rfl | exact int_eq (by omega), fun h => HV.out.f2 (ung (by decide) h), fun h => HV.out.f3 (ung (by decide) h), fun h => HV.out.f4 (ung (by decide) h), fun h => HV.out.f5 (ung (by decide) h), fun h => HV.out.f6 (ung (by decide) h), fun h => HV.out.f7 (ung (by decide) h), fun h => HV.out.f8 (ung (by decide) h), fun h => HV.out.f9 (ung (by decide) h)⟩, BL⟩
      | 2, ho =>
        obtain rfl := Option.some.inj ho
        clear hdep ho
        go_wp2
        exact ⟨v8, v21, v22, _, v24, v25, v26, v27, v28, v29, rfl, Lib.hid ⟨fun h => HV.out.f0 (ung (by decide) h), fun h => HV.out.f1 (ung (by decide) h), fun _ => by first | rfl | exact int_eq (by omega), fun h => HV.out.f3 (ung (by decide) h), fun h => HV.out.f4 (ung (by decide) h), fun h => HV.out.f5 (ung (by decide) h), fun h => HV.out.f6 (ung (by decide) h), fun h => HV.out.f7 (ung (by decide) h), fun h => HV.out.f8 (ung (by decide) h), fun h => HV.out.f9 (ung (by decide) h)⟩, BL⟩
      | 3, ho =>
        obtain rfl := Option.some.inj ho
        obtain rfl := HV.out.f0 (hdep ⟨0, .data⟩ (by simp) rfl)
        obtain rfl := HV.out.f1 (hdep ⟨1, .data⟩ (by simp) rfl)
        obtain rfl := HV.out.f2 (hdep ⟨2, .data⟩ (by simp) rfl)
        clear hdep ho
        go_wp2_with fail
        go_at_call 46
        refine (HA1.out _).mono ?_
        rintro e w2 ⟨rfl, b2⟩
        have B2 : Hid (Below ws.heap.size ws _) := Lib.hid (BL.out.trans (b2.mono BL.out.size))
        clear b2
        go_wp2
        exact ⟨v8, _, _, _, _, v25, v26, v27, v28, v29, rfl, Lib.hid ⟨fun h => HV.out.f0 (ung (by decide) h), fun h => HV.out.f1 (ung (by decide) h), fun h => HV.out.f2 (ung (by decide) h), fun _ => by first | rfl | exact int_eq (by omega), fun h => HV.out.f4 (ung (by decide) h), fun h => HV.out.f5 (ung (by decide) h), fun h => HV.out.f6 (ung (by decide) h), fun h => HV.out.f7 (ung (by decide) h), fun h => HV.out.f8 (ung (by decide) h), fun h => HV.out.f9 (ung (by decide) h)⟩, B2⟩
      | 4, ho =>
        obtain rfl := Option.some.inj ho
        clear hdep ho
        go_wp2
        exact ⟨v8, v21, v22, v23, v24, _, v26, v27, v28, v29, rfl, Lib.hid ⟨fun h => HV.out.f0 (ung (by decide) h), fun h => HV.out.f1 (ung (by decide) h), fun h => HV.out.f2 (ung (by decide) h), fun h => HV.out.f3 (ung (by decide) h), fun _ => by first | rfl | exact int_eq (by omega), fun h => HV.out.f5 (ung (by decide) h), fun h => HV.out.f6 (ung (by decide) h), fun h => HV.out.f7 (ung (by decide) h), fun h => HV.out.f8 (ung (by decide) h), fun h => HV.out.f9 (ung (by decide) h)⟩, BL⟩
      | 5, ho =>
        obtain rfl := Option.some.inj ho
        clear hdep ho
        obtain ⟨c0, c1, c2⟩ := HK2.out _ BL.out
        go_wp2
        exact ⟨v8, v21, v22, v23, v24, v25, _, v27, v28, v29, rfl, Lib.hid ⟨fun h => HV.out.f0 (ung (by decide) h), fun h => HV.out.f1 (ung (by decide) h), fun h => HV.out.f2 (ung (by decide) h), fun h => HV.out.f3 (ung (by decide) h), fun h => HV.out.f4 (ung (by decide) h), fun _ => by first | rfl | exact int_eq (by omega), fun h => HV.out.f6 (ung (by decide) h), fun h => HV.out.f7 (ung (by decide) h), fun h => HV.out.f8 (ung (by decide) h), fun h => HV.out.f9 (ung (by decide) h)⟩, BL⟩
      | 6, ho =>
        obtain rfl := Option.some.inj ho
        clear hdep ho
        go_wp2
        exact ⟨v8, v21, v22, v23, v24, v25, v26, _, v28, v29, rfl, Lib.hid ⟨fun h => HV.out.f0 (ung (by decide) h), fun h => HV.out.f1 (ung (by decide) h), fun h => HV.out.f2 (ung (by decide) h), fun h => HV.out.f3 (ung (by decide) h), fun h => HV.out.f4 (ung (by decide) h), fun h => HV.out.f5 (ung (by decide) h), fun _ => by first | rfl | exact int_eq (by omega), fun h => HV.out.f7 (ung (by decide) h), fun h => HV.out.f8 (ung (by decide) h), fun h => HV.out.f9 (ung (by decide) h)⟩, BL⟩
      | 7, ho =>
        obtain rfl := Option.some.inj ho
        obtain rfl := HV.out.f4 (hdep ⟨4, .data⟩ (by simp) rfl)
        obtain rfl := HV.out.f5 (hdep ⟨5, .data⟩ (by simp) rfl)
        obtain rfl := HV.out.f6 (hdep ⟨6, .data⟩ (by simp) rfl)
        clear hdep ho
        go_wp2_with fail
        go_at_call 46
        refine (HA2.out _).mono ?_
        rintro e w2 ⟨rfl, b2⟩
        have B2 : Hid (Below ws.heap.size ws _) := Lib.hid (BL.out.trans (b2.mono BL.out.size))
        clear b2
        go_wp2
        exact ⟨v8, v21, v22, v23, v24, _, _, _, _, v29, rfl, Lib.hid ⟨fun h => HV.out.f0 (ung (by decide) h), fun h => HV.out.f1 (ung (by decide) h), fun h => HV.out.f2 (ung (by decide) h), fun h => HV.out.f3 (ung (by decide) h), fun h => HV.out.f4 (ung (by decide) h), fun h => HV.out.f5 (ung (by decide) h), fun h => HV.out.f6 (ung (by decide) h), fun _ => by first | rfl | exact int_eq (by omega), fun h => HV.out.f8 (ung (by decide) h), fun h => HV.out.f9 (ung (by decide) h)⟩, B2⟩
      | 8, ho =>
        obtain rfl := Option.some.inj ho
        obtain rfl := HV.out.f3 (hdep ⟨3, .data⟩ (by simp) rfl)
        obtain rfl := HV.out.f7 (hdep ⟨7, .data⟩ (by simp) rfl)
        clear hdep ho
        go_wp2
        exact ⟨v8, v21, v22, v23, _, v25, v26, v27, _, _, rfl, Lib.hid ⟨fun h => HV.out.f0 (ung (by decide) h), fun h => HV.out.f1 (ung (by decide) h), fun h => HV.out.f2 (ung (by decide) h), fun h => HV.out.f3 (ung (by decide) h), fun h => HV.out.f4 (ung (by decide) h), fun h => HV.out.f5 (ung (by decide) h), fun h => HV.out.f6 (ung (by decide) h), fun h => HV.out.f7 (ung (by decide) h), fun _ => by first | rfl | exact int_eq (by omega), fun h => HV.out.f9 (ung (by decide) h)⟩, BL⟩
      | 9, ho =>
        obtain rfl := Option.some.inj ho
        obtain rfl := HV.out.f8 (hdep ⟨8, .data⟩ (by simp) rfl)
        clear hdep ho
        go_wp2
        exact ⟨_, v21, v22, v23, v24, v25, v26, v27, v28, _, rfl, Lib.hid ⟨fun h => HV.out.f0 (ung (by decide) h), fun h => HV.out.f1 (ung (by decide) h), fun h => HV.out.f2 (ung (by decide) h), fun h => HV.out.f3 (ung (by decide) h), fun h => HV.out.f4 (ung (by decide) h), fun h => HV.out.f5 (ung (by decide) h), fun h => HV.out.f6 (ung (by decide) h), fun h => HV.out.f7 (ung (by decide) h), fun h => HV.out.f8 (ung (by decide) h), fun _ => by first | rfl | exact int_eq (by omega)⟩, BL⟩
      | i + 10, ho => simp at ho
    · intro l a w2 hall hI
      obtain ⟨v8, v21, v22, v23, v24, v25, v26, v27, v28, v29, rfl, HV, BL⟩ := hI
      obtain rfl := HV.out.f0 (hall 0 (by decide))
      obtain rfl := HV.out.f1 (hall 1 (by decide))
      obtain rfl := HV.out.f2 (hall 2 (by decide))
      obtain rfl := HV.out.f3 (hall 3 (by decide))
      obtain rfl := HV.out.f4 (hall 4 (by decide))
      obtain rfl := HV.out.f5 (hall 5 (by decide))
      obtain rfl := HV.out.f6 (hall 6 (by decide))
      obtain rfl := HV.out.f7 (hall 7 (by decide))
      obtain rfl := HV.out.f8 (hall 8 (by decide))
      obtain rfl := HV.out.f9 (hall 9 (by decide))
      clear hall HV
      go_wp2
      go_ret
      exact ⟨ret_bool (by rw [HE.out]; exact HQ.out), by have h := HB5.out.trans (BL.out.mono (by have := HB5.out.size; have := HG.out; omega)); rw [HG.out] at h; exact h⟩

set_option maxHeartbeats 4000000 in
theorem siFirst_any (n f s p : Nat) (l : Bool) (hg : OkS n f s) (hp : p < n) (w : World) :
    Calls Try.prog 60 #[.int .i64 n, .agg #[.int .i64 f, .bool l, .int .i64 s], .int .i64 p] w fun e w' => e = .returned (.int .i64 (firstN n f l s p)) ∧ Below w.heap.size w w' := by
  have hbound := firstN_le l p hg
  obtain ⟨a1, a2, a3, a4, a5⟩ := hg
  have HB : Hid (Below w.heap.size w (w.alloc (.cells #[.int .i64 f, .bool l, .int .i64 s] 33))) := Lib.hid ((Below.refl _ _).alloc (Nat.le_refl _) _)
  by_cases h1 : n = 1
  · subst h1
    clear hbound
    go_enter Try.func60, Try.ntmps60
    go_wp2
    go_ret
    exact ⟨rfl, HB.out⟩
  · have hn1 : ((n : Int) == 1) = false := by rw [beq_eq_false_iff_ne]; omega
    have hn1p : ¬ (n : Int) = 1 := by omega
    obtain ⟨r, hr⟩ : ∃ r, r = 2 * (n - 1) := ⟨_, rfl⟩
    obtain ⟨b, hb⟩ : ∃ b, b = beg n f l := ⟨_, rfl⟩
    have hbr : b ≤ r := by rw [hb, hr]; exact beg_le a3
    obtain ⟨x, hx⟩ : ∃ x, x = (p + 2 * r - b) % r := ⟨_, rfl⟩
    obtain ⟨y, hy⟩ : ∃ y, y = (3 * r - p - b) % r := ⟨_, rfl⟩
    obtain ⟨z, hz⟩ : ∃ z, z = min x y := ⟨_, rfl⟩
    obtain ⟨k, hk⟩ : ∃ k, k = firstN n f l s p := ⟨_, rfl⟩
    have hkz : k = z * s := by rw [hk, hz, hx, hy, hr, hb]; unfold firstN; rw [if_neg h1]
    have er : 2 * ((n : Int) - 1) = (r : Int) := by omega
    have hr0 : ¬ r = 0 := by omega
    have hrb : r ≤ 198 := by omega
    have hpr : p ≤ r := by omega
    have hxr : x < r := by rw [hx]; exact Nat.mod_lt _ (by omega)
    have hyr : y < r := by rw [hy]; exact Nat.mod_lt _ (by omega)
    have ex : ((p : Int) - (b : Int) + 2 * (r : Int)) % (r : Int) = (x : Int) := by
      rw [hx, show (p : Int) - (b : Int) + 2 * (r : Int) = ((p + 2 * r - b : Nat) : Int) by omega]; simp
    have ey : ((r : Int) - (p : Int) - (b : Int) + 2 * (r : Int)) % (r : Int) = (y : Int) := by
      rw [hy, show (r : Int) - (p : Int) - (b : Int) + 2 * (r : Int) = ((3 * r - p - b : Nat) : Int) by omega]; simp
    have ez : (z : Int) * (s : Int) = (k : Int) := by rw [hkz]; simp
    have HL : Hid (∀ w2, Calls Try.prog 62 #[.int .i64 (x : Int), .int .i64 (y : Int)] w2 fun e w' => e = .returned (.int .i64 (z : Int)) ∧ w' = w2) := Lib.hid (fun w2 => by
      have h := l1Least_any (x : Int) (y : Int) w2
      rw [show min (x : Int) (y : Int) = (z : Int) by omega] at h
      exact h.mono fun e w' ⟨h1, h2⟩ => ⟨h1, h2.symm⟩)
    rw [← hk] at hbound ⊢
    have hzb : z ≤ 198 := by omega
    rcases l with _ | _
    · have hbf : b = f := hb
      subst hbf
      clear hx hy hr hz hkz hk h1 hb
      go_enter Try.func60, Try.ntmps60
      go_wp2_with fail
      go_quiet (fail)
      go_wp2_with fail
      go_quiet ((go_at_call 62; refine (HL.out _).mono ?_; rintro e w3 ⟨h1, h2⟩; first | exact ⟨h1, _, h2⟩ | exact ⟨h1, 0, by rw [h2]; rfl⟩))
      go_wp2
      go_ret
      exact ⟨rfl, (HB.out.trans ((drewN_down _ _).mono HB.out.size)).trans ((drewN_down _ _).mono HB.out.size)⟩
    · have ea : (r : Int) - (f : Int) = (b : Int) := by rw [hb, hr]; unfold beg; simp; omega
      clear hx hy hr hz hkz hk h1 hb
      go_enter Try.func60, Try.ntmps60
      go_wp2_with fail
      go_quiet (fail)
      go_wp2_with fail
      go_quiet ((go_at_call 62; refine (HL.out _).mono ?_; rintro e w3 ⟨h1, h2⟩; first | exact ⟨h1, _, h2⟩ | exact ⟨h1, 0, by rw [h2]; rfl⟩))
      go_wp2
      go_ret
      exact ⟨rfl, (HB.out.trans ((drewN_down _ _).mono HB.out.size)).trans ((drewN_down _ _).mono HB.out.size)⟩

end Go.Proofs.Ytmlamcimncfmcaa
