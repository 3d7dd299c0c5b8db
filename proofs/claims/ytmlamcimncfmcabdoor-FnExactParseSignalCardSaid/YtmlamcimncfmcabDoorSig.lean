/- Chapter 8: the model's siText, SignalText. Written by a program of mine (tools/mk/mk_sig.py). -/
import Derived.Test.YtmlamcimncfmcabDoorSia
import Derived.Test.YtmlamcimncfmcabDoorNum
import Derived.Test.YtmlamcimncfmcabDoorAny
namespace Go.Proofs.YtmlamcimncfmcabDoor
open Go.ChangeShapes Go.WideShapes Go.ChangeAt Go.RowKit
open Si Dr

namespace Si
def sgnT (l : Bool) : ByteArray := if l then ⟨#[60]⟩ else ⟨#[62]⟩
def sigT (f : Nat) (l : Bool) (s : Nat) : ByteArray := txt (numL f) ++ sgnT l ++ txt (numL s)
end Si
def outSignalText_0 (p : RSignal) : ByteArray := if sigB 100 p then sigT p.1.toNat p.2.1 p.2.2.toNat else ByteArray.empty
def outSignalText_1 (p : RSignal) : Bool := sigB 100 p


structure SiTV (f s G : Nat) (lx : Bool) (p q g : ByteArray) (l : Array Bool) (v6 v7 v8 v9 v10 v11 v12 v13 v14 v2 : Value) : Prop where
  f0 : l.getD 0 false = true → v6 = .pointer (some ⟨G, 0, none⟩)
  f1 : l.getD 1 false = true → v7 = .int .i64 (f : Int)
  f2 : l.getD 2 false = true → v8 = .string p
  f3 : l.getD 3 false = true → v9 = .string g
  f4 : l.getD 4 false = true → v10 = .string (p ++ g)
  f5 : l.getD 5 false = true → v11 = .pointer (some ⟨G, 2, none⟩)
  f6 : l.getD 6 false = true → v12 = .int .i64 (s : Int)
  f7 : l.getD 7 false = true → v13 = .string q
  f8 : l.getD 8 false = true → v14 = .string (p ++ g ++ q)
  f9 : l.getD 9 false = true → v2 = .string (p ++ g ++ q)
def SiT (w0 : World) (f s G : Nat) (lx : Bool) (p q g : ByteArray) (l : Array Bool) (a : Act) (w : World) : Prop :=
  ∃ v2 v6 v7 v8 v9 v10 v11 v12 v13 v14 : Value, a = { tmps := List.toArray (Value.agg #[Value.int IntKind.i64 ↑f, Value.bool lx, Value.int IntKind.i64 ↑s] :: Value.pointer (some { block := G, off := 0 }) :: v2 :: Value.string g :: Value.pointer (some { block := G, off := 1 }) :: Value.bool lx :: v6 :: v7 :: v8 :: v9 :: v10 :: v11 :: v12 :: v13 :: v14 :: []), defers := [] } ∧ Hid (SiTV f s G lx p q g l v6 v7 v8 v9 v10 v11 v12 v13 v14 v2) ∧ Hid (Below w0.heap.size w0 w)
set_option maxHeartbeats 4000000 in
theorem siText_any (f s : Nat) (lx : Bool) (hg : OkS 100 f s) (w : World) :
    Calls Tryd.prog 12 #[.agg #[.int .i64 f, .bool lx, .int .i64 s]] w fun e w' => e = .returned (.string (sigT f lx s)) ∧ Below w.heap.size w w' := by
  have HB0 : Hid (Below w.heap.size w (w.alloc (.cells #[.int .i64 (f : Int), .bool lx, .int .i64 (s : Int)] 26))) := Lib.hid ((Below.refl _ _).alloc (Nat.le_refl _) _)
  have hf := hg.f1
  have hs := hg.s2
  have HL1 := Lib.hid (fun w2 => l1Num_any f (by omega) w2)
  have HL2 := Lib.hid (fun w2 => l1Num_any s (by omega) w2)
  obtain ⟨p, hp⟩ : ∃ p, p = txt (numL f) := ⟨_, rfl⟩
  obtain ⟨q, hq⟩ : ∃ p, p = txt (numL s) := ⟨_, rfl⟩
  obtain ⟨g, hg2⟩ : ∃ p, p = sgnT lx := ⟨_, rfl⟩
  have HE : Hid (sigT f lx s = p ++ g ++ q) := Lib.hid (by rw [hp, hq, hg2]; rfl)
  have hp1 : p.size ≤ 2 := by rw [hp, size_txt]; exact numL_len f 2 (by omega) (by omega)
  have hq1 : q.size ≤ 2 := by rw [hq, size_txt]; exact numL_len s 2 (by omega) (by omega)
  have hg1 : g.size ≤ 1 := by rw [hg2]; cases lx <;> decide
  have hpg : (p ++ g).size ≤ 3 := by rw [ByteArray.size_append]; omega
  rw [← hp] at HL1
  rw [← hq] at HL2
  clear hp hq hg hf hs
  obtain ⟨ws, hws⟩ : ∃ ws, ws = w.alloc (.cells #[.int .i64 (f : Int), .bool lx, .int .i64 (s : Int)] 26) := ⟨_, rfl⟩
  have HK0 : Hid (∀ w5, Below ws.heap.size ws w5 → w5.cell? ⟨w.heap.size, 0, none⟩ = some (.int .i64 (f : Int))) := Lib.hid (fun w5 h => by rw [hws] at h; exact ((boxS_new w f s lx).below h).1)
  have HK1 : Hid (ws.cell? ⟨w.heap.size, 1, none⟩ = some (.bool lx)) := Lib.hid (by rw [hws]; exact (boxS_new w f s lx).2.1)
  have HK2 : Hid (∀ w5, Below ws.heap.size ws w5 → w5.cell? ⟨w.heap.size, 2, none⟩ = some (.int .i64 (s : Int))) := Lib.hid (fun w5 h => by rw [hws] at h; exact ((boxS_new w f s lx).below h).2.2)
  rw [← hws] at HB0
  obtain ⟨G, hG⟩ : ∃ G, G = w.heap.size := ⟨_, rfl⟩
  have HG := Lib.hid hG
  have HB : Hid (Below G w ws) := Lib.hid (by rw [hG]; exact HB0.out)
  rw [← hG] at HK0 HK1 HK2
  rcases lx with _ | _
  · have HGG : Hid (g = ⟨#[62]⟩) := Lib.hid hg2
    clear hg2 HB0
    go_enter Tryd.func12, Tryd.ntmps12
    go_wp2_with fail
    rw [← hws, ← hG, ← HGG.out]
    clear hws hG
    refine wp_region_inv (by kernel_rfl) (SiT ws f s G false p q g) (by kernel_rfl) ?_ ?_ ?_
    · exact ⟨_, _, _, _, _, _, _, _, _, _, rfl, Lib.hid ⟨fun h => by simp at h, fun h => by simp at h, fun h => by simp at h, fun h => by simp at h, fun h => by simp at h, fun h => by simp at h, fun h => by simp at h, fun h => by simp at h, fun h => by simp at h, fun h => by simp at h⟩, Lib.hid ⟨rfl, rfl, rfl, Nat.le_refl _, fun _ _ => rfl⟩⟩
    · intro i o l a w' ho hsz hl hdep hI
      obtain ⟨v2, v6, v7, v8, v9, v10, v11, v12, v13, v14, rfl, HV, BL⟩ := hI
      have HSZ : Hid (l.size = 10) := Lib.hid hsz
      have HLF : Hid (l.getD i false = false) := Lib.hid (by rcases h : l.getD i false with _ | _; rfl; rw [getD_flip (by have hs := HSZ.out; have := (Array.getElem?_eq_some_iff.1 ho).1; simp at this; omega), h] at hl; cases hl)
      clear hsz hl
      match i, ho with
      | 0, ho =>
        obtain rfl := Option.some.inj ho
        clear hdep ho
        go_wp2
        exact ⟨v2, _, v7, v8, v9, v10, v11, v12, v13, v14, rfl, Lib.hid ⟨fun _ => by first | rfl | exact int_eq (by omega), fun h => HV.out.f1 (ung (by decide) h), fun h => HV.out.f2 (ung (by decide) h), fun h => HV.out.f3 (ung (by decide) h), fun h => HV.out.f4 (ung (by decide) h), fun h => HV.out.f5 (ung (by decide) h), fun h => HV.out.f6 (ung (by decide) h), fun h => HV.out.f7 (ung (by decide) h), fun h => HV.out.f8 (ung (by decide) h), fun h => HV.out.f9 (ung (by decide) h)⟩, BL⟩
      | 1, ho =>
        obtain rfl := Option.some.inj ho
        obtain rfl := HV.out.f0 (hdep ⟨0, .data⟩ (by simp) rfl)
        clear hdep ho
        have ec := HK0.out _ BL.out
        go_wp2
        exact ⟨v2, _, _, v8, v9, v10, v11, v12, v13, v14, rfl, Lib.hid ⟨fun h => HV.out.f0 (ung (by decide) h), fun _ => by first | rfl | exact int_eq (by omega), fun h => HV.out.f2 (ung (by decide) h), fun h => HV.out.f3 (ung (by decide) h), fun h => HV.out.f4 (ung (by decide) h), fun h => HV.out.f5 (ung (by decide) h), fun h => HV.out.f6 (ung (by decide) h), fun h => HV.out.f7 (ung (by decide) h), fun h => HV.out.f8 (ung (by decide) h), fun h => HV.out.f9 (ung (by decide) h)⟩, BL⟩
      | 2, ho =>
        obtain rfl := Option.some.inj ho
        obtain rfl := HV.out.f1 (hdep ⟨1, .data⟩ (by simp) rfl)
        clear hdep ho
        go_wp2_with fail
        go_at_call 20
        refine (HL1.out _).mono ?_
        rintro e w2 ⟨rfl, b2⟩
        have B2 : Hid (Below ws.heap.size ws _) := Lib.hid (BL.out.trans (b2.mono BL.out.size))
        clear b2
        go_wp2
        exact ⟨v2, v6, _, _, v9, v10, v11, v12, v13, v14, rfl, Lib.hid ⟨fun h => HV.out.f0 (ung (by decide) h), fun h => HV.out.f1 (ung (by decide) h), fun _ => by first | rfl | exact int_eq (by omega), fun h => HV.out.f3 (ung (by decide) h), fun h => HV.out.f4 (ung (by decide) h), fun h => HV.out.f5 (ung (by decide) h), fun h => HV.out.f6 (ung (by decide) h), fun h => HV.out.f7 (ung (by decide) h), fun h => HV.out.f8 (ung (by decide) h), fun h => HV.out.f9 (ung (by decide) h)⟩, B2⟩
      | 3, ho =>
        obtain rfl := Option.some.inj ho
        clear hdep ho
        go_wp2
        exact ⟨v2, v6, v7, v8, _, v10, v11, v12, v13, v14, rfl, Lib.hid ⟨fun h => HV.out.f0 (ung (by decide) h), fun h => HV.out.f1 (ung (by decide) h), fun h => HV.out.f2 (ung (by decide) h), fun _ => by first | rfl | exact int_eq (by omega), fun h => HV.out.f4 (ung (by decide) h), fun h => HV.out.f5 (ung (by decide) h), fun h => HV.out.f6 (ung (by decide) h), fun h => HV.out.f7 (ung (by decide) h), fun h => HV.out.f8 (ung (by decide) h), fun h => HV.out.f9 (ung (by decide) h)⟩, BL⟩
      | 4, ho =>
        obtain rfl := Option.some.inj ho
        obtain rfl := HV.out.f2 (hdep ⟨2, .data⟩ (by simp) rfl)
        obtain rfl := HV.out.f3 (hdep ⟨3, .data⟩ (by simp) rfl)
        clear hdep ho
        go_wp2
        exact ⟨v2, v6, v7, _, _, _, v11, v12, v13, v14, rfl, Lib.hid ⟨fun h => HV.out.f0 (ung (by decide) h), fun h => HV.out.f1 (ung (by decide) h), fun h => HV.out.f2 (ung (by decide) h), fun h => HV.out.f3 (ung (by decide) h), fun _ => by first | rfl | exact int_eq (by omega), fun h => HV.out.f5 (ung (by decide) h), fun h => HV.out.f6 (ung (by decide) h), fun h => HV.out.f7 (ung (by decide) h), fun h => HV.out.f8 (ung (by decide) h), fun h => HV.out.f9 (ung (by decide) h)⟩, BL⟩
      | 5, ho =>
        obtain rfl := Option.some.inj ho
        clear hdep ho
        go_wp2
        exact ⟨v2, v6, v7, v8, v9, v10, _, v12, v13, v14, rfl, Lib.hid ⟨fun h => HV.out.f0 (ung (by decide) h), fun h => HV.out.f1 (ung (by decide) h), fun h => HV.out.f2 (ung (by decide) h), fun h => HV.out.f3 (ung (by decide) h), fun h => HV.out.f4 (ung (by decide) h), fun _ => by first | rfl | exact int_eq (by omega), fun h => HV.out.f6 (ung (by decide) h), fun h => HV.out.f7 (ung (by decide) h), fun h => HV.out.f8 (ung (by decide) h), fun h => HV.out.f9 (ung (by decide) h)⟩, BL⟩
      | 6, ho =>
        obtain rfl := Option.some.inj ho
        obtain rfl := HV.out.f5 (hdep ⟨5, .data⟩ (by simp) rfl)
        clear hdep ho
        have ec := HK2.out _ BL.out
        go_wp2
        exact ⟨v2, v6, v7, v8, v9, v10, _, _, v13, v14, rfl, Lib.hid ⟨fun h => HV.out.f0 (ung (by decide) h), fun h => HV.out.f1 (ung (by decide) h), fun h => HV.out.f2 (ung (by decide) h), fun h => HV.out.f3 (ung (by decide) h), fun h => HV.out.f4 (ung (by decide) h), fun h => HV.out.f5 (ung (by decide) h), fun _ => by first | rfl | exact int_eq (by omega), fun h => HV.out.f7 (ung (by decide) h), fun h => HV.out.f8 (ung (by decide) h), fun h => HV.out.f9 (ung (by decide) h)⟩, BL⟩
      | 7, ho =>
        obtain rfl := Option.some.inj ho
        obtain rfl := HV.out.f6 (hdep ⟨6, .data⟩ (by simp) rfl)
        clear hdep ho
        go_wp2_with fail
        go_at_call 20
        refine (HL2.out _).mono ?_
        rintro e w2 ⟨rfl, b2⟩
        have B2 : Hid (Below ws.heap.size ws _) := Lib.hid (BL.out.trans (b2.mono BL.out.size))
        clear b2
        go_wp2
        exact ⟨v2, v6, v7, v8, v9, v10, v11, _, _, v14, rfl, Lib.hid ⟨fun h => HV.out.f0 (ung (by decide) h), fun h => HV.out.f1 (ung (by decide) h), fun h => HV.out.f2 (ung (by decide) h), fun h => HV.out.f3 (ung (by decide) h), fun h => HV.out.f4 (ung (by decide) h), fun h => HV.out.f5 (ung (by decide) h), fun h => HV.out.f6 (ung (by decide) h), fun _ => by first | rfl | exact int_eq (by omega), fun h => HV.out.f8 (ung (by decide) h), fun h => HV.out.f9 (ung (by decide) h)⟩, B2⟩
      | 8, ho =>
        obtain rfl := Option.some.inj ho
        obtain rfl := HV.out.f4 (hdep ⟨4, .data⟩ (by simp) rfl)
        obtain rfl := HV.out.f7 (hdep ⟨7, .data⟩ (by simp) rfl)
        clear hdep ho
        go_wp2
        exact ⟨v2, v6, v7, v8, v9, _, v11, v12, _, _, rfl, Lib.hid ⟨fun h => HV.out.f0 (ung (by decide) h), fun h => HV.out.f1 (ung (by decide) h), fun h => HV.out.f2 (ung (by decide) h), fun h => HV.out.f3 (ung (by decide) h), fun h => HV.out.f4 (ung (by decide) h), fun h => HV.out.f5 (ung (by decide) h), fun h => HV.out.f6 (ung (by decide) h), fun h => HV.out.f7 (ung (by decide) h), fun _ => by first | rfl | exact int_eq (by omega), fun h => HV.out.f9 (ung (by decide) h)⟩, BL⟩
      | 9, ho =>
        obtain rfl := Option.some.inj ho
        obtain rfl := HV.out.f8 (hdep ⟨8, .data⟩ (by simp) rfl)
        clear hdep ho
        go_wp2
        exact ⟨_, v6, v7, v8, v9, v10, v11, v12, v13, _, rfl, Lib.hid ⟨fun h => HV.out.f0 (ung (by decide) h), fun h => HV.out.f1 (ung (by decide) h), fun h => HV.out.f2 (ung (by decide) h), fun h => HV.out.f3 (ung (by decide) h), fun h => HV.out.f4 (ung (by decide) h), fun h => HV.out.f5 (ung (by decide) h), fun h => HV.out.f6 (ung (by decide) h), fun h => HV.out.f7 (ung (by decide) h), fun h => HV.out.f8 (ung (by decide) h), fun _ => by first | rfl | exact int_eq (by omega)⟩, BL⟩
      | i + 10, ho => simp at ho
    · intro l a w2 hall hI
      obtain ⟨v2, v6, v7, v8, v9, v10, v11, v12, v13, v14, rfl, HV, BL⟩ := hI
      obtain rfl := HV.out.f0 (hall 0 (by decide))
      obtain rfl := HV.out.f1 (hall 1 (by decide))
      obtain rfl := HV.out.f2 (hall 2 (by decide))
      obtain rfl := HV.out.f3 (hall 3 (by decide))
      obtain rfl := HV.out.f4 (hall 4 (by decide))
      obtain rfl := HV.out.f5 (hall 5 (by decide))
      obtain rfl := HV.out.f6 (hall 6 (by decide))
      obtain rfl := HV.out.f7 (hall 7 (by decide))
      obtain rfl := HV.out.f8 (hall 8 (by decide))
      obtain rfl := HV.out.f9 (hall 9 (by decide))
      clear hall HV
      go_wp2
      go_ret
      exact ⟨ret_str (by rw [HE.out]), by have h := HB.out.trans (BL.out.mono (by have := HB.out.size; have := HG.out; omega)); rw [HG.out] at h; exact h⟩
  · have HGG : Hid (g = ⟨#[60]⟩) := Lib.hid hg2
    clear hg2 HB0
    go_enter Tryd.func12, Tryd.ntmps12
    go_wp2_with fail
    rw [← hws, ← hG, ← HGG.out]
    clear hws hG
    refine wp_region_inv (by kernel_rfl) (SiT ws f s G true p q g) (by kernel_rfl) ?_ ?_ ?_
    · exact ⟨_, _, _, _, _, _, _, _, _, _, rfl, Lib.hid ⟨fun h => by simp at h, fun h => by simp at h, fun h => by simp at h, fun h => by simp at h, fun h => by simp at h, fun h => by simp at h, fun h => by simp at h, fun h => by simp at h, fun h => by simp at h, fun h => by simp at h⟩, Lib.hid ⟨rfl, rfl, rfl, Nat.le_refl _, fun _ _ => rfl⟩⟩
    · intro i o l a w' ho hsz hl hdep hI
      obtain ⟨v2, v6, v7, v8, v9, v10, v11, v12, v13, v14, rfl, HV, BL⟩ := hI
      have HSZ : Hid (l.size = 10) := Lib.hid hsz
      have HLF : Hid (l.getD i false = false) := Lib.hid (by rcases h : l.getD i false with _ | _; rfl; rw [getD_flip (by have hs := HSZ.out; have := (Array.getElem?_eq_some_iff.1 ho).1; simp at this; omega), h] at hl; cases hl)
      clear hsz hl
      match i, ho with
      | 0, ho =>
        obtain rfl := Option.some.inj ho
        clear hdep ho
        go_wp2
        exact ⟨v2, _, v7, v8, v9, v10, v11, v12, v13, v14, rfl, Lib.hid ⟨fun _ => by first | rfl | exact int_eq (by omega), fun h => HV.out.f1 (ung (by decide) h), fun h => HV.out.f2 (ung (by decide) h), fun h => HV.out.f3 (ung (by decide) h), fun h => HV.out.f4 (ung (by decide) h), fun h => HV.out.f5 (ung (by decide) h), fun h => HV.out.f6 (ung (by decide) h), fun h => HV.out.f7 (ung (by decide) h), fun h => HV.out.f8 (ung (by decide) h), fun h => HV.out.f9 (ung (by decide) h)⟩, BL⟩
      | 1, ho =>
        obtain rfl := Option.some.inj ho
        obtain rfl := HV.out.f0 (hdep ⟨0, .data⟩ (by simp) rfl)
        clear hdep ho
        have ec := HK0.out _ BL.out
        go_wp2
        exact ⟨v2, _, _, v8, v9, v10, v11, v12, v13, v14, rfl, Lib.hid ⟨fun h => HV.out.f0 (ung (by decide) h), fun _ => by first | rfl | exact int_eq (by omega), fun h => HV.out.f2 (ung (by decide) h), fun h => HV.out.f3 (ung (by decide) h), fun h => HV.out.f4 (ung (by decide) h), fun h => HV.out.f5 (ung (by decide) h), fun h => HV.out.f6 (ung (by decide) h), fun h => HV.out.f7 (ung (by decide) h), fun h => HV.out.f8 (ung (by decide) h), fun h => HV.out.f9 (ung (by decide) h)⟩, BL⟩
      | 2, ho =>
        obtain rfl := Option.some.inj ho
        obtain rfl := HV.out.f1 (hdep ⟨1, .data⟩ (by simp) rfl)
        clear hdep ho
        go_wp2_with fail
        go_at_call 20
        refine (HL1.out _).mono ?_
        rintro e w2 ⟨rfl, b2⟩
        have B2 : Hid (Below ws.heap.size ws _) := Lib.hid (BL.out.trans (b2.mono BL.out.size))
        clear b2
        go_wp2
        exact ⟨v2, v6, _, _, v9, v10, v11, v12, v13, v14, rfl, Lib.hid ⟨fun h => HV.out.f0 (ung (by decide) h), fun h => HV.out.f1 (ung (by decide) h), fun _ => by first | rfl | exact int_eq (by omega), fun h => HV.out.f3 (ung (by decide) h), fun h => HV.out.f4 (ung (by decide) h), fun h => HV.out.f5 (ung (by decide) h), fun h => HV.out.f6 (ung (by decide) h), fun h => HV.out.f7 (ung (by decide) h), fun h => HV.out.f8 (ung (by decide) h), fun h => HV.out.f9 (ung (by decide) h)⟩, B2⟩
      | 3, ho =>
        obtain rfl := Option.some.inj ho
        clear hdep ho
        go_wp2
        exact ⟨v2, v6, v7, v8, _, v10, v11, v12, v13, v14, rfl, Lib.hid ⟨fun h => HV.out.f0 (ung (by decide) h), fun h => HV.out.f1 (ung (by decide) h), fun h => HV.out.f2 (ung (by decide) h), fun _ => by first | rfl | exact int_eq (by omega), fun h => HV.out.f4 (ung (by decide) h), fun h => HV.out.f5 (ung (by decide) h), fun h => HV.out.f6 (ung (by decide) h), fun h => HV.out.f7 (ung (by decide) h), fun h => HV.out.f8 (ung (by decide) h), fun h => HV.out.f9 (ung (by decide) h)⟩, BL⟩
      | 4, ho =>
        obtain rfl := Option.some.inj ho
        obtain rfl := HV.out.f2 (hdep ⟨2, .data⟩ (by simp) rfl)
        obtain rfl := HV.out.f3 (hdep ⟨3, .data⟩ (by simp) rfl)
        clear hdep ho
        go_wp2
        exact ⟨v2, v6, v7, _, _, _, v11, v12, v13, v14, rfl, Lib.hid ⟨fun h => HV.out.f0 (ung (by decide) h), fun h => HV.out.f1 (ung (by decide) h), fun h => HV.out.f2 (ung (by decide) h), fun h => HV.out.f3 (ung (by decide) h), fun _ => by first | rfl | exact int_eq (by omega), fun h => HV.out.f5 (ung (by decide) h), fun h => HV.out.f6 (ung (by decide) h), fun h => HV.out.f7 (ung (by decide) h), fun h => HV.out.f8 (ung (by decide) h), fun h => HV.out.f9 (ung (by decide) h)⟩, BL⟩
      | 5, ho =>
        obtain rfl := Option.some.inj ho
        clear hdep ho
        go_wp2
        exact ⟨v2, v6, v7, v8, v9, v10, _, v12, v13, v14, rfl, Lib.hid ⟨fun h => HV.out.f0 (ung (by decide) h), fun h => HV.out.f1 (ung (by decide) h), fun h => HV.out.f2 (ung (by decide) h), fun h => HV.out.f3 (ung (by decide) h), fun h => HV.out.f4 (ung (by decide) h), fun _ => by first | rfl | exact int_eq (by omega), fun h => HV.out.f6 (ung (by decide) h), fun h => HV.out.f7 (ung (by decide) h), fun h => HV.out.f8 (ung (by decide) h), fun h => HV.out.f9 (ung (by decide) h)⟩, BL⟩
      | 6, ho =>
        obtain rfl := Option.some.inj ho
        obtain rfl := HV.out.f5 (hdep ⟨5, .data⟩ (by simp) rfl)
        clear hdep ho
        have ec := HK2.out _ BL.out
        go_wp2
        exact ⟨v2, v6, v7, v8, v9, v10, _, _, v13, v14, rfl, Lib.hid ⟨fun h => HV.out.f0 (ung (by decide) h), fun h => HV.out.f1 (ung (by decide) h), fun h => HV.out.f2 (ung (by decide) h), fun h => HV.out.f3 (ung (by decide) h), fun h => HV.out.f4 (ung (by decide) h), fun h => HV.out.f5 (ung (by decide) h), fun _ => by first | rfl | exact int_eq (by omega), fun h => HV.out.f7 (ung (by decide) h), fun h => HV.out.f8 (ung (by decide) h), fun h => HV.out.f9 (ung (by decide) h)⟩, BL⟩
      | 7, ho =>
        obtain rfl := Option.some.inj ho
        obtain rfl := HV.out.f6 (hdep ⟨6, .data⟩ (by simp) rfl)
        clear hdep ho
        go_wp2_with fail
        go_at_call 20
        refine (HL2.out _).mono ?_
        rintro e w2 ⟨rfl, b2⟩
        have B2 : Hid (Below ws.heap.size ws _) := Lib.hid (BL.out.trans (b2.mono BL.out.size))
        clear b2
        go_wp2
        exact ⟨v2, v6, v7, v8, v9, v10, v11, _, _, v14, rfl, Lib.hid ⟨fun h => HV.out.f0 (ung (by decide) h), fun h => HV.out.f1 (ung (by decide) h), fun h => HV.out.f2 (ung (by decide) h), fun h => HV.out.f3 (ung (by decide) h), fun h => HV.out.f4 (ung (by decide) h), fun h => HV.out.f5 (ung (by decide) h), fun h => HV.out.f6 (ung (by decide) h), fun _ => by first | rfl | exact int_eq (by omega), fun h => HV.out.f8 (ung (by decide) h), fun h => HV.out.f9 (ung (by decide) h)⟩, B2⟩
      | 8, ho =>
        obtain rfl := Option.some.inj ho
        obtain rfl := HV.out.f4 (hdep ⟨4, .data⟩ (by simp) rfl)
        obtain rfl := HV.out.f7 (hdep ⟨7, .data⟩ (by simp) rfl)
        clear hdep ho
        go_wp2
        exact ⟨v2, v6, v7, v8, v9, _, v11, v12, _, _, rfl, Lib.hid ⟨fun h => HV.out.f0 (ung (by decide) h), fun h => HV.out.f1 (ung (by decide) h), fun h => HV.out.f2 (ung (by decide) h), fun h => HV.out.f3 (ung (by decide) h), fun h => HV.out.f4 (ung (by decide) h), fun h => HV.out.f5 (ung (by decide) h), fun h => HV.out.f6 (ung (by decide) h), fun h => HV.out.f7 (ung (by decide) h), fun _ => by first | rfl | exact int_eq (by omega), fun h => HV.out.f9 (ung (by decide) h)⟩, BL⟩
      | 9, ho =>
        obtain rfl := Option.some.inj ho
        obtain rfl := HV.out.f8 (hdep ⟨8, .data⟩ (by simp) rfl)
        clear hdep ho
        go_wp2
        exact ⟨_, v6, v7, v8, v9, v10, v11, v12, v13, _, rfl, Lib.hid ⟨fun h => HV.out.f0 (ung (by decide) h), fun h => HV.out.f1 (ung (by decide) h), fun h => HV.out.f2 (ung (by decide) h), fun h => HV.out.f3 (ung (by decide) h), fun h => HV.out.f4 (ung (by decide) h), fun h => HV.out.f5 (ung (by decide) h), fun h => HV.out.f6 (ung (by decide) h), fun h => HV.out.f7 (ung (by decide) h), fun h => HV.out.f8 (ung (by decide) h), fun _ => by first | rfl | exact int_eq (by omega)⟩, BL⟩
      | i + 10, ho => simp at ho
    · intro l a w2 hall hI
      obtain ⟨v2, v6, v7, v8, v9, v10, v11, v12, v13, v14, rfl, HV, BL⟩ := hI
      obtain rfl := HV.out.f0 (hall 0 (by decide))
      obtain rfl := HV.out.f1 (hall 1 (by decide))
      obtain rfl := HV.out.f2 (hall 2 (by decide))
      obtain rfl := HV.out.f3 (hall 3 (by decide))
      obtain rfl := HV.out.f4 (hall 4 (by decide))
      obtain rfl := HV.out.f5 (hall 5 (by decide))
      obtain rfl := HV.out.f6 (hall 6 (by decide))
      obtain rfl := HV.out.f7 (hall 7 (by decide))
      obtain rfl := HV.out.f8 (hall 8 (by decide))
      obtain rfl := HV.out.f9 (hall 9 (by decide))
      clear hall HV
      go_wp2
      go_ret
      exact ⟨ret_str (by rw [HE.out]), by have h := HB.out.trans (BL.out.mono (by have := HB.out.size; have := HG.out; omega)); rw [HG.out] at h; exact h⟩

set_option maxHeartbeats 2000000 in
theorem specSignalText_any (w : World) (f : Int) (l : Bool) (s : Int) :
    Calls Tryd.prog 5 #[.agg #[.int .i64 f, .bool l, .int .i64 s]] w fun e w' => e = .returned (.tuple #[.string (outSignalText_0 (f, l, s)), .bool (outSignalText_1 (f, l, s))]) ∧ Below w.heap.size w w' := by
  have HS := Lib.hid (fun w2 => siSignal_any 100 f s l w2)
  have HB0 : Hid (Below w.heap.size w (w.alloc (.cells #[.int .i64 f, .bool l, .int .i64 s] 26))) := Lib.hid ((Below.refl _ _).alloc (Nat.le_refl _) _)
  have HK : Hid (∀ w2, Below (w.alloc (.cells #[.int .i64 f, .bool l, .int .i64 s] 26)).heap.size (w.alloc (.cells #[.int .i64 f, .bool l, .int .i64 s] 26)) w2 → BoxS w2 w.heap.size f l s ∧ Below w.heap.size w w2) := Lib.hid (fun w2 h => ⟨(boxS_new w f s l).below h, HB0.out.trans (h.mono HB0.out.size)⟩)
  rcases hb0 : sigB 100 (f, l, s) with _ | _
  · have H0 : Hid (outSignalText_0 (f, l, s) = ByteArray.empty ∧ outSignalText_1 (f, l, s) = false) := Lib.hid (by unfold outSignalText_0 outSignalText_1; rw [hb0]; exact ⟨rfl, rfl⟩)
    rw [hb0] at HS
    clear hb0
    go_enter Tryd.func5, Tryd.ntmps5
    go_wp2_with fail
    go_at_call 11
    refine (HS.out _).mono ?_
    rintro e w2 ⟨rfl, bb⟩
    have B2 := Lib.hid (HK.out _ bb).2
    clear bb
    go_wp2
    go_ret2
    exact ⟨by rw [H0.out.1, H0.out.2]; exact rfl, B2.out⟩
  · obtain ⟨N, F, S, hN, hp, hg⟩ := sig_nat hb0
    obtain rfl : N = 100 := by omega
    obtain ⟨rfl, rfl⟩ : f = (F : Int) ∧ s = (S : Int) := by injection hp with h1 h2; injection h2 with _ h3; exact ⟨h1, h3⟩
    have H0 : Hid (outSignalText_0 ((F : Int), l, (S : Int)) = sigT F l S ∧ outSignalText_1 ((F : Int), l, (S : Int)) = true) := Lib.hid (by unfold outSignalText_0 outSignalText_1; rw [hb0]; exact ⟨rfl, rfl⟩)
    have HT := Lib.hid (fun w2 => siText_any F S l hg w2)
    rw [hb0] at HS
    clear hb0 hp hg hN
    go_enter Tryd.func5, Tryd.ntmps5
    go_wp2_with fail
    go_at_call 11
    refine (HS.out _).mono ?_
    rintro e w2 ⟨rfl, bb⟩
    obtain ⟨⟨c0, c1, c2⟩, b2⟩ := HK.out _ bb
    have B2 := Lib.hid b2
    clear bb b2
    go_wp2_with fail
    go_at_call 12
    refine (HT.out _).mono ?_
    rintro e w3 ⟨rfl, bb⟩
    have B3 := Lib.hid (B2.out.trans (bb.mono B2.out.size))
    clear bb c0 c1 c2
    go_wp2
    go_ret2
    exact ⟨by rw [H0.out.1, H0.out.2]; exact rfl, B3.out⟩

end Go.Proofs.YtmlamcimncfmcabDoor
