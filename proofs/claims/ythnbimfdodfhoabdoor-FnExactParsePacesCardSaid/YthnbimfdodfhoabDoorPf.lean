/- Chapter 5: the model's spText, PacesText. Written by a program of mine (tools/mk/mk_pf.py). -/
import Derived.Test.YthnbimfdodfhoabDoorPa
import Derived.Test.YthnbimfdodfhoabDoorNum
namespace Go.Proofs.YthnbimfdodfhoabDoor
open Go.ChangeShapes Go.WideShapes Go.ChangeAt Go.RowKit
open Dr Pa

namespace Pa
/-- the text of one -/
def oneT (x y : Nat) : ByteArray := txt (numL x) ++ txt [43] ++ txt (numL y)
/-- the text of the first k -/
def textTo (qs : List (Nat × Nat)) : Nat → ByteArray
  | 0 => ByteArray.empty
  | k + 1 => (if 0 < k then textTo qs k ++ txt [44] else textTo qs k) ++ oneT (qs.getD k (1, 0)).1 (qs.getD k (1, 0)).2
theorem size_oneT {x y : Nat} (hx : x ≤ 60) (hy : y ≤ 60) : (oneT x y).size ≤ 5 := by
  unfold oneT
  rw [ByteArray.size_append, ByteArray.size_append, size_txt, size_txt, size_txt]
  have := numL_len x 2 (by omega) (by omega)
  have := numL_len y 2 (by omega) (by omega)
  simp only [List.length_cons, List.length_nil]; omega
theorem GoodQ.to {qs : List (Nat × Nat)} (h : GoodQ qs) (k : Nat) : 1 ≤ (qs.getD k (1, 0)).1 ∧ (qs.getD k (1, 0)).1 ≤ 60 ∧ (qs.getD k (1, 0)).2 < (qs.getD k (1, 0)).1 := by
  by_cases hk : k < qs.length
  · exact h.each k hk
  · simp only [List.getD_eq_getElem?_getD, List.getElem?_eq_none (by omega : qs.length ≤ k), Option.getD_none]; omega
theorem size_textTo {qs : List (Nat × Nat)} (h : GoodQ qs) : ∀ k, (textTo qs k).size ≤ 6 * k
  | 0 => Nat.le_refl _
  | k + 1 => by
    have h1 := size_textTo h k
    have h2 := h.to k
    have h3 := size_oneT h2.2.1 (show (qs.getD k (1, 0)).2 ≤ 60 by omega)
    rw [textTo]
    split
    · rw [ByteArray.size_append, ByteArray.size_append, size_txt]; simp only [List.length_cons, List.length_nil]; omega
    · rw [ByteArray.size_append]; omega
def textN (qs : List (Nat × Nat)) : ByteArray := textTo qs qs.length
end Pa
def outPacesText_0 (ps : List RPace) : ByteArray := if goodP ps then textN (toQ ps) else ByteArray.empty
def outPacesText_1 (ps : List RPace) : Bool := goodP ps

structure PtIV (b off len cap k g : Nat) (p qx qy r : ByteArray) (x y : Nat) (l : Array Bool) (v17 v18 v19 v20 v21 v22 v23 v24 v25 v26 v3 : Value) : Prop where
  f0 : l.getD 0 false = true → v17 = .string p
  f1 : l.getD 1 false = true → v18 = .pointer (some ⟨g, 0, none⟩)
  f2 : l.getD 2 false = true → v19 = .int .i64 (x : Int)
  f3 : l.getD 3 false = true → v20 = .string qx
  f4 : l.getD 4 false = true → v21 = .string (qx ++ ⟨#[43]⟩)
  f5 : l.getD 5 false = true → v22 = .pointer (some ⟨g, 1, none⟩)
  f6 : l.getD 6 false = true → v23 = .int .i64 (y : Int)
  f7 : l.getD 7 false = true → v24 = .string qy
  f8 : l.getD 8 false = true → v25 = .string (qx ++ ⟨#[43]⟩ ++ qy)
  f9 : l.getD 9 false = true → v26 = .string (p ++ (qx ++ ⟨#[43]⟩ ++ qy))
  f10 : l.getD 10 false = true → v3 = .string (p ++ (qx ++ ⟨#[43]⟩ ++ qy))
  g10 : l.getD 0 false = false → v3 = .string p
def PtI (w0 : World) (b off len cap k g : Nat) (p qx qy r : ByteArray) (x y : Nat) (u27 : Value) (l : Array Bool) (a : Act) (w : World) : Prop :=
  ∃ v3 v17 v18 v19 v20 v21 v22 v23 v24 v25 v26 : Value, a = { tmps := List.toArray (Value.slice (some { block := b, off := off }) len cap :: undef :: Value.string { data := #[] } :: v3 :: Value.int IntKind.i64 ↑k :: Value.pointer (some { block := g, off := 0 }) :: Value.slice (some { block := b, off := off }) len cap :: Value.int IntKind.i64 ↑len :: Value.int IntKind.i64 ↑k :: Value.bool true :: Value.int IntKind.i64 ↑k :: Value.pointer (some { block := b, off := off + k * 2 }) :: Value.agg #[Value.int IntKind.i64 ↑x, Value.int IntKind.i64 ↑y] :: Value.int IntKind.i64 ↑k :: Value.bool true :: Value.string r :: Value.string p :: v17 :: v18 :: v19 :: v20 :: v21 :: v22 :: v23 :: v24 :: v25 :: v26 :: u27 :: undef :: []), defers := [] } ∧ Hid (PtIV b off len cap k g p qx qy r x y l v17 v18 v19 v20 v21 v22 v23 v24 v25 v26 v3) ∧ Hid (Below w0.heap.size w0 w)
structure PuIV (b off len cap k g : Nat) (p qx qy r : ByteArray) (x y : Nat) (l : Array Bool) (v17 v18 v19 v20 v21 v22 v23 v24 v25 v26 v3 : Value) : Prop where
  f0 : l.getD 0 false = true → v17 = .string p
  f1 : l.getD 1 false = true → v18 = .pointer (some ⟨g, 0, none⟩)
  f2 : l.getD 2 false = true → v19 = .int .i64 (x : Int)
  f3 : l.getD 3 false = true → v20 = .string qx
  f4 : l.getD 4 false = true → v21 = .string (qx ++ ⟨#[43]⟩)
  f5 : l.getD 5 false = true → v22 = .pointer (some ⟨g, 1, none⟩)
  f6 : l.getD 6 false = true → v23 = .int .i64 (y : Int)
  f7 : l.getD 7 false = true → v24 = .string qy
  f8 : l.getD 8 false = true → v25 = .string (qx ++ ⟨#[43]⟩ ++ qy)
  f9 : l.getD 9 false = true → v26 = .string (p ++ (qx ++ ⟨#[43]⟩ ++ qy))
  f10 : l.getD 10 false = true → v3 = .string (p ++ (qx ++ ⟨#[43]⟩ ++ qy))
  g10 : l.getD 0 false = false → v3 = .string p
def PuI (w0 : World) (b off len cap k g : Nat) (p qx qy r : ByteArray) (x y : Nat) (u15 u16 u27 : Value) (l : Array Bool) (a : Act) (w : World) : Prop :=
  ∃ v3 v17 v18 v19 v20 v21 v22 v23 v24 v25 v26 : Value, a = { tmps := List.toArray (Value.slice (some { block := b, off := off }) len cap :: undef :: Value.string { data := #[] } :: v3 :: Value.int IntKind.i64 ↑k :: Value.pointer (some { block := g, off := 0 }) :: Value.slice (some { block := b, off := off }) len cap :: Value.int IntKind.i64 ↑len :: Value.int IntKind.i64 ↑k :: Value.bool true :: Value.int IntKind.i64 ↑k :: Value.pointer (some { block := b, off := off + k * 2 }) :: Value.agg #[Value.int IntKind.i64 ↑x, Value.int IntKind.i64 ↑y] :: Value.int IntKind.i64 ↑k :: Value.bool false :: u15 :: u16 :: v17 :: v18 :: v19 :: v20 :: v21 :: v22 :: v23 :: v24 :: v25 :: v26 :: u27 :: undef :: []), defers := [] } ∧ Hid (PuIV b off len cap k g p qx qy r x y l v17 v18 v19 v20 v21 v22 v23 v24 v25 v26 v3) ∧ Hid (Below w0.heap.size w0 w)

set_option maxHeartbeats 4000000 in
theorem spText_any (w : World) (a : Option Addr) (len cap : Nat) (qs : List (Nat × Nat)) (hg : GoodQ qs) (hc : CameQ w a len qs) :
    Calls Tryd.prog 24 #[.slice a len cap] w fun e w' => e = .returned (.string (textN qs)) ∧ Below w.heap.size w w' := by
  have HZ : Hid (qs.length = len) := Lib.hid hc.1
  have HC := Lib.hid hc
  have HE := Lib.hid hg
  have h6 : len ≤ 6 := by have := hg.few; have := hc.1; omega
  clear hc hg
  go_enter Tryd.func24, Tryd.ntmps24
  go_wp2
  go_loopw [3, 8] (fun sv i wr => ∃ (k : Nat) (p : ByteArray), k ≤ len ∧ i = .int .i64 (k : Int) ∧ sv = .string p ∧ p.size ≤ 36 ∧ Hid (p = textTo qs k) ∧ Hid (Below w.heap.size w wr)) (fun _ i _ => len - (intOf i).toNat)
  case atStart => exact ⟨0, ByteArray.empty, Nat.zero_le _, rfl, rfl, Nat.zero_le _, Lib.hid rfl, Lib.hid (Below.refl _ _)⟩
  case round =>
    obtain ⟨k, r, hk, rfl, rfl, hps, HS, HB⟩ := hrel
    by_cases hlt : k < len
    · obtain ⟨b, off, rfl, hcell⟩ := (HC.out.below HB.out).2 (by omega)
      obtain ⟨e0, e1⟩ := hcell k hlt
      obtain ⟨hp1, hp2, hp3⟩ := HE.out.to k
      have hsz := size_textTo HE.out (k + 1)
      have h42 : (textTo qs (k + 1)).size ≤ 36 := by omega
      have HTS : Hid (textTo qs (k + 1) = (if 0 < k then r ++ ⟨#[44]⟩ else r) ++ oneT (qs.getD k (1, 0)).1 (qs.getD k (1, 0)).2) := Lib.hid (by rw [HS.out]; rfl)
      obtain ⟨x, hx⟩ : ∃ x, x = (qs.getD k (1, 0)).1 := ⟨_, rfl⟩
      obtain ⟨y, hy⟩ : ∃ x, x = (qs.getD k (1, 0)).2 := ⟨_, rfl⟩
      rw [← hx] at e0 hp1 hp2 hp3 HTS
      rw [← hy] at e1 hp3 HTS
      have i1 : (0 : Int) ≤ (k : Int) := by omega
      have i2 : (k : Int) < (len : Int) := by omega
      have HNX := Lib.hid (fun w2 => l1Num_any x (by omega) w2)
      have HNY := Lib.hid (fun w2 => l1Num_any y (by omega) w2)
      have hqx : (txt (numL x)).size ≤ 2 := by rw [size_txt]; exact numL_len x 2 (by omega) (by omega)
      have hqy : (txt (numL y)).size ≤ 2 := by rw [size_txt]; exact numL_len y 2 (by omega) (by omega)
      obtain ⟨qx, hqx2⟩ : ∃ q, q = txt (numL x) := ⟨_, rfl⟩
      obtain ⟨qy, hqy2⟩ : ∃ q, q = txt (numL y) := ⟨_, rfl⟩
      have HOT : Hid (oneT x y = qx ++ ⟨#[43]⟩ ++ qy) := Lib.hid (by rw [hqx2, hqy2]; rfl)
      rw [← hqx2] at HNX hqx
      rw [← hqy2] at HNY hqy
      obtain ⟨t2, ht2⟩ : ∃ t, t = textTo qs (k + 1) := ⟨_, rfl⟩
      rw [← ht2] at HTS h42
      have HT2 := Lib.hid ht2
      have HBA : Hid (Below w.heap.size w (wr.alloc (.cells #[.int .i64 (x : Int), .int .i64 (y : Int)] 23))) := Lib.hid (HB.out.alloc HB.out.size _)
      have hz := HBA.out.size
      have ec0 : (wr.alloc (.cells #[.int .i64 (x : Int), .int .i64 (y : Int)] 23)).cell? ⟨wr.heap.size, 0, none⟩ = some (.int .i64 (x : Int)) := by rw [World.cell?_alloc_new]; rfl
      have ec1 : (wr.alloc (.cells #[.int .i64 (x : Int), .int .i64 (y : Int)] 23)).cell? ⟨wr.heap.size, 1, none⟩ = some (.int .i64 (y : Int)) := by rw [World.cell?_alloc_new]; rfl
      have HEC0 := Lib.hid ec0
      have HEC1 := Lib.hid ec1
      clear hcell hx hy hqx2 hqy2 ht2 ec0 ec1 hsz
      by_cases hk0 : 0 < k
      · have HT3 : Hid (t2 = r ++ ⟨#[44]⟩ ++ (qx ++ ⟨#[43]⟩ ++ qy)) := Lib.hid (by rw [HTS.out, if_pos hk0, HOT.out])
        clear HTS
        have hr3 : (r ++ ⟨#[44]⟩).size ≤ 37 := by rw [ByteArray.size_append]; show r.size + 1 ≤ 37; omega
        go_wp2_with fail
        obtain ⟨p, hp⟩ : ∃ p, p = r ++ ⟨#[44]⟩ := ⟨_, rfl⟩
        rw [← hp] at HT3 hr3 ⊢
        obtain ⟨ws, hws⟩ : ∃ ws, ws = wr.alloc (.cells #[.int .i64 (x : Int), .int .i64 (y : Int)] 23) := ⟨_, rfl⟩
        rw [← hws] at HBA hz HEC0 HEC1 ⊢
        obtain ⟨g, hgw⟩ : ∃ g, g = wr.heap.size := ⟨_, rfl⟩
        rw [← hgw] at HEC0 HEC1 ⊢
        have HE0 : Hid (∀ w5, Below ws.heap.size ws w5 → w5.cell? ⟨g, 0, none⟩ = some (.int .i64 (x : Int))) := Lib.hid (fun w5 h => (h.cell (World.block_lt_of_cell? ws _ HEC0.out)).trans HEC0.out)
        have HE1 : Hid (∀ w5, Below ws.heap.size ws w5 → w5.cell? ⟨g, 1, none⟩ = some (.int .i64 (y : Int))) := Lib.hid (fun w5 h => (h.cell (World.block_lt_of_cell? ws _ HEC1.out)).trans HEC1.out)
        have hs1 : (qx ++ ⟨#[43]⟩).size ≤ 3 := by rw [ByteArray.size_append]; show qx.size + 1 ≤ 3; omega
        have hs2 : (qx ++ ⟨#[43]⟩ ++ qy).size ≤ 5 := by rw [ByteArray.size_append]; omega
        have hgs : g + 1 = g + 1 := rfl
        clear hp hws hgw hgs
        refine wp_region_inv (by kernel_rfl) (PtI ws b off len cap k g p qx qy r x y u27) (by kernel_rfl) ?_ ?_ ?_
        · exact ⟨_, _, _, _, _, _, _, _, _, _, _, rfl, Lib.hid ⟨fun h => by simp at h, fun h => by simp at h, fun h => by simp at h, fun h => by simp at h, fun h => by simp at h, fun h => by simp at h, fun h => by simp at h, fun h => by simp at h, fun h => by simp at h, fun h => by simp at h, fun h => by simp at h, fun _ => rfl⟩, Lib.hid ⟨rfl, rfl, rfl, Nat.le_refl _, fun _ _ => rfl⟩⟩
        · intro i o l a w' ho hsz hl hdep hI
          obtain ⟨v3, v17, v18, v19, v20, v21, v22, v23, v24, v25, v26, rfl, HV, BL⟩ := hI
          have HSZ : Hid (l.size = 11) := Lib.hid hsz
          have HLF : Hid (l.getD i false = false) := Lib.hid (by rcases h : l.getD i false with _ | _; rfl; rw [getD_flip (by have hs := HSZ.out; have := (Array.getElem?_eq_some_iff.1 ho).1; simp at this; omega), h] at hl; cases hl)
          clear hsz hl
          match i, ho with
          | 0, ho =>
            obtain rfl := Option.some.inj ho
            obtain rfl := HV.out.g10 HLF.out
            clear hdep ho
            go_wp2
            exact ⟨_, _, v18, v19, v20, v21, v22, v23, v24, v25, v26, rfl, Lib.hid ⟨fun _ => by first | rfl | exact int_eq (by omega), fun h => HV.out.f1 (ung (by decide) h), fun h => HV.out.f2 (ung (by decide) h), fun h => HV.out.f3 (ung (by decide) h), fun h => HV.out.f4 (ung (by decide) h), fun h => HV.out.f5 (ung (by decide) h), fun h => HV.out.f6 (ung (by decide) h), fun h => HV.out.f7 (ung (by decide) h), fun h => HV.out.f8 (ung (by decide) h), fun h => HV.out.f9 (ung (by decide) h), fun h => HV.out.f10 (ung (by decide) h), fun h => absurd h (by rw [got_same (by have := HSZ.out; omega)]; simp)⟩, BL⟩
          | 1, ho =>
            obtain rfl := Option.some.inj ho
            clear hdep ho
            go_wp2
            exact ⟨v3, v17, _, v19, v20, v21, v22, v23, v24, v25, v26, rfl, Lib.hid ⟨fun h => HV.out.f0 (ung (by decide) h), fun _ => by first | rfl | exact int_eq (by omega), fun h => HV.out.f2 (ung (by decide) h), fun h => HV.out.f3 (ung (by decide) h), fun h => HV.out.f4 (ung (by decide) h), fun h => HV.out.f5 (ung (by decide) h), fun h => HV.out.f6 (ung (by decide) h), fun h => HV.out.f7 (ung (by decide) h), fun h => HV.out.f8 (ung (by decide) h), fun h => HV.out.f9 (ung (by decide) h), fun h => HV.out.f10 (ung (by decide) h), fun h => HV.out.g10 (by rwa [got (by decide)] at h)⟩, BL⟩
          | 2, ho =>
            obtain rfl := Option.some.inj ho
            obtain rfl := HV.out.f1 (hdep ⟨1, .data⟩ (by simp) rfl)
            clear hdep ho
            have ec := HE0.out _ BL.out
            go_wp2
            exact ⟨v3, v17, _, _, v20, v21, v22, v23, v24, v25, v26, rfl, Lib.hid ⟨fun h => HV.out.f0 (ung (by decide) h), fun h => HV.out.f1 (ung (by decide) h), fun _ => by first | rfl | exact int_eq (by omega), fun h => HV.out.f3 (ung (by decide) h), fun h => HV.out.f4 (ung (by decide) h), fun h => HV.out.f5 (ung (by decide) h), fun h => HV.out.f6 (ung (by decide) h), fun h => HV.out.f7 (ung (by decide) h), fun h => HV.out.f8 (ung (by decide) h), fun h => HV.out.f9 (ung (by decide) h), fun h => HV.out.f10 (ung (by decide) h), fun h => HV.out.g10 (by rwa [got (by decide)] at h)⟩, BL⟩
          | 3, ho =>
            obtain rfl := Option.some.inj ho
            obtain rfl := HV.out.f2 (hdep ⟨2, .data⟩ (by simp) rfl)
            clear hdep ho
            go_wp2_with fail
            go_at_call 33
            refine (HNX.out _).mono ?_
            rintro e w2 ⟨rfl, b2⟩
            have B2 : Hid (Below ws.heap.size ws _) := Lib.hid (BL.out.trans (b2.mono BL.out.size))
            clear b2
            go_wp2
            exact ⟨v3, v17, v18, _, _, v21, v22, v23, v24, v25, v26, rfl, Lib.hid ⟨fun h => HV.out.f0 (ung (by decide) h), fun h => HV.out.f1 (ung (by decide) h), fun h => HV.out.f2 (ung (by decide) h), fun _ => by first | rfl | exact int_eq (by omega), fun h => HV.out.f4 (ung (by decide) h), fun h => HV.out.f5 (ung (by decide) h), fun h => HV.out.f6 (ung (by decide) h), fun h => HV.out.f7 (ung (by decide) h), fun h => HV.out.f8 (ung (by decide) h), fun h => HV.out.f9 (ung (by decide) h), fun h => HV.out.f10 (ung (by decide) h), fun h => HV.out.g10 (by rwa [got (by decide)] at h)⟩, B2⟩
          | 4, ho =>
            obtain rfl := Option.some.inj ho
            obtain rfl := HV.out.f3 (hdep ⟨3, .data⟩ (by simp) rfl)
            clear hdep ho
            go_wp2
            exact ⟨v3, v17, v18, v19, _, _, v22, v23, v24, v25, v26, rfl, Lib.hid ⟨fun h => HV.out.f0 (ung (by decide) h), fun h => HV.out.f1 (ung (by decide) h), fun h => HV.out.f2 (ung (by decide) h), fun h => HV.out.f3 (ung (by decide) h), fun _ => by first | rfl | exact int_eq (by omega), fun h => HV.out.f5 (ung (by decide) h), fun h => HV.out.f6 (ung (by decide) h), fun h => HV.out.f7 (ung (by decide) h), fun h => HV.out.f8 (ung (by decide) h), fun h => HV.out.f9 (ung (by decide) h), fun h => HV.out.f10 (ung (by decide) h), fun h => HV.out.g10 (by rwa [got (by decide)] at h)⟩, BL⟩
          | 5, ho =>
            obtain rfl := Option.some.inj ho
            clear hdep ho
            go_wp2
            exact ⟨v3, v17, v18, v19, v20, v21, _, v23, v24, v25, v26, rfl, Lib.hid ⟨fun h => HV.out.f0 (ung (by decide) h), fun h => HV.out.f1 (ung (by decide) h), fun h => HV.out.f2 (ung (by decide) h), fun h => HV.out.f3 (ung (by decide) h), fun h => HV.out.f4 (ung (by decide) h), fun _ => by first | rfl | exact int_eq (by omega), fun h => HV.out.f6 (ung (by decide) h), fun h => HV.out.f7 (ung (by decide) h), fun h => HV.out.f8 (ung (by decide) h), fun h => HV.out.f9 (ung (by decide) h), fun h => HV.out.f10 (ung (by decide) h), fun h => HV.out.g10 (by rwa [got (by decide)] at h)⟩, BL⟩
          | 6, ho =>
            obtain rfl := Option.some.inj ho
            obtain rfl := HV.out.f5 (hdep ⟨5, .data⟩ (by simp) rfl)
            clear hdep ho
            have ec := HE1.out _ BL.out
            go_wp2
            exact ⟨v3, v17, v18, v19, v20, v21, _, _, v24, v25, v26, rfl, Lib.hid ⟨fun h => HV.out.f0 (ung (by decide) h), fun h => HV.out.f1 (ung (by decide) h), fun h => HV.out.f2 (ung (by decide) h), fun h => HV.out.f3 (ung (by decide) h), fun h => HV.out.f4 (ung (by decide) h), fun h => HV.out.f5 (ung (by decide) h), fun _ => by first | rfl | exact int_eq (by omega), fun h => HV.out.f7 (ung (by decide) h), fun h => HV.out.f8 (ung (by decide) h), fun h => HV.out.f9 (ung (by decide) h), fun h => HV.out.f10 (ung (by decide) h), fun h => HV.out.g10 (by rwa [got (by decide)] at h)⟩, BL⟩
          | 7, ho =>
            obtain rfl := Option.some.inj ho
            obtain rfl := HV.out.f6 (hdep ⟨6, .data⟩ (by simp) rfl)
            clear hdep ho
            go_wp2_with fail
            go_at_call 33
            refine (HNY.out _).mono ?_
            rintro e w2 ⟨rfl, b2⟩
            have B2 : Hid (Below ws.heap.size ws _) := Lib.hid (BL.out.trans (b2.mono BL.out.size))
            clear b2
            go_wp2
            exact ⟨v3, v17, v18, v19, v20, v21, v22, _, _, v25, v26, rfl, Lib.hid ⟨fun h => HV.out.f0 (ung (by decide) h), fun h => HV.out.f1 (ung (by decide) h), fun h => HV.out.f2 (ung (by decide) h), fun h => HV.out.f3 (ung (by decide) h), fun h => HV.out.f4 (ung (by decide) h), fun h => HV.out.f5 (ung (by decide) h), fun h => HV.out.f6 (ung (by decide) h), fun _ => by first | rfl | exact int_eq (by omega), fun h => HV.out.f8 (ung (by decide) h), fun h => HV.out.f9 (ung (by decide) h), fun h => HV.out.f10 (ung (by decide) h), fun h => HV.out.g10 (by rwa [got (by decide)] at h)⟩, B2⟩
          | 8, ho =>
            obtain rfl := Option.some.inj ho
            obtain rfl := HV.out.f4 (hdep ⟨4, .data⟩ (by simp) rfl)
            obtain rfl := HV.out.f7 (hdep ⟨7, .data⟩ (by simp) rfl)
            clear hdep ho
            go_wp2
            exact ⟨v3, v17, v18, v19, v20, _, v22, v23, _, _, v26, rfl, Lib.hid ⟨fun h => HV.out.f0 (ung (by decide) h), fun h => HV.out.f1 (ung (by decide) h), fun h => HV.out.f2 (ung (by decide) h), fun h => HV.out.f3 (ung (by decide) h), fun h => HV.out.f4 (ung (by decide) h), fun h => HV.out.f5 (ung (by decide) h), fun h => HV.out.f6 (ung (by decide) h), fun h => HV.out.f7 (ung (by decide) h), fun _ => by first | rfl | exact int_eq (by omega), fun h => HV.out.f9 (ung (by decide) h), fun h => HV.out.f10 (ung (by decide) h), fun h => HV.out.g10 (by rwa [got (by decide)] at h)⟩, BL⟩
          | 9, ho =>
            obtain rfl := Option.some.inj ho
            obtain rfl := HV.out.f0 (hdep ⟨0, .data⟩ (by simp) rfl)
            obtain rfl := HV.out.f8 (hdep ⟨8, .data⟩ (by simp) rfl)
            clear hdep ho
            go_wp2
            exact ⟨v3, _, v18, v19, v20, v21, v22, v23, v24, _, _, rfl, Lib.hid ⟨fun h => HV.out.f0 (ung (by decide) h), fun h => HV.out.f1 (ung (by decide) h), fun h => HV.out.f2 (ung (by decide) h), fun h => HV.out.f3 (ung (by decide) h), fun h => HV.out.f4 (ung (by decide) h), fun h => HV.out.f5 (ung (by decide) h), fun h => HV.out.f6 (ung (by decide) h), fun h => HV.out.f7 (ung (by decide) h), fun h => HV.out.f8 (ung (by decide) h), fun _ => by first | rfl | exact int_eq (by omega), fun h => HV.out.f10 (ung (by decide) h), fun h => HV.out.g10 (by rwa [got (by decide)] at h)⟩, BL⟩
          | 10, ho =>
            obtain rfl := Option.some.inj ho
            obtain rfl := HV.out.f9 (hdep ⟨9, .data⟩ (by simp) rfl)
            have HJ : Hid (l.getD 0 false = true) := Lib.hid (hdep ⟨0, .phase⟩ (by simp) rfl)
            clear hdep ho
            go_wp2
            exact ⟨_, v17, v18, v19, v20, v21, v22, v23, v24, v25, _, rfl, Lib.hid ⟨fun h => HV.out.f0 (ung (by decide) h), fun h => HV.out.f1 (ung (by decide) h), fun h => HV.out.f2 (ung (by decide) h), fun h => HV.out.f3 (ung (by decide) h), fun h => HV.out.f4 (ung (by decide) h), fun h => HV.out.f5 (ung (by decide) h), fun h => HV.out.f6 (ung (by decide) h), fun h => HV.out.f7 (ung (by decide) h), fun h => HV.out.f8 (ung (by decide) h), fun h => HV.out.f9 (ung (by decide) h), fun _ => by first | rfl | exact int_eq (by omega), fun h => absurd h (by rw [got (by decide), HJ.out]; simp)⟩, BL⟩
          | i + 11, ho => simp at ho
        · intro l a w2 hall hI
          obtain ⟨v3, v17, v18, v19, v20, v21, v22, v23, v24, v25, v26, rfl, HV, BL⟩ := hI
          obtain rfl := HV.out.f0 (hall 0 (by decide))
          obtain rfl := HV.out.f1 (hall 1 (by decide))
          obtain rfl := HV.out.f2 (hall 2 (by decide))
          obtain rfl := HV.out.f3 (hall 3 (by decide))
          obtain rfl := HV.out.f4 (hall 4 (by decide))
          obtain rfl := HV.out.f5 (hall 5 (by decide))
          obtain rfl := HV.out.f6 (hall 6 (by decide))
          obtain rfl := HV.out.f7 (hall 7 (by decide))
          obtain rfl := HV.out.f8 (hall 8 (by decide))
          obtain rfl := HV.out.f9 (hall 9 (by decide))
          obtain rfl := HV.out.f10 (hall 10 (by decide))
          clear hall HV
          have HB5 : Hid (Below w.heap.size w w2) := Lib.hid (HBA.out.trans (BL.out.mono hz))
          rw [← HT3.out]
          go_wp2
          go_roundw
          case rel => exact ⟨k + 1, t2, by omega, by go_num, rfl, h42, HT2, HB5⟩
          case measure => simp [intOf]; omega
      · have HT3 : Hid (t2 = r ++ (qx ++ ⟨#[43]⟩ ++ qy)) := Lib.hid (by rw [HTS.out, if_neg hk0, HOT.out])
        clear HTS
        have hr3 : r.size ≤ 37 := by omega
        go_wp2_with fail
        obtain ⟨p, hp⟩ : ∃ p, p = r := ⟨_, rfl⟩
        rw [← hp] at HT3 hr3 ⊢
        obtain ⟨ws, hws⟩ : ∃ ws, ws = wr.alloc (.cells #[.int .i64 (x : Int), .int .i64 (y : Int)] 23) := ⟨_, rfl⟩
        rw [← hws] at HBA hz HEC0 HEC1 ⊢
        obtain ⟨g, hgw⟩ : ∃ g, g = wr.heap.size := ⟨_, rfl⟩
        rw [← hgw] at HEC0 HEC1 ⊢
        have HE0 : Hid (∀ w5, Below ws.heap.size ws w5 → w5.cell? ⟨g, 0, none⟩ = some (.int .i64 (x : Int))) := Lib.hid (fun w5 h => (h.cell (World.block_lt_of_cell? ws _ HEC0.out)).trans HEC0.out)
        have HE1 : Hid (∀ w5, Below ws.heap.size ws w5 → w5.cell? ⟨g, 1, none⟩ = some (.int .i64 (y : Int))) := Lib.hid (fun w5 h => (h.cell (World.block_lt_of_cell? ws _ HEC1.out)).trans HEC1.out)
        have hs1 : (qx ++ ⟨#[43]⟩).size ≤ 3 := by rw [ByteArray.size_append]; show qx.size + 1 ≤ 3; omega
        have hs2 : (qx ++ ⟨#[43]⟩ ++ qy).size ≤ 5 := by rw [ByteArray.size_append]; omega
        have hgs : g + 1 = g + 1 := rfl
        clear hp hws hgw hgs
        refine wp_region_inv (by kernel_rfl) (PuI ws b off len cap k g p qx qy r x y u15 u16 u27) (by kernel_rfl) ?_ ?_ ?_
        · exact ⟨_, _, _, _, _, _, _, _, _, _, _, rfl, Lib.hid ⟨fun h => by simp at h, fun h => by simp at h, fun h => by simp at h, fun h => by simp at h, fun h => by simp at h, fun h => by simp at h, fun h => by simp at h, fun h => by simp at h, fun h => by simp at h, fun h => by simp at h, fun h => by simp at h, fun _ => rfl⟩, Lib.hid ⟨rfl, rfl, rfl, Nat.le_refl _, fun _ _ => rfl⟩⟩
        · intro i o l a w' ho hsz hl hdep hI
          obtain ⟨v3, v17, v18, v19, v20, v21, v22, v23, v24, v25, v26, rfl, HV, BL⟩ := hI
          have HSZ : Hid (l.size = 11) := Lib.hid hsz
          have HLF : Hid (l.getD i false = false) := Lib.hid (by rcases h : l.getD i false with _ | _; rfl; rw [getD_flip (by have hs := HSZ.out; have := (Array.getElem?_eq_some_iff.1 ho).1; simp at this; omega), h] at hl; cases hl)
          clear hsz hl
          match i, ho with
          | 0, ho =>
            obtain rfl := Option.some.inj ho
            obtain rfl := HV.out.g10 HLF.out
            clear hdep ho
            go_wp2
            exact ⟨_, _, v18, v19, v20, v21, v22, v23, v24, v25, v26, rfl, Lib.hid ⟨fun _ => by first | rfl | exact int_eq (by omega), fun h => HV.out.f1 (ung (by decide) h), fun h => HV.out.f2 (ung (by decide) h), fun h => HV.out.f3 (ung (by decide) h), fun h => HV.out.f4 (ung (by decide) h), fun h => HV.out.f5 (ung (by decide) h), fun h => HV.out.f6 (ung (by decide) h), fun h => HV.out.f7 (ung (by decide) h), fun h => HV.out.f8 (ung (by decide) h), fun h => HV.out.f9 (ung (by decide) h), fun h => HV.out.f10 (ung (by decide) h), fun h => absurd h (by rw [got_same (by have := HSZ.out; omega)]; simp)⟩, BL⟩
          | 1, ho =>
            obtain rfl := Option.some.inj ho
            clear hdep ho
            go_wp2
            exact ⟨v3, v17, _, v19, v20, v21, v22, v23, v24, v25, v26, rfl, Lib.hid ⟨fun h => HV.out.f0 (ung (by decide) h), fun _ => by first | rfl | exact int_eq (by omega), fun h => HV.out.f2 (ung (by decide) h), fun h => HV.out.f3 (ung (by decide) h), fun h => HV.out.f4 (ung (by decide) h), fun h => HV.out.f5 (ung (by decide) h), fun h => HV.out.f6 (ung (by decide) h), fun h => HV.out.f7 (ung (by decide) h), fun h => HV.out.f8 (ung (by decide) h), fun h => HV.out.f9 (ung (by decide) h), fun h => HV.out.f10 (ung (by decide) h), fun h => HV.out.g10 (by rwa [got (by decide)] at h)⟩, BL⟩
          | 2, ho =>
            obtain rfl := Option.some.inj ho
            obtain rfl := HV.out.f1 (hdep ⟨1, .data⟩ (by simp) rfl)
            clear hdep ho
            have ec := HE0.out _ BL.out
            go_wp2
            exact ⟨v3, v17, _, _, v20, v21, v22, v23, v24, v25, v26, rfl, Lib.hid ⟨fun h => HV.out.f0 (ung (by decide) h), fun h => HV.out.f1 (ung (by decide) h), fun _ => by first | rfl | exact int_eq (by omega), fun h => HV.out.f3 (ung (by decide) h), fun h => HV.out.f4 (ung (by decide) h), fun h => HV.out.f5 (ung (by decide) h), fun h => HV.out.f6 (ung (by decide) h), fun h => HV.out.f7 (ung (by decide) h), fun h => HV.out.f8 (ung (by decide) h), fun h => HV.out.f9 (ung (by decide) h), fun h => HV.out.f10 (ung (by decide) h), fun h => HV.out.g10 (by rwa [got (by decide)] at h)⟩, BL⟩
          | 3, ho =>
            obtain rfl := Option.some.inj ho
            obtain rfl := HV.out.f2 (hdep ⟨2, .data⟩ (by simp) rfl)
            clear hdep ho
            go_wp2_with fail
            go_at_call 33
            refine (HNX.out _).mono ?_
            rintro e w2 ⟨rfl, b2⟩
            have B2 : Hid (Below ws.heap.size ws _) := Lib.hid (BL.out.trans (b2.mono BL.out.size))
            clear b2
            go_wp2
            exact ⟨v3, v17, v18, _, _, v21, v22, v23, v24, v25, v26, rfl, Lib.hid ⟨fun h => HV.out.f0 (ung (by decide) h), fun h => HV.out.f1 (ung (by decide) h), fun h => HV.out.f2 (ung (by decide) h), fun _ => by first | rfl | exact int_eq (by omega), fun h => HV.out.f4 (ung (by decide) h), fun h => HV.out.f5 (ung (by decide) h), fun h => HV.out.f6 (ung (by decide) h), fun h => HV.out.f7 (ung (by decide) h), fun h => HV.out.f8 (ung (by decide) h), fun h => HV.out.f9 (ung (by decide) h), fun h => HV.out.f10 (ung (by decide) h), fun h => HV.out.g10 (by rwa [got (by decide)] at h)⟩, B2⟩
          | 4, ho =>
            obtain rfl := Option.some.inj ho
            obtain rfl := HV.out.f3 (hdep ⟨3, .data⟩ (by simp) rfl)
            clear hdep ho
            go_wp2
            exact ⟨v3, v17, v18, v19, _, _, v22, v23, v24, v25, v26, rfl, Lib.hid ⟨fun h => HV.out.f0 (ung (by decide) h), fun h => HV.out.f1 (ung (by decide) h), fun h => HV.out.f2 (ung (by decide) h), fun h => HV.out.f3 (ung (by decide) h), fun _ => by first | rfl | exact int_eq (by omega), fun h => HV.out.f5 (ung (by decide) h), fun h => HV.out.f6 (ung (by decide) h), fun h => HV.out.f7 (ung (by decide) h), fun h => HV.out.f8 (ung (by decide) h), fun h => HV.out.f9 (ung (by decide) h), fun h => HV.out.f10 (ung (by decide) h), fun h => HV.out.g10 (by rwa [got (by decide)] at h)⟩, BL⟩
          | 5, ho =>
            obtain rfl := Option.some.inj ho
            clear hdep ho
            go_wp2
            exact ⟨v3, v17, v18, v19, v20, v21, _, v23, v24, v25, v26, rfl, Lib.hid ⟨fun h => HV.out.f0 (ung (by decide) h), fun h => HV.out.f1 (ung (by decide) h), fun h => HV.out.f2 (ung (by decide) h), fun h => HV.out.f3 (ung (by decide) h), fun h => HV.out.f4 (ung (by decide) h), fun _ => by first | rfl | exact int_eq (by omega), fun h => HV.out.f6 (ung (by decide) h), fun h => HV.out.f7 (ung (by decide) h), fun h => HV.out.f8 (ung (by decide) h), fun h => HV.out.f9 (ung (by decide) h), fun h => HV.out.f10 (ung (by decide) h), fun h => HV.out.g10 (by rwa [got (by decide)] at h)⟩, BL⟩
          | 6, ho =>
            obtain rfl := Option.some.inj ho
            obtain rfl := HV.out.f5 (hdep ⟨5, .data⟩ (by simp) rfl)
            clear hdep ho
            have ec := HE1.out _ BL.out
            go_wp2
            exact ⟨v3, v17, v18, v19, v20, v21, _, _, v24, v25, v26, rfl, Lib.hid ⟨fun h => HV.out.f0 (ung (by decide) h), fun h => HV.out.f1 (ung (by decide) h), fun h => HV.out.f2 (ung (by decide) h), fun h => HV.out.f3 (ung (by decide) h), fun h => HV.out.f4 (ung (by decide) h), fun h => HV.out.f5 (ung (by decide) h), fun _ => by first | rfl | exact int_eq (by omega), fun h => HV.out.f7 (ung (by decide) h), fun h => HV.out.f8 (ung (by decide) h), fun h => HV.out.f9 (ung (by decide) h), fun h => HV.out.f10 (ung (by decide) h), fun h => HV.out.g10 (by rwa [got (by decide)] at h)⟩, BL⟩
          | 7, ho =>
            obtain rfl := Option.some.inj ho
            obtain rfl := HV.out.f6 (hdep ⟨6, .data⟩ (by simp) rfl)
            clear hdep ho
            go_wp2_with fail
            go_at_call 33
            refine (HNY.out _).mono ?_
            rintro e w2 ⟨rfl, b2⟩
            have B2 : Hid (Below ws.heap.size ws _) := Lib.hid (BL.out.trans (b2.mono BL.out.size))
            clear b2
            go_wp2
            exact ⟨v3, v17, v18, v19, v20, v21, v22, _, _, v25, v26, rfl, Lib.hid ⟨fun h => HV.out.f0 (ung (by decide) h), fun h => HV.out.f1 (ung (by decide) h), fun h => HV.out.f2 (ung (by decide) h), fun h => HV.out.f3 (ung (by decide) h), fun h => HV.out.f4 (ung (by decide) h), fun h => HV.out.f5 (ung (by decide) h), fun h => HV.out.f6 (ung (by decide) h), fun _ => by first | rfl | exact int_eq (by omega), fun h => HV.out.f8 (ung (by decide) h), fun h => HV.out.f9 (ung (by decide) h), fun h => HV.out.f10 (ung (by decide) h), fun h => HV.out.g10 (by rwa [got (by decide)] at h)⟩, B2⟩
          | 8, ho =>
            obtain rfl := Option.some.inj ho
            obtain rfl := HV.out.f4 (hdep ⟨4, .data⟩ (by simp) rfl)
            obtain rfl := HV.out.f7 (hdep ⟨7, .data⟩ (by simp) rfl)
            clear hdep ho
            go_wp2
            exact ⟨v3, v17, v18, v19, v20, _, v22, v23, _, _, v26, rfl, Lib.hid ⟨fun h => HV.out.f0 (ung (by decide) h), fun h => HV.out.f1 (ung (by decide) h), fun h => HV.out.f2 (ung (by decide) h), fun h => HV.out.f3 (ung (by decide) h), fun h => HV.out.f4 (ung (by decide) h), fun h => HV.out.f5 (ung (by decide) h), fun h => HV.out.f6 (ung (by decide) h), fun h => HV.out.f7 (ung (by decide) h), fun _ => by first | rfl | exact int_eq (by omega), fun h => HV.out.f9 (ung (by decide) h), fun h => HV.out.f10 (ung (by decide) h), fun h => HV.out.g10 (by rwa [got (by decide)] at h)⟩, BL⟩
          | 9, ho =>
            obtain rfl := Option.some.inj ho
            obtain rfl := HV.out.f0 (hdep ⟨0, .data⟩ (by simp) rfl)
            obtain rfl := HV.out.f8 (hdep ⟨8, .data⟩ (by simp) rfl)
            clear hdep ho
            go_wp2
            exact ⟨v3, _, v18, v19, v20, v21, v22, v23, v24, _, _, rfl, Lib.hid ⟨fun h => HV.out.f0 (ung (by decide) h), fun h => HV.out.f1 (ung (by decide) h), fun h => HV.out.f2 (ung (by decide) h), fun h => HV.out.f3 (ung (by decide) h), fun h => HV.out.f4 (ung (by decide) h), fun h => HV.out.f5 (ung (by decide) h), fun h => HV.out.f6 (ung (by decide) h), fun h => HV.out.f7 (ung (by decide) h), fun h => HV.out.f8 (ung (by decide) h), fun _ => by first | rfl | exact int_eq (by omega), fun h => HV.out.f10 (ung (by decide) h), fun h => HV.out.g10 (by rwa [got (by decide)] at h)⟩, BL⟩
          | 10, ho =>
            obtain rfl := Option.some.inj ho
            obtain rfl := HV.out.f9 (hdep ⟨9, .data⟩ (by simp) rfl)
            have HJ : Hid (l.getD 0 false = true) := Lib.hid (hdep ⟨0, .phase⟩ (by simp) rfl)
            clear hdep ho
            go_wp2
            exact ⟨_, v17, v18, v19, v20, v21, v22, v23, v24, v25, _, rfl, Lib.hid ⟨fun h => HV.out.f0 (ung (by decide) h), fun h => HV.out.f1 (ung (by decide) h), fun h => HV.out.f2 (ung (by decide) h), fun h => HV.out.f3 (ung (by decide) h), fun h => HV.out.f4 (ung (by decide) h), fun h => HV.out.f5 (ung (by decide) h), fun h => HV.out.f6 (ung (by decide) h), fun h => HV.out.f7 (ung (by decide) h), fun h => HV.out.f8 (ung (by decide) h), fun h => HV.out.f9 (ung (by decide) h), fun _ => by first | rfl | exact int_eq (by omega), fun h => absurd h (by rw [got (by decide), HJ.out]; simp)⟩, BL⟩
          | i + 11, ho => simp at ho
        · intro l a w2 hall hI
          obtain ⟨v3, v17, v18, v19, v20, v21, v22, v23, v24, v25, v26, rfl, HV, BL⟩ := hI
          obtain rfl := HV.out.f0 (hall 0 (by decide))
          obtain rfl := HV.out.f1 (hall 1 (by decide))
          obtain rfl := HV.out.f2 (hall 2 (by decide))
          obtain rfl := HV.out.f3 (hall 3 (by decide))
          obtain rfl := HV.out.f4 (hall 4 (by decide))
          obtain rfl := HV.out.f5 (hall 5 (by decide))
          obtain rfl := HV.out.f6 (hall 6 (by decide))
          obtain rfl := HV.out.f7 (hall 7 (by decide))
          obtain rfl := HV.out.f8 (hall 8 (by decide))
          obtain rfl := HV.out.f9 (hall 9 (by decide))
          obtain rfl := HV.out.f10 (hall 10 (by decide))
          clear hall HV
          have HB5 : Hid (Below w.heap.size w w2) := Lib.hid (HBA.out.trans (BL.out.mono hz))
          rw [← HT3.out]
          go_wp2
          go_roundw
          case rel => exact ⟨k + 1, t2, by omega, by go_num, rfl, h42, HT2, HB5⟩
          case measure => simp [intOf]; omega
    · have HF : Hid (r = textN qs) := Lib.hid (by unfold textN; rw [HZ.out, show len = k by omega]; exact HS.out)
      go_wp2
      go_ret
      exact ⟨by rw [← HF.out]; exact rfl, HB.out⟩


set_option maxHeartbeats 1000000 in
theorem specPacesText_any (w : World) (a : Option Addr) (len cap : Nat) (ps : List RPace) (hl : len ≤ 1048576) (hc : CamePace w a len ps) :
    Calls Tryd.prog 10 #[.slice a len cap] w fun e w' => e = .returned (.tuple #[.string (outPacesText_0 ps), .bool (outPacesText_1 ps)]) ∧ Below w.heap.size w w' := by
  have HG := Lib.hid (spGood_any w a len cap ps hl hc)
  have HC := Lib.hid hc
  clear hc
  rcases hb : goodP ps with _ | _
  · have H0 : Hid (outPacesText_0 ps = ByteArray.empty ∧ outPacesText_1 ps = false) := Lib.hid (by unfold outPacesText_0 outPacesText_1; rw [hb]; exact ⟨rfl, rfl⟩)
    rw [hb] at HG
    clear hb
    go_enter Tryd.func10, Tryd.ntmps10
    go_wp2_with (go_at_call 23; refine HG.out.mono ?_; rintro e w2 ⟨rfl, b2⟩; have B2 := Lib.hid b2; clear b2)
    go_ret2
    exact ⟨by rw [H0.out.1, H0.out.2]; exact rfl, B2.out⟩
  · obtain ⟨qs, rfl, hgq⟩ := good_nat hb
    have H0 : Hid (outPacesText_0 (asP qs) = textN qs ∧ outPacesText_1 (asP qs) = true) := Lib.hid (by unfold outPacesText_0 outPacesText_1; rw [hb, toQ_asP]; exact ⟨rfl, rfl⟩)
    have HA := Lib.hid (fun w2 (h : Below w.heap.size w w2) => spText_any w2 a len cap qs hgq ((CameQ.of HC.out).below h))
    rw [hb] at HG
    clear hb hgq
    go_enter Tryd.func10, Tryd.ntmps10
    go_wp2_with fail
    go_at_call 23
    refine HG.out.mono ?_
    rintro e w2 ⟨rfl, b2⟩
    have B2 := Lib.hid b2
    have HA2 := Lib.hid (HA.out w2 b2)
    clear b2
    go_wp2_with fail
    go_at_call 24
    refine HA2.out.mono ?_
    rintro e w3 ⟨rfl, b3⟩
    have B3 : Hid (Below w.heap.size w w3) := Lib.hid (B2.out.trans (b3.mono B2.out.size))
    clear b3
    go_wp2
    go_ret2
    exact ⟨by rw [H0.out.1, H0.out.2]; exact rfl, B3.out⟩

end Go.Proofs.YthnbimfdodfhoabDoor
