/- Chapter 4: the model's facings behind words, commands between facings, counts. Written by a program of mine (tools/gen_guard.py). -/
import Derived.Test.YtjbomclildkjaaaDoorDrB
namespace Go.Proofs.YtjbomclildkjaaaDoor
open Go.ChangeShapes Go.WideShapes Go.ChangeAt Go.RowKit
open Dr

def facTo (fs : List Nat) (m k : Nat) : ByteArray := face ((fs.take k).map fun x => (x + m) % 4)
theorem size_facTo (fs : List Nat) (m k : Nat) : (facTo fs m k).size ≤ fs.length := by unfold facTo; rw [size_face]; simp; omega
theorem facTo_succ (fs : List Nat) (m k : Nat) (hk : k < fs.length) : facTo fs m (k + 1) = facTo fs m k ++ face [(fs.getD k 0 + m) % 4] := by
  unfold facTo
  rw [face_app, List.take_succ_eq_append_getElem hk, List.map_append]
  simp only [List.getD_eq_getElem?_getD, List.getElem?_eq_getElem hk, Option.getD_some, List.map_cons, List.map_nil]
theorem facTo_all (fs : List Nat) (m : Nat) : facTo fs m fs.length = face (fs.map fun x => (x + m) % 4) := by unfold facTo; rw [List.take_length]
theorem face_byte (fs : List Nat) (h : ∀ t ∈ fs, t < 4) (k : Nat) (hk : k < (face fs).size) : (((face fs)[k]).toNat : Int) = 48 + ((fs.getD k 0 : Nat) : Int) := by
  have hk' : k < fs.length := by rw [size_face] at hk; exact hk
  have e : (face fs)[k] = dg (fs.getD k 0) := by
    have := txt_get (fs.map dg) k hk
    rw [getD_mapZ _ _ _ hk'] at this
    exact this
  rw [e]
  exact dg_nat (by have := getD_lt h (by omega) k; omega)

structure FaIV (f g p q : ByteArray) (k x m y : Nat) (l : Array Bool) (v22 v23 v24 v25 v26 v27 v28 v29 v30 v31 v32 v33 v6 : Value) : Prop where
  f0 : l.getD 0 false = true → v22 = .string p
  f1 : l.getD 1 false = true → v23 = .string f
  f2 : l.getD 2 false = true → v24 = .int .i64 (k : Int)
  f3 : l.getD 3 false = true → v25 = .int .u8 (48 + (x : Int))
  f4 : l.getD 4 false = true → v26 = .int .u8 (x : Int)
  f5 : l.getD 5 false = true → v27 = .int .i64 (x : Int)
  f6 : l.getD 6 false = true → v28 = .string g
  f7 : l.getD 7 false = true → v29 = .int .i64 (m : Int)
  f8 : l.getD 8 false = true → v30 = .int .i64 ((x : Int) + (m : Int))
  f9 : l.getD 9 false = true → v31 = .int .i64 (y : Int)
  f10 : l.getD 10 false = true → v32 = .string q
  f11 : l.getD 11 false = true → v33 = .string (p ++ q)
  f12 : l.getD 12 false = true → v6 = .string (p ++ q)
  g12 : l.getD 0 false = false → v6 = .string p
def FaI (w0 : World) (f g p q : ByteArray) (k x m y : Nat) (l : Array Bool) (a : Act) (w : World) : Prop :=
  ∃ v6 u20 u21 v22 v23 v24 v25 v26 v27 v28 v29 v30 v31 v32 v33 : Value, a = { tmps := #[Value.string f, Value.string g, undef, undef, Value.string { data := #[] }, Value.bool false, v6, Value.int IntKind.i64 ↑k, Value.string f, Value.bool true, Value.bool false, Value.bool false, Value.string g, Value.bool true, Value.bool false, Value.bool false, Value.int IntKind.i64 ↑k, Value.string f, Value.int IntKind.i64 ↑f.size, Value.bool true, u20, u21, v22, v23, v24, v25, v26, v27, v28, v29, v30, v31, v32, v33, undef], defers := [] } ∧ Hid (FaIV f g p q k x m y l v22 v23 v24 v25 v26 v27 v28 v29 v30 v31 v32 v33 v6) ∧ Hid (Below w0.heap.size w0 w)

set_option maxRecDepth 20000 in
set_option maxHeartbeats 1000000 in
theorem specFacingAfter_any (w : World) (f : ByteArray) (s : ByteArray) (_wf : f.size ≤ maxLen) (_ws : s.size ≤ maxLen) (hlf : f.size ≤ 1048576) (hls : s.size ≤ 1048576) :
    Calls Tryd.prog 10 #[.string f, .string s] w fun e w' => e = .returned (.tuple #[.string (outFacingAfter_0 f s), .bool (outFacingAfter_1 f s)]) ∧ Below w.heap.size w w' := by
  have HG00 := Lib.hid (drFacing_any f w hlf)
  have HG10 := Lib.hid (drWord_any s w hls)
  clear _wf _ws
  rcases hb0 : faceB f with _ | _
  · have H0 : Hid (outFacingAfter_0 f s = ByteArray.empty ∧ outFacingAfter_1 f s = false) := Lib.hid (by unfold outFacingAfter_0 outFacingAfter_1; rw [hb0]; exact ⟨rfl, rfl⟩)
    rw [hb0] at HG00
    clear hb0
    go_enter Tryd.func10, Tryd.ntmps10
    go_wp2_with (go_at_call 55; refine HG00.out.mono ?_; rintro e w' ⟨rfl, rfl⟩)
    go_ret2
    exact ⟨by rw [H0.out.1, H0.out.2]; exact rfl, Below.refl _ _⟩
  · rcases hb1 : wordB s with _ | _
    · have H0 : Hid (outFacingAfter_0 f s = ByteArray.empty ∧ outFacingAfter_1 f s = false) := Lib.hid (by unfold outFacingAfter_0 outFacingAfter_1; rw [hb0, hb1]; exact ⟨rfl, rfl⟩)
      rw [hb0] at HG00
      rw [hb1] at HG10
      clear hb0 hb1
      go_enter Tryd.func10, Tryd.ntmps10
      go_wp2_with (first | (go_at_call 55; refine HG00.out.mono ?_; rintro e w' ⟨rfl, rfl⟩) | (go_at_call 56; refine HG10.out.mono ?_; rintro e w' ⟨rfl, rfl⟩))
      go_ret2
      exact ⟨by rw [H0.out.1, H0.out.2]; exact rfl, Below.refl _ _⟩
    · obtain ⟨fs, rfl, h1, h2, h3⟩ := face_of hb0
      obtain ⟨ts, rfl, h4, h5⟩ := word_of hb1
      have H0 : Hid (outFacingAfter_0 (face fs) (word ts) = face (fs.map fun x => (x + net ts) % 4) ∧ outFacingAfter_1 (face fs) (word ts) = true) := Lib.hid (by unfold outFacingAfter_0 outFacingAfter_1; rw [hb0, hb1, tsOf_word h5, fsOf_face h3]; exact ⟨rfl, rfl⟩)
      rw [hb0] at HG00
      rw [hb1] at HG10
      have HN := Lib.hid (fun w2 => drNet_any ts w2 h4 h5)
      have hnl := net_lt ts
      have HFB := Lib.hid (face_byte fs h3)
      have HFL := Lib.hid (getD_lt h3 (by omega))
      have hz : (face fs).size ≤ 30 := by rw [size_face]; exact h2
      have HZ : Hid (fs.length = (face fs).size) := Lib.hid (size_face fs).symm
      obtain ⟨m, hm⟩ : ∃ m, m = net ts := ⟨_, rfl⟩
      obtain ⟨g, hg⟩ : ∃ g, g = word ts := ⟨_, rfl⟩
      obtain ⟨f, hf⟩ : ∃ g, g = face fs := ⟨_, rfl⟩
      rw [← hm] at H0 HN hnl
      rw [← hg] at H0 HN HG10 ⊢
      rw [← hf] at H0 HG00 HZ hz ⊢
      have HFB2 : Hid (∀ k, (hk : k < f.size) → ((f[k]).toNat : Int) = 48 + ((fs.getD k 0 : Nat) : Int)) := Lib.hid (by subst hf; exact HFB.out)
      clear hb0 hb1 hm hg hf h3 h5 HFB
      go_enter Tryd.func10, Tryd.ntmps10
      go_wp2_with (first | (go_at_call 55; refine HG00.out.mono ?_; rintro e w' ⟨rfl, rfl⟩) | (go_at_call 56; refine HG10.out.mono ?_; rintro e w' ⟨rfl, rfl⟩))
      go_loopw [6, 7] (fun v i wr => ∃ k : Nat, k ≤ f.size ∧ i = .int .i64 (k : Int) ∧ v = .string (facTo fs m k) ∧ Hid (Below w.heap.size w wr)) (fun _ i _ => f.size - (intOf i).toNat)
      case atStart => exact ⟨0, Nat.zero_le _, rfl, rfl, Below.refl _ _⟩
      case round =>
        obtain ⟨k, hk, rfl, rfl, HB⟩ := hrel
        have hz1 := HB.out.size
        by_cases hlt : k < f.size
        · have e1 := HFB2.out k hlt
          have hxl := HFL.out k
          have HS := Lib.hid (facTo_succ fs m k (by have := HZ.out; omega))
          have hps := size_facTo fs m k
          obtain ⟨x, hx⟩ : ∃ x, x = fs.getD k 0 := ⟨_, rfl⟩
          rw [← hx] at e1 hxl HS
          have e2 : ((x : Int) + (m : Int)) % 4 = (((x + m) % 4 : Nat) : Int) := by omega
          have HL := Lib.hid (fun w2 => l1Num_any ((x + m) % 4) (by omega) w2)
          rw [face_one (show (x + m) % 4 < 10 by omega)] at HL
          have hqs : (face [(x + m) % 4]).size ≤ 1 := by rw [size_face]; simp
          obtain ⟨p, hp⟩ : ∃ p, p = facTo fs m k := ⟨_, rfl⟩
          obtain ⟨q, hq⟩ : ∃ q, q = face [(x + m) % 4] := ⟨_, rfl⟩
          obtain ⟨y, hy⟩ : ∃ y, y = (x + m) % 4 := ⟨_, rfl⟩
          rw [← hp] at HS hps ⊢
          rw [← hq] at HS HL hqs
          rw [← hy] at HL e2
          have hn0 := net_lt ts
          clear hx hp hq hy hn0
          go_wp2_with fail
          refine wp_region_inv (by kernel_rfl) (FaI wr f g p q k x m y) (by kernel_rfl) ?_ ?_ ?_
          · exact ⟨_, _, _, _, _, _, _, _, _, _, _, _, _, _, _, rfl, Lib.hid ⟨fun h => by simp at h, fun h => by simp at h, fun h => by simp at h, fun h => by simp at h, fun h => by simp at h, fun h => by simp at h, fun h => by simp at h, fun h => by simp at h, fun h => by simp at h, fun h => by simp at h, fun h => by simp at h, fun h => by simp at h, fun h => by simp at h, fun _ => rfl⟩, Lib.hid ⟨rfl, rfl, rfl, Nat.le_refl _, fun _ _ => rfl⟩⟩
          · intro i o l a w' ho hsz hl hdep hI
            obtain ⟨v6, u20, u21, v22, v23, v24, v25, v26, v27, v28, v29, v30, v31, v32, v33, rfl, HV, BL⟩ := hI
            have HSZ : Hid (l.size = 13) := Lib.hid hsz
            have HLF : Hid (l.getD i false = false) := Lib.hid (by rcases h : l.getD i false with _ | _; rfl; rw [getD_flip (by have hs := HSZ.out; have := (Array.getElem?_eq_some_iff.1 ho).1; simp at this; omega), h] at hl; cases hl)
            clear hsz hl
            match i, ho with
            | 0, ho =>
              obtain rfl := Option.some.inj ho
              obtain rfl := HV.out.g12 HLF.out
              clear hdep ho
              go_wp2
              exact ⟨_, u20, u21, _, v23, v24, v25, v26, v27, v28, v29, v30, v31, v32, v33, rfl, Lib.hid ⟨fun _ => by first | rfl | exact int_eq (by omega), fun h => HV.out.f1 (ung (by decide) h), fun h => HV.out.f2 (ung (by decide) h), fun h => HV.out.f3 (ung (by decide) h), fun h => HV.out.f4 (ung (by decide) h), fun h => HV.out.f5 (ung (by decide) h), fun h => HV.out.f6 (ung (by decide) h), fun h => HV.out.f7 (ung (by decide) h), fun h => HV.out.f8 (ung (by decide) h), fun h => HV.out.f9 (ung (by decide) h), fun h => HV.out.f10 (ung (by decide) h), fun h => HV.out.f11 (ung (by decide) h), fun h => HV.out.f12 (ung (by decide) h), fun h => absurd h (by rw [got_same (by have := HSZ.out; omega)]; simp)⟩, BL⟩
            | 1, ho =>
              obtain rfl := Option.some.inj ho
              clear hdep ho
              go_wp2
              exact ⟨v6, u20, u21, v22, _, v24, v25, v26, v27, v28, v29, v30, v31, v32, v33, rfl, Lib.hid ⟨fun h => HV.out.f0 (ung (by decide) h), fun _ => by first | rfl | exact int_eq (by omega), fun h => HV.out.f2 (ung (by decide) h), fun h => HV.out.f3 (ung (by decide) h), fun h => HV.out.f4 (ung (by decide) h), fun h => HV.out.f5 (ung (by decide) h), fun h => HV.out.f6 (ung (by decide) h), fun h => HV.out.f7 (ung (by decide) h), fun h => HV.out.f8 (ung (by decide) h), fun h => HV.out.f9 (ung (by decide) h), fun h => HV.out.f10 (ung (by decide) h), fun h => HV.out.f11 (ung (by decide) h), fun h => HV.out.f12 (ung (by decide) h), fun h => HV.out.g12 (by rwa [got (by decide)] at h)⟩, BL⟩
            | 2, ho =>
              obtain rfl := Option.some.inj ho
              clear hdep ho
              go_wp2
              exact ⟨v6, u20, u21, v22, v23, _, v25, v26, v27, v28, v29, v30, v31, v32, v33, rfl, Lib.hid ⟨fun h => HV.out.f0 (ung (by decide) h), fun h => HV.out.f1 (ung (by decide) h), fun _ => by first | rfl | exact int_eq (by omega), fun h => HV.out.f3 (ung (by decide) h), fun h => HV.out.f4 (ung (by decide) h), fun h => HV.out.f5 (ung (by decide) h), fun h => HV.out.f6 (ung (by decide) h), fun h => HV.out.f7 (ung (by decide) h), fun h => HV.out.f8 (ung (by decide) h), fun h => HV.out.f9 (ung (by decide) h), fun h => HV.out.f10 (ung (by decide) h), fun h => HV.out.f11 (ung (by decide) h), fun h => HV.out.f12 (ung (by decide) h), fun h => HV.out.g12 (by rwa [got (by decide)] at h)⟩, BL⟩
            | 3, ho =>
              obtain rfl := Option.some.inj ho
              obtain rfl := HV.out.f1 (hdep ⟨1, .data⟩ (by simp) rfl)
              obtain rfl := HV.out.f2 (hdep ⟨2, .data⟩ (by simp) rfl)
              clear hdep ho
              go_wp2
              exact ⟨v6, u20, u21, v22, _, _, _, v26, v27, v28, v29, v30, v31, v32, v33, rfl, Lib.hid ⟨fun h => HV.out.f0 (ung (by decide) h), fun h => HV.out.f1 (ung (by decide) h), fun h => HV.out.f2 (ung (by decide) h), fun _ => by first | rfl | (rw [e1]), fun h => HV.out.f4 (ung (by decide) h), fun h => HV.out.f5 (ung (by decide) h), fun h => HV.out.f6 (ung (by decide) h), fun h => HV.out.f7 (ung (by decide) h), fun h => HV.out.f8 (ung (by decide) h), fun h => HV.out.f9 (ung (by decide) h), fun h => HV.out.f10 (ung (by decide) h), fun h => HV.out.f11 (ung (by decide) h), fun h => HV.out.f12 (ung (by decide) h), fun h => HV.out.g12 (by rwa [got (by decide)] at h)⟩, BL⟩
            | 4, ho =>
              obtain rfl := Option.some.inj ho
              obtain rfl := HV.out.f3 (hdep ⟨3, .data⟩ (by simp) rfl)
              clear hdep ho
              go_wp2
              exact ⟨v6, u20, u21, v22, v23, v24, _, _, v27, v28, v29, v30, v31, v32, v33, rfl, Lib.hid ⟨fun h => HV.out.f0 (ung (by decide) h), fun h => HV.out.f1 (ung (by decide) h), fun h => HV.out.f2 (ung (by decide) h), fun h => HV.out.f3 (ung (by decide) h), fun _ => by first | rfl | (congr 1; omega), fun h => HV.out.f5 (ung (by decide) h), fun h => HV.out.f6 (ung (by decide) h), fun h => HV.out.f7 (ung (by decide) h), fun h => HV.out.f8 (ung (by decide) h), fun h => HV.out.f9 (ung (by decide) h), fun h => HV.out.f10 (ung (by decide) h), fun h => HV.out.f11 (ung (by decide) h), fun h => HV.out.f12 (ung (by decide) h), fun h => HV.out.g12 (by rwa [got (by decide)] at h)⟩, BL⟩
            | 5, ho =>
              obtain rfl := Option.some.inj ho
              obtain rfl := HV.out.f4 (hdep ⟨4, .data⟩ (by simp) rfl)
              clear hdep ho
              go_wp2
              exact ⟨v6, u20, u21, v22, v23, v24, v25, _, _, v28, v29, v30, v31, v32, v33, rfl, Lib.hid ⟨fun h => HV.out.f0 (ung (by decide) h), fun h => HV.out.f1 (ung (by decide) h), fun h => HV.out.f2 (ung (by decide) h), fun h => HV.out.f3 (ung (by decide) h), fun h => HV.out.f4 (ung (by decide) h), fun _ => by first | rfl | exact int_eq (by omega), fun h => HV.out.f6 (ung (by decide) h), fun h => HV.out.f7 (ung (by decide) h), fun h => HV.out.f8 (ung (by decide) h), fun h => HV.out.f9 (ung (by decide) h), fun h => HV.out.f10 (ung (by decide) h), fun h => HV.out.f11 (ung (by decide) h), fun h => HV.out.f12 (ung (by decide) h), fun h => HV.out.g12 (by rwa [got (by decide)] at h)⟩, BL⟩
            | 6, ho =>
              obtain rfl := Option.some.inj ho
              clear hdep ho
              go_wp2
              exact ⟨v6, u20, u21, v22, v23, v24, v25, v26, v27, _, v29, v30, v31, v32, v33, rfl, Lib.hid ⟨fun h => HV.out.f0 (ung (by decide) h), fun h => HV.out.f1 (ung (by decide) h), fun h => HV.out.f2 (ung (by decide) h), fun h => HV.out.f3 (ung (by decide) h), fun h => HV.out.f4 (ung (by decide) h), fun h => HV.out.f5 (ung (by decide) h), fun _ => by first | rfl | exact int_eq (by omega), fun h => HV.out.f7 (ung (by decide) h), fun h => HV.out.f8 (ung (by decide) h), fun h => HV.out.f9 (ung (by decide) h), fun h => HV.out.f10 (ung (by decide) h), fun h => HV.out.f11 (ung (by decide) h), fun h => HV.out.f12 (ung (by decide) h), fun h => HV.out.g12 (by rwa [got (by decide)] at h)⟩, BL⟩
            | 7, ho =>
              obtain rfl := Option.some.inj ho
              obtain rfl := HV.out.f6 (hdep ⟨6, .data⟩ (by simp) rfl)
              clear hdep ho
              go_wp2_with fail
              go_at_call 58
              refine (HN.out _).mono ?_
              rintro e w2 ⟨rfl, rfl⟩
              go_wp2
              exact ⟨v6, u20, u21, v22, v23, v24, v25, v26, v27, _, _, v30, v31, v32, v33, rfl, Lib.hid ⟨fun h => HV.out.f0 (ung (by decide) h), fun h => HV.out.f1 (ung (by decide) h), fun h => HV.out.f2 (ung (by decide) h), fun h => HV.out.f3 (ung (by decide) h), fun h => HV.out.f4 (ung (by decide) h), fun h => HV.out.f5 (ung (by decide) h), fun h => HV.out.f6 (ung (by decide) h), fun _ => by first | rfl | exact int_eq (by omega), fun h => HV.out.f8 (ung (by decide) h), fun h => HV.out.f9 (ung (by decide) h), fun h => HV.out.f10 (ung (by decide) h), fun h => HV.out.f11 (ung (by decide) h), fun h => HV.out.f12 (ung (by decide) h), fun h => HV.out.g12 (by rwa [got (by decide)] at h)⟩, BL⟩
            | 8, ho =>
              obtain rfl := Option.some.inj ho
              obtain rfl := HV.out.f5 (hdep ⟨5, .data⟩ (by simp) rfl)
              obtain rfl := HV.out.f7 (hdep ⟨7, .data⟩ (by simp) rfl)
              clear hdep ho
              go_wp2
              exact ⟨v6, u20, u21, v22, v23, v24, v25, v26, _, v28, _, _, v31, v32, v33, rfl, Lib.hid ⟨fun h => HV.out.f0 (ung (by decide) h), fun h => HV.out.f1 (ung (by decide) h), fun h => HV.out.f2 (ung (by decide) h), fun h => HV.out.f3 (ung (by decide) h), fun h => HV.out.f4 (ung (by decide) h), fun h => HV.out.f5 (ung (by decide) h), fun h => HV.out.f6 (ung (by decide) h), fun h => HV.out.f7 (ung (by decide) h), fun _ => by first | rfl | exact int_eq (by omega), fun h => HV.out.f9 (ung (by decide) h), fun h => HV.out.f10 (ung (by decide) h), fun h => HV.out.f11 (ung (by decide) h), fun h => HV.out.f12 (ung (by decide) h), fun h => HV.out.g12 (by rwa [got (by decide)] at h)⟩, BL⟩
            | 9, ho =>
              obtain rfl := Option.some.inj ho
              obtain rfl := HV.out.f8 (hdep ⟨8, .data⟩ (by simp) rfl)
              clear hdep ho
              go_wp2
              exact ⟨v6, u20, u21, v22, v23, v24, v25, v26, v27, v28, v29, _, _, v32, v33, rfl, Lib.hid ⟨fun h => HV.out.f0 (ung (by decide) h), fun h => HV.out.f1 (ung (by decide) h), fun h => HV.out.f2 (ung (by decide) h), fun h => HV.out.f3 (ung (by decide) h), fun h => HV.out.f4 (ung (by decide) h), fun h => HV.out.f5 (ung (by decide) h), fun h => HV.out.f6 (ung (by decide) h), fun h => HV.out.f7 (ung (by decide) h), fun h => HV.out.f8 (ung (by decide) h), fun _ => by first | rfl | exact int_eq e2, fun h => HV.out.f10 (ung (by decide) h), fun h => HV.out.f11 (ung (by decide) h), fun h => HV.out.f12 (ung (by decide) h), fun h => HV.out.g12 (by rwa [got (by decide)] at h)⟩, BL⟩
            | 10, ho =>
              obtain rfl := Option.some.inj ho
              obtain rfl := HV.out.f9 (hdep ⟨9, .data⟩ (by simp) rfl)
              clear hdep ho
              go_wp2_with fail
              go_at_call 57
              refine (HL.out _).mono ?_
              rintro e w2 ⟨rfl, b2⟩
              have B2 : Hid (Below wr.heap.size wr _) := Lib.hid (BL.out.trans (b2.mono BL.out.size))
              clear b2
              go_wp2
              exact ⟨v6, u20, u21, v22, v23, v24, v25, v26, v27, v28, v29, v30, _, _, v33, rfl, Lib.hid ⟨fun h => HV.out.f0 (ung (by decide) h), fun h => HV.out.f1 (ung (by decide) h), fun h => HV.out.f2 (ung (by decide) h), fun h => HV.out.f3 (ung (by decide) h), fun h => HV.out.f4 (ung (by decide) h), fun h => HV.out.f5 (ung (by decide) h), fun h => HV.out.f6 (ung (by decide) h), fun h => HV.out.f7 (ung (by decide) h), fun h => HV.out.f8 (ung (by decide) h), fun h => HV.out.f9 (ung (by decide) h), fun _ => by first | rfl | exact int_eq (by omega), fun h => HV.out.f11 (ung (by decide) h), fun h => HV.out.f12 (ung (by decide) h), fun h => HV.out.g12 (by rwa [got (by decide)] at h)⟩, B2⟩
            | 11, ho =>
              obtain rfl := Option.some.inj ho
              obtain rfl := HV.out.f0 (hdep ⟨0, .data⟩ (by simp) rfl)
              obtain rfl := HV.out.f10 (hdep ⟨10, .data⟩ (by simp) rfl)
              clear hdep ho
              go_wp2
              exact ⟨v6, u20, u21, _, v23, v24, v25, v26, v27, v28, v29, v30, v31, _, _, rfl, Lib.hid ⟨fun h => HV.out.f0 (ung (by decide) h), fun h => HV.out.f1 (ung (by decide) h), fun h => HV.out.f2 (ung (by decide) h), fun h => HV.out.f3 (ung (by decide) h), fun h => HV.out.f4 (ung (by decide) h), fun h => HV.out.f5 (ung (by decide) h), fun h => HV.out.f6 (ung (by decide) h), fun h => HV.out.f7 (ung (by decide) h), fun h => HV.out.f8 (ung (by decide) h), fun h => HV.out.f9 (ung (by decide) h), fun h => HV.out.f10 (ung (by decide) h), fun _ => by first | rfl | exact int_eq (by omega), fun h => HV.out.f12 (ung (by decide) h), fun h => HV.out.g12 (by rwa [got (by decide)] at h)⟩, BL⟩
            | 12, ho =>
              obtain rfl := Option.some.inj ho
              obtain rfl := HV.out.f11 (hdep ⟨11, .data⟩ (by simp) rfl)
              have HJ : Hid (l.getD 0 false = true) := Lib.hid (hdep ⟨0, .phase⟩ (by simp) rfl)
              clear hdep ho
              go_wp2
              exact ⟨_, u20, u21, v22, v23, v24, v25, v26, v27, v28, v29, v30, v31, v32, _, rfl, Lib.hid ⟨fun h => HV.out.f0 (ung (by decide) h), fun h => HV.out.f1 (ung (by decide) h), fun h => HV.out.f2 (ung (by decide) h), fun h => HV.out.f3 (ung (by decide) h), fun h => HV.out.f4 (ung (by decide) h), fun h => HV.out.f5 (ung (by decide) h), fun h => HV.out.f6 (ung (by decide) h), fun h => HV.out.f7 (ung (by decide) h), fun h => HV.out.f8 (ung (by decide) h), fun h => HV.out.f9 (ung (by decide) h), fun h => HV.out.f10 (ung (by decide) h), fun h => HV.out.f11 (ung (by decide) h), fun _ => by first | rfl | exact int_eq (by omega), fun h => absurd h (by rw [got (by decide), HJ.out]; simp)⟩, BL⟩
            | i + 13, ho => simp at ho
          · intro l a w2 hall hI
            obtain ⟨v6, u20, u21, v22, v23, v24, v25, v26, v27, v28, v29, v30, v31, v32, v33, rfl, HV, BL⟩ := hI
            obtain rfl := HV.out.f0 (hall 0 (by decide))
            obtain rfl := HV.out.f1 (hall 1 (by decide))
            obtain rfl := HV.out.f2 (hall 2 (by decide))
            obtain rfl := HV.out.f3 (hall 3 (by decide))
            obtain rfl := HV.out.f4 (hall 4 (by decide))
            obtain rfl := HV.out.f5 (hall 5 (by decide))
            obtain rfl := HV.out.f6 (hall 6 (by decide))
            obtain rfl := HV.out.f7 (hall 7 (by decide))
            obtain rfl := HV.out.f8 (hall 8 (by decide))
            obtain rfl := HV.out.f9 (hall 9 (by decide))
            obtain rfl := HV.out.f10 (hall 10 (by decide))
            obtain rfl := HV.out.f11 (hall 11 (by decide))
            obtain rfl := HV.out.f12 (hall 12 (by decide))
            clear hall HV
            have HB5 : Hid (Below w.heap.size w w2) := Lib.hid (HB.out.trans (BL.out.mono hz1))
            go_wp2
            go_roundw
            case rel => exact ⟨k + 1, by omega, by go_num, by rw [HS.out], HB5⟩
            case measure => simp [intOf]; omega
        · have HE : Hid (facTo fs m k = face (fs.map fun x => (x + m) % 4)) := Lib.hid (by rw [← facTo_all, show fs.length = k from by have := HZ.out; omega])
          rw [HE.out]
          go_wp2
          go_ret2
          exact ⟨by rw [H0.out.1, H0.out.2]; exact rfl, HB.out⟩

end Go.Proofs.YtjbomclildkjaaaDoor
