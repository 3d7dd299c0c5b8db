/- Chapter 4: the model's commands between facings, and counts. Written by a program of mine (tools/mk/mk_drd.py). -/
import Derived.Test.YtjbomclildkjaaaDoorDrC
namespace Go.Proofs.YtjbomclildkjaaaDoor
open Go.ChangeShapes Go.WideShapes Go.ChangeAt Go.RowKit
open Dr

def comAt (fs gs : List Nat) (k : Nat) : Nat := (4 + gs.getD k 0 - fs.getD k 0) % 4
def comTo (fs gs : List Nat) (k : Nat) : ByteArray := word ((List.range k).map (comAt fs gs))
theorem size_comTo (fs gs : List Nat) (k : Nat) : (comTo fs gs k).size = k := by unfold comTo; rw [size_word]; simp
theorem comTo_succ (fs gs : List Nat) (k : Nat) : comTo fs gs (k + 1) = comTo fs gs k ++ word [comAt fs gs k] := by unfold comTo; rw [word_app, List.range_succ, List.map_append]; rfl
theorem comAt_lt (fs gs : List Nat) (k : Nat) : comAt fs gs k < 4 := Nat.mod_lt _ (by omega)
def betwB (f g : ByteArray) : Bool := faceB f && (faceB g && decide (f.size = g.size))
def outCommandsBetween_0 (f g : ByteArray) : ByteArray := if faceB f then (if faceB g then (if decide (f.size = g.size) then comTo (fsOf f) (fsOf g) f.size else ByteArray.empty) else ByteArray.empty) else ByteArray.empty
def outCommandsBetween_1 (f g : ByteArray) : Bool := betwB f g

def cntB (n t : Int) : Bool := inB n 0 24 && inB t 0 3
def outCountCommandWords_0 (n t : Int) : Int := if inB n 0 24 then (if inB t 0 3 then (if n = 0 then (if t = 0 then 1 else 0) else ((4 ^ (n.toNat - 1) : Nat) : Int)) else 0) else 0
def outCountCommandWords_1 (n t : Int) : Bool := cntB n t

structure CbIV (f g p q : ByteArray) (k x y c : Nat) (l : Array Bool) (v29 v30 v31 v32 v33 v34 v35 v36 v37 v38 v39 v40 v41 v42 v6 : Value) : Prop where
  f0 : l.getD 0 false = true → v29 = .string p
  f1 : l.getD 1 false = true → v30 = .string g
  f2 : l.getD 2 false = true → v31 = .int .i64 (k : Int)
  f3 : l.getD 3 false = true → v32 = .int .u8 (48 + (y : Int))
  f4 : l.getD 4 false = true → v33 = .int .i64 (48 + (y : Int))
  f5 : l.getD 5 false = true → v34 = .int .i64 (4 + (48 + (y : Int)))
  f6 : l.getD 6 false = true → v35 = .string f
  f7 : l.getD 7 false = true → v36 = .int .i64 (k : Int)
  f8 : l.getD 8 false = true → v37 = .int .u8 (48 + (x : Int))
  f9 : l.getD 9 false = true → v38 = .int .i64 (48 + (x : Int))
  f10 : l.getD 10 false = true → v39 = .int .i64 (4 + (y : Int) - (x : Int))
  f11 : l.getD 11 false = true → v40 = .int .i64 (c : Int)
  f12 : l.getD 12 false = true → v41 = .string q
  f13 : l.getD 13 false = true → v42 = .string (p ++ q)
  f14 : l.getD 14 false = true → v6 = .string (p ++ q)
  g14 : l.getD 0 false = false → v6 = .string p
def CbI (w0 : World) (f g p q : ByteArray) (k x y c : Nat) (l : Array Bool) (a : Act) (w : World) : Prop :=
  ∃ v6 u27 u28 v29 v30 v31 v32 v33 v34 v35 v36 v37 v38 v39 v40 v41 v42 : Value, a = { tmps := List.toArray (Value.string f :: Value.string g :: undef :: undef :: Value.string { data := #[] } :: Value.bool false :: v6 :: Value.int IntKind.i64 ↑k :: Value.string f :: Value.bool true :: Value.bool false :: Value.bool false :: Value.string g :: Value.bool true :: Value.bool false :: Value.bool false :: Value.bool false :: Value.string f :: Value.int IntKind.i64 ↑f.size :: Value.string g :: Value.int IntKind.i64 ↑g.size :: Value.bool false :: Value.bool false :: Value.int IntKind.i64 ↑k :: Value.string f :: Value.int IntKind.i64 ↑f.size :: Value.bool true :: u27 :: u28 :: v29 :: v30 :: v31 :: v32 :: v33 :: v34 :: v35 :: v36 :: v37 :: v38 :: v39 :: v40 :: v41 :: v42 :: undef :: []), defers := [] } ∧ Hid (CbIV f g p q k x y c l v29 v30 v31 v32 v33 v34 v35 v36 v37 v38 v39 v40 v41 v42 v6) ∧ Hid (Below w0.heap.size w0 w)

set_option maxRecDepth 20000 in
set_option maxHeartbeats 1000000 in
theorem specCommandsBetween_any (w : World) (f : ByteArray) (g : ByteArray) (_wf : f.size ≤ maxLen) (_wg : g.size ≤ maxLen) (hlf : f.size ≤ 1048576) (hlg : g.size ≤ 1048576) :
    Calls Tryd.prog 30 #[.string f, .string g] w fun e w' => e = .returned (.tuple #[.string (outCommandsBetween_0 f g), .bool (outCommandsBetween_1 f g)]) ∧ Below w.heap.size w w' := by
  have HG00 := Lib.hid (drFacing_any f w hlf)
  have HG10 := Lib.hid (drFacing_any g w hlg)
  clear _wf _wg
  rcases hb0 : faceB f with _ | _
  · have H0 : Hid (outCommandsBetween_0 f g = ByteArray.empty ∧ outCommandsBetween_1 f g = false) := Lib.hid (by unfold outCommandsBetween_0 outCommandsBetween_1 betwB; rw [hb0]; exact ⟨rfl, rfl⟩)
    rw [hb0] at HG00
    clear hb0
    go_enter Tryd.func30, Tryd.ntmps30
    go_wp2_with (go_at_call 55; refine HG00.out.mono ?_; rintro e w' ⟨rfl, rfl⟩)
    go_ret2
    exact ⟨by rw [H0.out.1, H0.out.2]; exact rfl, Below.refl _ _⟩
  · rcases hb1 : faceB g with _ | _
    · have H0 : Hid (outCommandsBetween_0 f g = ByteArray.empty ∧ outCommandsBetween_1 f g = false) := Lib.hid (by unfold outCommandsBetween_0 outCommandsBetween_1 betwB; rw [hb0, hb1]; exact ⟨rfl, rfl⟩)
      rw [hb0] at HG00
      rw [hb1] at HG10
      clear hb0 hb1
      go_enter Tryd.func30, Tryd.ntmps30
      go_wp2_with fail
      go_at_call 55
      refine HG00.out.mono ?_
      rintro e w' ⟨rfl, rfl⟩
      go_wp2_with fail
      go_at_call 55
      refine HG10.out.mono ?_
      rintro e w' ⟨rfl, rfl⟩
      go_wp2
      go_ret2
      exact ⟨by rw [H0.out.1, H0.out.2]; exact rfl, Below.refl _ _⟩
    · obtain ⟨fs, rfl, h1, h2, h3⟩ := face_of hb0
      obtain ⟨gs, rfl, h4, h5, h6⟩ := face_of hb1
      rw [hb0] at HG00
      rw [hb1] at HG10
      by_cases hsz : (face fs).size = (face gs).size
      · have H0 : Hid (outCommandsBetween_0 (face fs) (face gs) = comTo fs gs (face fs).size ∧ outCommandsBetween_1 (face fs) (face gs) = true) := Lib.hid (by unfold outCommandsBetween_0 outCommandsBetween_1 betwB; rw [hb0, hb1, decide_eq_true hsz, fsOf_face h3, fsOf_face h6]; exact ⟨rfl, rfl⟩)
        have HFB := Lib.hid (face_byte fs h3)
        have HFL := Lib.hid (getD_lt h3 (by omega))
        have HGB := Lib.hid (face_byte gs h6)
        have HGL := Lib.hid (getD_lt h6 (by omega))
        have hz : (face fs).size ≤ 30 := by rw [size_face]; exact h2
        obtain ⟨g, hg⟩ : ∃ g, g = face gs := ⟨_, rfl⟩
        obtain ⟨f, hf⟩ : ∃ g, g = face fs := ⟨_, rfl⟩
        rw [← hg] at H0 HG10 hsz ⊢
        rw [← hf] at H0 HG00 hz hsz ⊢
        have HFB2 : Hid (∀ k, (hk : k < f.size) → ((f[k]).toNat : Int) = 48 + ((fs.getD k 0 : Nat) : Int)) := Lib.hid (by subst hf; exact HFB.out)
        have HGB2 : Hid (∀ k, (hk : k < g.size) → ((g[k]).toNat : Int) = 48 + ((gs.getD k 0 : Nat) : Int)) := Lib.hid (by subst hg; exact HGB.out)
        have hne : (f.size != g.size) = false := by rw [bne_eq_false_iff_eq]; exact hsz
        have hne2 : ((f.size : Int) != (g.size : Int)) = false := by rw [bne_eq_false_iff_eq]; omega
        have HSZ2 := Lib.hid hsz
        have hgz : g.size ≤ 30 := by omega
        clear hb0 hb1 hg hf h3 h6 HFB HGB hsz
        go_enter Tryd.func30, Tryd.ntmps30
        go_wp2_with fail
        go_at_call 55
        refine HG00.out.mono ?_
        rintro e w' ⟨rfl, rfl⟩
        go_wp2_with fail
        go_at_call 55
        refine HG10.out.mono ?_
        rintro e w' ⟨rfl, rfl⟩
        go_wp2
        go_loopw [6, 7] (fun v i wr => ∃ k : Nat, k ≤ f.size ∧ i = .int .i64 (k : Int) ∧ v = .string (comTo fs gs k) ∧ Hid (Below w.heap.size w wr)) (fun _ i _ => f.size - (intOf i).toNat)
        case atStart => exact ⟨0, Nat.zero_le _, rfl, rfl, Below.refl _ _⟩
        case round =>
          obtain ⟨k, hk, rfl, rfl, HB⟩ := hrel
          have hz1 := HB.out.size
          by_cases hlt : k < f.size
          · have e1 := HFB2.out k hlt
            have hltg : k < g.size := by have := HSZ2.out; omega
            have e2 := HGB2.out k hltg
            have hxl := HFL.out k
            have hyl := HGL.out k
            have HS := Lib.hid (comTo_succ fs gs k)
            have hps : (comTo fs gs k).size ≤ 30 := by rw [size_comTo]; omega
            have hqs : (word [comAt fs gs k]).size ≤ 1 := by rw [size_word]; simp
            have HSG := Lib.hid (fun w2 => drSign_any (comAt fs gs k) (comAt_lt fs gs k) w2)
            have e3 : (4 + ((gs.getD k 0 : Nat) : Int) - ((fs.getD k 0 : Nat) : Int)) % 4 = ((comAt fs gs k : Nat) : Int) := by unfold comAt; omega
            obtain ⟨x, hx⟩ : ∃ x, x = fs.getD k 0 := ⟨_, rfl⟩
            obtain ⟨y, hy⟩ : ∃ x, x = gs.getD k 0 := ⟨_, rfl⟩
            obtain ⟨p, hp⟩ : ∃ p, p = comTo fs gs k := ⟨_, rfl⟩
            obtain ⟨q, hq⟩ : ∃ q, q = word [comAt fs gs k] := ⟨_, rfl⟩
            obtain ⟨c, hc⟩ : ∃ q, q = comAt fs gs k := ⟨_, rfl⟩
            rw [← hx] at e1 hxl e3
            rw [← hy] at e2 hyl e3
            rw [← hp] at HS hps ⊢
            rw [← hq] at HS HSG hqs
            rw [← hc] at HSG e3
            clear hx hy hp hq hc
            go_wp2_with fail
            refine wp_region_inv (by kernel_rfl) (CbI wr f g p q k x y c) (by kernel_rfl) ?_ ?_ ?_
            · exact ⟨_, _, _, _, _, _, _, _, _, _, _, _, _, _, _, _, _, rfl, Lib.hid ⟨fun h => by simp at h, fun h => by simp at h, fun h => by simp at h, fun h => by simp at h, fun h => by simp at h, fun h => by simp at h, fun h => by simp at h, fun h => by simp at h, fun h => by simp at h, fun h => by simp at h, fun h => by simp at h, fun h => by simp at h, fun h => by simp at h, fun h => by simp at h, fun h => by simp at h, fun _ => rfl⟩, Lib.hid ⟨rfl, rfl, rfl, Nat.le_refl _, fun _ _ => rfl⟩⟩
            · intro i o l a w' ho hsz hl hdep hI
              obtain ⟨v6, u27, u28, v29, v30, v31, v32, v33, v34, v35, v36, v37, v38, v39, v40, v41, v42, rfl, HV, BL⟩ := hI
              have HSZ : Hid (l.size = 15) := Lib.hid hsz
              have HLF : Hid (l.getD i false = false) := Lib.hid (by rcases h : l.getD i false with _ | _; rfl; rw [getD_flip (by have hs := HSZ.out; have := (Array.getElem?_eq_some_iff.1 ho).1; simp at this; omega), h] at hl; cases hl)
              clear hsz hl
              match i, ho with
              | 0, ho =>
                obtain rfl := Option.some.inj ho
                obtain rfl := HV.out.g14 HLF.out
                clear hdep ho
                go_wp2
                exact ⟨_, u27, u28, _, v30, v31, v32, v33, v34, v35, v36, v37, v38, v39, v40, v41, v42, rfl, Lib.hid ⟨fun _ => by first | rfl | exact int_eq (by omega), fun h => HV.out.f1 (ung (by decide) h), fun h => HV.out.f2 (ung (by decide) h), fun h => HV.out.f3 (ung (by decide) h), fun h => HV.out.f4 (ung (by decide) h), fun h => HV.out.f5 (ung (by decide) h), fun h => HV.out.f6 (ung (by decide) h), fun h => HV.out.f7 (ung (by decide) h), fun h => HV.out.f8 (ung (by decide) h), fun h => HV.out.f9 (ung (by decide) h), fun h => HV.out.f10 (ung (by decide) h), fun h => HV.out.f11 (ung (by decide) h), fun h => HV.out.f12 (ung (by decide) h), fun h => HV.out.f13 (ung (by decide) h), fun h => HV.out.f14 (ung (by decide) h), fun h => absurd h (by rw [got_same (by have := HSZ.out; omega)]; simp)⟩, BL⟩
              | 1, ho =>
                obtain rfl := Option.some.inj ho
                clear hdep ho
                go_wp2
                exact ⟨v6, u27, u28, v29, _, v31, v32, v33, v34, v35, v36, v37, v38, v39, v40, v41, v42, rfl, Lib.hid ⟨fun h => HV.out.f0 (ung (by decide) h), fun _ => by first | rfl | exact int_eq (by omega), fun h => HV.out.f2 (ung (by decide) h), fun h => HV.out.f3 (ung (by decide) h), fun h => HV.out.f4 (ung (by decide) h), fun h => HV.out.f5 (ung (by decide) h), fun h => HV.out.f6 (ung (by decide) h), fun h => HV.out.f7 (ung (by decide) h), fun h => HV.out.f8 (ung (by decide) h), fun h => HV.out.f9 (ung (by decide) h), fun h => HV.out.f10 (ung (by decide) h), fun h => HV.out.f11 (ung (by decide) h), fun h => HV.out.f12 (ung (by decide) h), fun h => HV.out.f13 (ung (by decide) h), fun h => HV.out.f14 (ung (by decide) h), fun h => HV.out.g14 (by rwa [got (by decide)] at h)⟩, BL⟩
              | 2, ho =>
                obtain rfl := Option.some.inj ho
                clear hdep ho
                go_wp2
                exact ⟨v6, u27, u28, v29, v30, _, v32, v33, v34, v35, v36, v37, v38, v39, v40, v41, v42, rfl, Lib.hid ⟨fun h => HV.out.f0 (ung (by decide) h), fun h => HV.out.f1 (ung (by decide) h), fun _ => by first | rfl | exact int_eq (by omega), fun h => HV.out.f3 (ung (by decide) h), fun h => HV.out.f4 (ung (by decide) h), fun h => HV.out.f5 (ung (by decide) h), fun h => HV.out.f6 (ung (by decide) h), fun h => HV.out.f7 (ung (by decide) h), fun h => HV.out.f8 (ung (by decide) h), fun h => HV.out.f9 (ung (by decide) h), fun h => HV.out.f10 (ung (by decide) h), fun h => HV.out.f11 (ung (by decide) h), fun h => HV.out.f12 (ung (by decide) h), fun h => HV.out.f13 (ung (by decide) h), fun h => HV.out.f14 (ung (by decide) h), fun h => HV.out.g14 (by rwa [got (by decide)] at h)⟩, BL⟩
              | 3, ho =>
                obtain rfl := Option.some.inj ho
                obtain rfl := HV.out.f1 (hdep ⟨1, .data⟩ (by simp) rfl)
                obtain rfl := HV.out.f2 (hdep ⟨2, .data⟩ (by simp) rfl)
                clear hdep ho
                go_wp2
                exact ⟨v6, u27, u28, v29, _, _, _, v33, v34, v35, v36, v37, v38, v39, v40, v41, v42, rfl, Lib.hid ⟨fun h => HV.out.f0 (ung (by decide) h), fun h => HV.out.f1 (ung (by decide) h), fun h => HV.out.f2 (ung (by decide) h), fun _ => by first | rfl | (rw [e2]), fun h => HV.out.f4 (ung (by decide) h), fun h => HV.out.f5 (ung (by decide) h), fun h => HV.out.f6 (ung (by decide) h), fun h => HV.out.f7 (ung (by decide) h), fun h => HV.out.f8 (ung (by decide) h), fun h => HV.out.f9 (ung (by decide) h), fun h => HV.out.f10 (ung (by decide) h), fun h => HV.out.f11 (ung (by decide) h), fun h => HV.out.f12 (ung (by decide) h), fun h => HV.out.f13 (ung (by decide) h), fun h => HV.out.f14 (ung (by decide) h), fun h => HV.out.g14 (by rwa [got (by decide)] at h)⟩, BL⟩
              | 4, ho =>
                obtain rfl := Option.some.inj ho
                obtain rfl := HV.out.f3 (hdep ⟨3, .data⟩ (by simp) rfl)
                clear hdep ho
                go_wp2
                exact ⟨v6, u27, u28, v29, v30, v31, _, _, v34, v35, v36, v37, v38, v39, v40, v41, v42, rfl, Lib.hid ⟨fun h => HV.out.f0 (ung (by decide) h), fun h => HV.out.f1 (ung (by decide) h), fun h => HV.out.f2 (ung (by decide) h), fun h => HV.out.f3 (ung (by decide) h), fun _ => by first | rfl | exact int_eq (by omega), fun h => HV.out.f5 (ung (by decide) h), fun h => HV.out.f6 (ung (by decide) h), fun h => HV.out.f7 (ung (by decide) h), fun h => HV.out.f8 (ung (by decide) h), fun h => HV.out.f9 (ung (by decide) h), fun h => HV.out.f10 (ung (by decide) h), fun h => HV.out.f11 (ung (by decide) h), fun h => HV.out.f12 (ung (by decide) h), fun h => HV.out.f13 (ung (by decide) h), fun h => HV.out.f14 (ung (by decide) h), fun h => HV.out.g14 (by rwa [got (by decide)] at h)⟩, BL⟩
              | 5, ho =>
                obtain rfl := Option.some.inj ho
                obtain rfl := HV.out.f4 (hdep ⟨4, .data⟩ (by simp) rfl)
                clear hdep ho
                go_wp2
                exact ⟨v6, u27, u28, v29, v30, v31, v32, _, _, v35, v36, v37, v38, v39, v40, v41, v42, rfl, Lib.hid ⟨fun h => HV.out.f0 (ung (by decide) h), fun h => HV.out.f1 (ung (by decide) h), fun h => HV.out.f2 (ung (by decide) h), fun h => HV.out.f3 (ung (by decide) h), fun h => HV.out.f4 (ung (by decide) h), fun _ => by first | rfl | exact int_eq (by omega), fun h => HV.out.f6 (ung (by decide) h), fun h => HV.out.f7 (ung (by decide) h), fun h => HV.out.f8 (ung (by decide) h), fun h => HV.out.f9 (ung (by decide) h), fun h => HV.out.f10 (ung (by decide) h), fun h => HV.out.f11 (ung (by decide) h), fun h => HV.out.f12 (ung (by decide) h), fun h => HV.out.f13 (ung (by decide) h), fun h => HV.out.f14 (ung (by decide) h), fun h => HV.out.g14 (by rwa [got (by decide)] at h)⟩, BL⟩
              | 6, ho =>
                obtain rfl := Option.some.inj ho
                clear hdep ho
                go_wp2
                exact ⟨v6, u27, u28, v29, v30, v31, v32, v33, v34, _, v36, v37, v38, v39, v40, v41, v42, rfl, Lib.hid ⟨fun h => HV.out.f0 (ung (by decide) h), fun h => HV.out.f1 (ung (by decide) h), fun h => HV.out.f2 (ung (by decide) h), fun h => HV.out.f3 (ung (by decide) h), fun h => HV.out.f4 (ung (by decide) h), fun h => HV.out.f5 (ung (by decide) h), fun _ => by first | rfl | exact int_eq (by omega), fun h => HV.out.f7 (ung (by decide) h), fun h => HV.out.f8 (ung (by decide) h), fun h => HV.out.f9 (ung (by decide) h), fun h => HV.out.f10 (ung (by decide) h), fun h => HV.out.f11 (ung (by decide) h), fun h => HV.out.f12 (ung (by decide) h), fun h => HV.out.f13 (ung (by decide) h), fun h => HV.out.f14 (ung (by decide) h), fun h => HV.out.g14 (by rwa [got (by decide)] at h)⟩, BL⟩
              | 7, ho =>
                obtain rfl := Option.some.inj ho
                clear hdep ho
                go_wp2
                exact ⟨v6, u27, u28, v29, v30, v31, v32, v33, v34, v35, _, v37, v38, v39, v40, v41, v42, rfl, Lib.hid ⟨fun h => HV.out.f0 (ung (by decide) h), fun h => HV.out.f1 (ung (by decide) h), fun h => HV.out.f2 (ung (by decide) h), fun h => HV.out.f3 (ung (by decide) h), fun h => HV.out.f4 (ung (by decide) h), fun h => HV.out.f5 (ung (by decide) h), fun h => HV.out.f6 (ung (by decide) h), fun _ => by first | rfl | exact int_eq (by omega), fun h => HV.out.f8 (ung (by decide) h), fun h => HV.out.f9 (ung (by decide) h), fun h => HV.out.f10 (ung (by decide) h), fun h => HV.out.f11 (ung (by decide) h), fun h => HV.out.f12 (ung (by decide) h), fun h => HV.out.f13 (ung (by decide) h), fun h => HV.out.f14 (ung (by decide) h), fun h => HV.out.g14 (by rwa [got (by decide)] at h)⟩, BL⟩
              | 8, ho =>
                obtain rfl := Option.some.inj ho
                obtain rfl := HV.out.f6 (hdep ⟨6, .data⟩ (by simp) rfl)
                obtain rfl := HV.out.f7 (hdep ⟨7, .data⟩ (by simp) rfl)
                clear hdep ho
                go_wp2
                exact ⟨v6, u27, u28, v29, v30, v31, v32, v33, v34, _, _, _, v38, v39, v40, v41, v42, rfl, Lib.hid ⟨fun h => HV.out.f0 (ung (by decide) h), fun h => HV.out.f1 (ung (by decide) h), fun h => HV.out.f2 (ung (by decide) h), fun h => HV.out.f3 (ung (by decide) h), fun h => HV.out.f4 (ung (by decide) h), fun h => HV.out.f5 (ung (by decide) h), fun h => HV.out.f6 (ung (by decide) h), fun h => HV.out.f7 (ung (by decide) h), fun _ => by first | rfl | (rw [e1]), fun h => HV.out.f9 (ung (by decide) h), fun h => HV.out.f10 (ung (by decide) h), fun h => HV.out.f11 (ung (by decide) h), fun h => HV.out.f12 (ung (by decide) h), fun h => HV.out.f13 (ung (by decide) h), fun h => HV.out.f14 (ung (by decide) h), fun h => HV.out.g14 (by rwa [got (by decide)] at h)⟩, BL⟩
              | 9, ho =>
                obtain rfl := Option.some.inj ho
                obtain rfl := HV.out.f8 (hdep ⟨8, .data⟩ (by simp) rfl)
                clear hdep ho
                go_wp2
                exact ⟨v6, u27, u28, v29, v30, v31, v32, v33, v34, v35, v36, _, _, v39, v40, v41, v42, rfl, Lib.hid ⟨fun h => HV.out.f0 (ung (by decide) h), fun h => HV.out.f1 (ung (by decide) h), fun h => HV.out.f2 (ung (by decide) h), fun h => HV.out.f3 (ung (by decide) h), fun h => HV.out.f4 (ung (by decide) h), fun h => HV.out.f5 (ung (by decide) h), fun h => HV.out.f6 (ung (by decide) h), fun h => HV.out.f7 (ung (by decide) h), fun h => HV.out.f8 (ung (by decide) h), fun _ => by first | rfl | exact int_eq (by omega), fun h => HV.out.f10 (ung (by decide) h), fun h => HV.out.f11 (ung (by decide) h), fun h => HV.out.f12 (ung (by decide) h), fun h => HV.out.f13 (ung (by decide) h), fun h => HV.out.f14 (ung (by decide) h), fun h => HV.out.g14 (by rwa [got (by decide)] at h)⟩, BL⟩
              | 10, ho =>
                obtain rfl := Option.some.inj ho
                obtain rfl := HV.out.f5 (hdep ⟨5, .data⟩ (by simp) rfl)
                obtain rfl := HV.out.f9 (hdep ⟨9, .data⟩ (by simp) rfl)
                clear hdep ho
                go_wp2
                exact ⟨v6, u27, u28, v29, v30, v31, v32, v33, _, v35, v36, v37, _, _, v40, v41, v42, rfl, Lib.hid ⟨fun h => HV.out.f0 (ung (by decide) h), fun h => HV.out.f1 (ung (by decide) h), fun h => HV.out.f2 (ung (by decide) h), fun h => HV.out.f3 (ung (by decide) h), fun h => HV.out.f4 (ung (by decide) h), fun h => HV.out.f5 (ung (by decide) h), fun h => HV.out.f6 (ung (by decide) h), fun h => HV.out.f7 (ung (by decide) h), fun h => HV.out.f8 (ung (by decide) h), fun h => HV.out.f9 (ung (by decide) h), fun _ => by first | rfl | exact int_eq (by omega), fun h => HV.out.f11 (ung (by decide) h), fun h => HV.out.f12 (ung (by decide) h), fun h => HV.out.f13 (ung (by decide) h), fun h => HV.out.f14 (ung (by decide) h), fun h => HV.out.g14 (by rwa [got (by decide)] at h)⟩, BL⟩
              | 11, ho =>
                obtain rfl := Option.some.inj ho
                obtain rfl := HV.out.f10 (hdep ⟨10, .data⟩ (by simp) rfl)
                clear hdep ho
                go_wp2
                exact ⟨v6, u27, u28, v29, v30, v31, v32, v33, v34, v35, v36, v37, v38, _, _, v41, v42, rfl, Lib.hid ⟨fun h => HV.out.f0 (ung (by decide) h), fun h => HV.out.f1 (ung (by decide) h), fun h => HV.out.f2 (ung (by decide) h), fun h => HV.out.f3 (ung (by decide) h), fun h => HV.out.f4 (ung (by decide) h), fun h => HV.out.f5 (ung (by decide) h), fun h => HV.out.f6 (ung (by decide) h), fun h => HV.out.f7 (ung (by decide) h), fun h => HV.out.f8 (ung (by decide) h), fun h => HV.out.f9 (ung (by decide) h), fun h => HV.out.f10 (ung (by decide) h), fun _ => by first | rfl | exact int_eq e3, fun h => HV.out.f12 (ung (by decide) h), fun h => HV.out.f13 (ung (by decide) h), fun h => HV.out.f14 (ung (by decide) h), fun h => HV.out.g14 (by rwa [got (by decide)] at h)⟩, BL⟩
              | 12, ho =>
                obtain rfl := Option.some.inj ho
                obtain rfl := HV.out.f11 (hdep ⟨11, .data⟩ (by simp) rfl)
                clear hdep ho
                go_wp2_with fail
                go_at_call 60
                refine (HSG.out _).mono ?_
                rintro e w2 ⟨rfl, rfl⟩
                go_wp2
                exact ⟨v6, u27, u28, v29, v30, v31, v32, v33, v34, v35, v36, v37, v38, v39, _, _, v42, rfl, Lib.hid ⟨fun h => HV.out.f0 (ung (by decide) h), fun h => HV.out.f1 (ung (by decide) h), fun h => HV.out.f2 (ung (by decide) h), fun h => HV.out.f3 (ung (by decide) h), fun h => HV.out.f4 (ung (by decide) h), fun h => HV.out.f5 (ung (by decide) h), fun h => HV.out.f6 (ung (by decide) h), fun h => HV.out.f7 (ung (by decide) h), fun h => HV.out.f8 (ung (by decide) h), fun h => HV.out.f9 (ung (by decide) h), fun h => HV.out.f10 (ung (by decide) h), fun h => HV.out.f11 (ung (by decide) h), fun _ => by first | rfl | exact int_eq (by omega), fun h => HV.out.f13 (ung (by decide) h), fun h => HV.out.f14 (ung (by decide) h), fun h => HV.out.g14 (by rwa [got (by decide)] at h)⟩, BL⟩
              | 13, ho =>
                obtain rfl := Option.some.inj ho
                obtain rfl := HV.out.f0 (hdep ⟨0, .data⟩ (by simp) rfl)
                obtain rfl := HV.out.f12 (hdep ⟨12, .data⟩ (by simp) rfl)
                clear hdep ho
                go_wp2
                exact ⟨v6, u27, u28, _, v30, v31, v32, v33, v34, v35, v36, v37, v38, v39, v40, _, _, rfl, Lib.hid ⟨fun h => HV.out.f0 (ung (by decide) h), fun h => HV.out.f1 (ung (by decide) h), fun h => HV.out.f2 (ung (by decide) h), fun h => HV.out.f3 (ung (by decide) h), fun h => HV.out.f4 (ung (by decide) h), fun h => HV.out.f5 (ung (by decide) h), fun h => HV.out.f6 (ung (by decide) h), fun h => HV.out.f7 (ung (by decide) h), fun h => HV.out.f8 (ung (by decide) h), fun h => HV.out.f9 (ung (by decide) h), fun h => HV.out.f10 (ung (by decide) h), fun h => HV.out.f11 (ung (by decide) h), fun h => HV.out.f12 (ung (by decide) h), fun _ => by first | rfl | exact int_eq (by omega), fun h => HV.out.f14 (ung (by decide) h), fun h => HV.out.g14 (by rwa [got (by decide)] at h)⟩, BL⟩
              | 14, ho =>
                obtain rfl := Option.some.inj ho
                obtain rfl := HV.out.f13 (hdep ⟨13, .data⟩ (by simp) rfl)
                have HJ : Hid (l.getD 0 false = true) := Lib.hid (hdep ⟨0, .phase⟩ (by simp) rfl)
                clear hdep ho
                go_wp2
                exact ⟨_, u27, u28, v29, v30, v31, v32, v33, v34, v35, v36, v37, v38, v39, v40, v41, _, rfl, Lib.hid ⟨fun h => HV.out.f0 (ung (by decide) h), fun h => HV.out.f1 (ung (by decide) h), fun h => HV.out.f2 (ung (by decide) h), fun h => HV.out.f3 (ung (by decide) h), fun h => HV.out.f4 (ung (by decide) h), fun h => HV.out.f5 (ung (by decide) h), fun h => HV.out.f6 (ung (by decide) h), fun h => HV.out.f7 (ung (by decide) h), fun h => HV.out.f8 (ung (by decide) h), fun h => HV.out.f9 (ung (by decide) h), fun h => HV.out.f10 (ung (by decide) h), fun h => HV.out.f11 (ung (by decide) h), fun h => HV.out.f12 (ung (by decide) h), fun h => HV.out.f13 (ung (by decide) h), fun _ => by first | rfl | exact int_eq (by omega), fun h => absurd h (by rw [got (by decide), HJ.out]; simp)⟩, BL⟩
              | i + 15, ho => simp at ho
            · intro l a w2 hall hI
              obtain ⟨v6, u27, u28, v29, v30, v31, v32, v33, v34, v35, v36, v37, v38, v39, v40, v41, v42, rfl, HV, BL⟩ := hI
              obtain rfl := HV.out.f0 (hall 0 (by decide))
              obtain rfl := HV.out.f1 (hall 1 (by decide))
              obtain rfl := HV.out.f2 (hall 2 (by decide))
              obtain rfl := HV.out.f3 (hall 3 (by decide))
              obtain rfl := HV.out.f4 (hall 4 (by decide))
              obtain rfl := HV.out.f5 (hall 5 (by decide))
              obtain rfl := HV.out.f6 (hall 6 (by decide))
              obtain rfl := HV.out.f7 (hall 7 (by decide))
              obtain rfl := HV.out.f8 (hall 8 (by decide))
              obtain rfl := HV.out.f9 (hall 9 (by decide))
              obtain rfl := HV.out.f10 (hall 10 (by decide))
              obtain rfl := HV.out.f11 (hall 11 (by decide))
              obtain rfl := HV.out.f12 (hall 12 (by decide))
              obtain rfl := HV.out.f13 (hall 13 (by decide))
              obtain rfl := HV.out.f14 (hall 14 (by decide))
              clear hall HV
              have HB5 : Hid (Below w.heap.size w w2) := Lib.hid (HB.out.trans (BL.out.mono hz1))
              go_wp2
              go_roundw
              case rel => exact ⟨k + 1, by omega, by go_num, by rw [HS.out], HB5⟩
              case measure => simp [intOf]; omega
          · obtain rfl : k = f.size := by omega
            go_wp2
            go_ret2
            exact ⟨by rw [H0.out.1, H0.out.2]; exact rfl, HB.out⟩
      · have H0 : Hid (outCommandsBetween_0 (face fs) (face gs) = ByteArray.empty ∧ outCommandsBetween_1 (face fs) (face gs) = false) := Lib.hid (by unfold outCommandsBetween_0 outCommandsBetween_1 betwB; rw [hb0, hb1, decide_eq_false hsz]; exact ⟨rfl, rfl⟩)
        obtain ⟨g, hg⟩ : ∃ g, g = face gs := ⟨_, rfl⟩
        obtain ⟨f, hf⟩ : ∃ g, g = face fs := ⟨_, rfl⟩
        rw [← hg] at H0 HG10 hsz ⊢
        rw [← hf] at H0 HG00 hsz ⊢
        have hne : (f.size != g.size) = true := by rw [bne_iff_ne]; exact hsz
        have hne2 : ((f.size : Int) != (g.size : Int)) = true := by rw [bne_iff_ne]; omega
        clear hb0 hb1 hg hf h3 h6 hsz
        go_enter Tryd.func30, Tryd.ntmps30
        go_wp2_with fail
        go_at_call 55
        refine HG00.out.mono ?_
        rintro e w' ⟨rfl, rfl⟩
        go_wp2_with fail
        go_at_call 55
        refine HG10.out.mono ?_
        rintro e w' ⟨rfl, rfl⟩
        go_wp2
        go_ret2
        exact ⟨by rw [H0.out.1, H0.out.2]; exact rfl, Below.refl _ _⟩

theorem pow_cnt : ∀ d : Nat, d ≤ 23 → wrap64 ((2 : Int) ^ (2 * d)) = ((4 ^ d : Nat) : Int) := by decide +kernel
theorem inB_yes' {n lo hi : Int} (h : inB n lo hi = true) : lo ≤ n ∧ n ≤ hi := by unfold inB at h; simpa using h
set_option maxRecDepth 20000 in
set_option maxHeartbeats 1000000 in
theorem specCountCommandWords_any (w : World) (n : Int) (t : Int) (_wn : (Lit.int .i64 n).wf = true) (_wt : (Lit.int .i64 t).wf = true) :
    Calls Tryd.prog 28 #[.int .i64 n, .int .i64 t] w fun e w' => e = .returned (.tuple #[.int .i64 (outCountCommandWords_0 n t), .bool (outCountCommandWords_1 n t)]) ∧ Below w.heap.size w w' := by
  have HG00 := Lib.hid (l1In_any n 0 24 w)
  have HG10 := Lib.hid (l1In_any t 0 3 w)
  clear _wn _wt
  rcases hb0 : inB n 0 24 with _ | _
  · have H0 : Hid (outCountCommandWords_0 n t = 0 ∧ outCountCommandWords_1 n t = false) := Lib.hid (by unfold outCountCommandWords_0 outCountCommandWords_1 cntB; rw [hb0]; exact ⟨rfl, rfl⟩)
    rw [hb0] at HG00
    clear hb0
    go_enter Tryd.func28, Tryd.ntmps28
    go_wp2_with (go_at_call 69; refine HG00.out.mono ?_; rintro e w' ⟨rfl, rfl⟩)
    go_ret2
    exact ⟨by rw [H0.out.1, H0.out.2]; exact rfl, Below.refl _ _⟩
  · rcases hb1 : inB t 0 3 with _ | _
    · have H0 : Hid (outCountCommandWords_0 n t = 0 ∧ outCountCommandWords_1 n t = false) := Lib.hid (by unfold outCountCommandWords_0 outCountCommandWords_1 cntB; rw [hb0, hb1]; exact ⟨rfl, rfl⟩)
      rw [hb0] at HG00
      rw [hb1] at HG10
      clear hb0 hb1
      go_enter Tryd.func28, Tryd.ntmps28
      go_wp2_with fail
      go_at_call 69
      refine HG00.out.mono ?_
      rintro e w' ⟨rfl, rfl⟩
      go_wp2_with fail
      go_at_call 69
      refine HG10.out.mono ?_
      rintro e w' ⟨rfl, rfl⟩
      go_wp2
      go_ret2
      exact ⟨by rw [H0.out.1, H0.out.2]; exact rfl, Below.refl _ _⟩
    · have h1 := inB_yes' hb0
      have h2 := inB_yes' hb1
      obtain ⟨h1a, h1b⟩ := h1
      obtain ⟨h2a, h2b⟩ := h2
      rw [hb0] at HG00
      rw [hb1] at HG10
      obtain ⟨m, rfl⟩ : ∃ m : Nat, n = (m : Int) := ⟨n.toNat, by omega⟩
      have H0 : Hid (outCountCommandWords_0 m t = (if (m : Int) = 0 then (if t = 0 then 1 else 0) else ((4 ^ (m - 1) : Nat) : Int)) ∧ outCountCommandWords_1 m t = true) := Lib.hid (by unfold outCountCommandWords_0 outCountCommandWords_1 cntB; rw [hb0, hb1]; exact ⟨rfl, rfl⟩)
      have hm : m ≤ 24 := by omega
      clear hb0 hb1
      by_cases hm0 : m = 0
      · subst hm0
        by_cases ht0 : t = 0
        · subst ht0
          go_enter Tryd.func28, Tryd.ntmps28
          go_wp2_with fail
          go_at_call 69
          refine HG00.out.mono ?_
          rintro e w' ⟨rfl, rfl⟩
          go_wp2_with fail
          go_at_call 69
          refine HG10.out.mono ?_
          rintro e w' ⟨rfl, rfl⟩
          go_wp2
          go_ret2
          exact ⟨by rw [H0.out.1, H0.out.2]; exact rfl, Below.refl _ _⟩
        · have hb : (t == 0) = false := by rw [beq_eq_false_iff_ne]; exact ht0
          have HT := Lib.hid ht0
          clear ht0
          go_enter Tryd.func28, Tryd.ntmps28
          go_wp2_with fail
          go_at_call 69
          refine HG00.out.mono ?_
          rintro e w' ⟨rfl, rfl⟩
          go_wp2_with fail
          go_at_call 69
          refine HG10.out.mono ?_
          rintro e w' ⟨rfl, rfl⟩
          go_wp2
          go_ret2
          exact ⟨by rw [H0.out.1, H0.out.2, if_pos (by rfl), if_neg HT.out]; exact rfl, Below.refl _ _⟩
      · have hb : ((m : Int) == 0) = false := by rw [beq_eq_false_iff_ne]; omega
        obtain ⟨d, hd⟩ : ∃ d, m = d + 1 := ⟨m - 1, by omega⟩
        subst hd
        have HT : Hid (¬ ((d + 1 : Nat) : Int) = 0) := Lib.hid (by omega)
        have hd23 : d ≤ 23 := by omega
        clear hm0
        go_enter Tryd.func28, Tryd.ntmps28
        go_wp2_with fail
        go_at_call 69
        refine HG00.out.mono ?_
        rintro e w' ⟨rfl, rfl⟩
        go_wp2_with fail
        go_at_call 69
        refine HG10.out.mono ?_
        rintro e w' ⟨rfl, rfl⟩
        go_wp2
        go_ret2
        exact ⟨by rw [H0.out.1, H0.out.2, if_neg HT.out, Nat.add_sub_cancel, ← pow_cnt d hd23]; exact rfl, Below.refl _ _⟩

end Go.Proofs.YtjbomclildkjaaaDoor
