/- Chapter 4, the program: CommandsBetween. -/
import Derived.Test.YtjbomclildkjaaaDoorIc
import Derived.Test.YtjbomclildkjaaaDoorDrD
import Derived.Test.YtjbomclildkjaaaDoorIe
import Derived.Test.YtjbomclildkjaaaDoorUp
import Derived.StillTailTactics
namespace Go.Proofs.YtjbomclildkjaaaDoor
open Go.ChangeShapes Go.WideShapes Go.ChangeAt Go.RowKit
open Dr

theorem made_ownR {w w1 : World} {B n : Nat} (h : w1.ownsRow B 21 1 (.slice (some ⟨w.heap.size, 0, none⟩) n n) n (madeCells #[.int .i32 0] (n * 1)).toList) :
    OwnR w1 B (.slice (some ⟨w.heap.size, 0, none⟩) n n) (List.replicate n 0) := by
  unfold OwnR
  rw [List.length_replicate]
  rw [Nat.mul_one, toList_madeCells_one] at h
  rw [List.map_replicate]; exact h
def comL (fs gs : List Nat) (n k : Nat) : List Int := fillTo (fun i => sgZ (comAt fs gs i)) n k
theorem length_comL (fs gs : List Nat) (n k : Nat) (hk : k ≤ n) : (comL fs gs n k).length = n := length_fillTo _ _ _ hk
theorem comL_succ (fs gs : List Nat) (n k : Nat) (hk : k < n) : (comL fs gs n k).set k (sgZ (comAt fs gs k)) = comL fs gs n (k + 1) := fillTo_succ (fun i => sgZ (comAt fs gs i)) n k hk
theorem comL_all (fs gs : List Nat) (n : Nat) : comL fs gs n n = ((List.range n).map (comAt fs gs)).map sgZ := by
  unfold comL
  rw [fillTo_all]
  unfold upTo
  rw [List.map_map]
  rfl
theorem betw_no {f g : ByteArray} (h : (faceB f && (faceB g && decide (f.size = g.size))) = false) : outCommandsBetween_0 f g = ByteArray.empty ∧ outCommandsBetween_1 f g = false := by
  unfold outCommandsBetween_0 outCommandsBetween_1 betwB
  refine ⟨?_, h⟩
  cases h1 : faceB f with
  | false => rfl
  | true =>
    cases h2 : faceB g with
    | false => rfl
    | true =>
      rw [h1, h2] at h
      simp only [Bool.true_and] at h
      rw [h]
      rfl
set_option maxRecDepth 20000 in
set_option maxHeartbeats 1000000 in
theorem implCommandsBetween_any (w : World) (f g : ByteArray) (_wf : f.size ≤ maxLen) (_wg : g.size ≤ maxLen) (hlf : f.size ≤ 1048576) (hlg : g.size ≤ 1048576) (hT : Tab_signOfTurn w) :
    Calls Tryd.prog 25 #[.string f, .string g] w fun e w' => e = .returned (.tuple #[.string (outCommandsBetween_0 f g), .bool (outCommandsBetween_1 f g)]) ∧ Below w.heap.size w w' := by
  have HF := Lib.hid (areFacing_any f w hlf)
  have HG := Lib.hid (areFacing_any g w hlg)
  clear _wf _wg
  rcases hb0 : faceB f with _ | _
  · have H0 := Lib.hid (betw_no (f := f) (g := g) (by rw [hb0]; rfl))
    rw [hb0] at HF
    clear hb0 hT
    go_enter Tryd.func25, Tryd.ntmps25
    go_wp2_with (go_at_call 23; refine HF.out.mono ?_; rintro e w' ⟨rfl, rfl⟩)
    go_ret2
    exact ⟨by rw [H0.out.1, H0.out.2]; exact rfl, Below.refl _ _⟩
  · rcases hb1 : faceB g with _ | _
    · have H0 := Lib.hid (betw_no (f := f) (g := g) (by rw [hb0, hb1]; rfl))
      rw [hb0] at HF
      rw [hb1] at HG
      clear hb0 hb1 hT
      go_enter Tryd.func25, Tryd.ntmps25
      go_wp2_with fail
      go_at_call 23
      refine HF.out.mono ?_
      rintro e w' ⟨rfl, rfl⟩
      go_wp2_with fail
      go_at_call 23
      refine HG.out.mono ?_
      rintro e w' ⟨rfl, rfl⟩
      go_wp2
      go_ret2
      exact ⟨by rw [H0.out.1, H0.out.2]; exact rfl, Below.refl _ _⟩
    · by_cases hsz : f.size = g.size
      · obtain ⟨fs, rfl, h1, h2, h3⟩ := face_of hb0
        obtain ⟨gs, rfl, h4, h5, h6⟩ := face_of hb1
        have H0 : Hid (outCommandsBetween_0 (face fs) (face gs) = comTo fs gs (face fs).size ∧ outCommandsBetween_1 (face fs) (face gs) = true) := Lib.hid (by
          unfold outCommandsBetween_0 outCommandsBetween_1 betwB
          rw [hb0, hb1, decide_eq_true hsz, fsOf_face h3, fsOf_face h6]
          exact ⟨rfl, rfl⟩)
        rw [hb0] at HF
        rw [hb1] at HG
        have HFB := Lib.hid (face_byte fs h3)
        have HGB := Lib.hid (face_byte gs h6)
        have HFL := Lib.hid (getD_lt h3 (by omega))
        have HGL := Lib.hid (getD_lt h6 (by omega))
        have hz : (face fs).size ≤ 30 := by rw [size_face]; exact h2
        obtain ⟨f, hf⟩ : ∃ x, x = face fs := ⟨_, rfl⟩
        obtain ⟨g, hg⟩ : ∃ x, x = face gs := ⟨_, rfl⟩
        rw [← hf] at H0 HF hz hsz hlf ⊢
        rw [← hg] at H0 HG hsz ⊢
        have HFB2 : Hid (∀ k, (hk : k < f.size) → ((f[k]).toNat : Int) = 48 + ((fs.getD k 0 : Nat) : Int)) := Lib.hid (by subst hf; exact HFB.out)
        have HGB2 : Hid (∀ k, (hk : k < g.size) → ((g[k]).toNat : Int) = 48 + ((gs.getD k 0 : Nat) : Int)) := Lib.hid (by subst hg; exact HGB.out)
        obtain ⟨n, hn⟩ : ∃ n, n = f.size := ⟨_, rfl⟩
        have hn2 : g.size = n := by omega
        have hn1 : f.size = n := hn.symm
        have hn30 : n ≤ 30 := by omega
        have HN := Lib.hid hn1
        have HX : Hid (runesBytes (comL fs gs n n) = comTo fs gs f.size) := Lib.hid (by rw [comL_all, runes_word, hn1]; rfl)
        have HT := Lib.hid (fun w2 (hb : Below w.heap.size w w2) => hT.below hb)
        have eb : (n : Int) == (n : Int) := by simp
        obtain ⟨i0, hi, hz0, hz1, hz2⟩ := info_parts Tryd.info_int32
        clear hb0 hb1 hT h1 h2 h3 h4 h5 h6 hf hg HFB HGB hn hsz hlf hlg hz eb
        go_enter Tryd.func25, Tryd.ntmps25
        go_wp2_with fail
        go_at_call 23
        refine HF.out.mono ?_
        rintro e w' ⟨rfl, rfl⟩
        go_wp2_with fail
        go_at_call 23
        refine HG.out.mono ?_
        rintro e w' ⟨rfl, rfl⟩
        go_wp2_with (at_make; refine wpList_make_full _ rfl _ _ 70 rfl w.heap.size 21 i0 (.int .i32 0) 1 Tryd.underlying70 hi hz0 hz1 .i64 .i64 _ _ n rfl rfl rfl rfl (by rw [hz2]; omega) (by unfold maxLen; omega) (Nat.le_refl _) ?_; intro w1 hown hgrow)
        have HO0 : Hid (OwnR w1 w.heap.size (.slice (some ⟨w.heap.size, 0, none⟩) n n) (comL fs gs n 0)) := Lib.hid (by
          unfold comL
          rw [fillTo_zero]
          exact made_ownR hown)
        have HB0 := Lib.hid (below_made hgrow)
        clear hown hgrow
        go_loopw [28] (fun i wr => ∃ k : Nat, k ≤ n ∧ i = .int .i64 (k : Int) ∧ Hid (OwnR wr w.heap.size (.slice (some ⟨w.heap.size, 0, none⟩) n n) (comL fs gs n k)) ∧ Hid (Below w.heap.size w wr)) (fun i _ => n - (intOf i).toNat)
        case atStart => exact ⟨0, Nat.zero_le _, rfl, HO0, HB0⟩
        case round =>
          obtain ⟨k, hk, rfl, HO, HB⟩ := hrel
          by_cases hlt : k < n
          · have hkf : k < f.size := by omega
            have hkg : k < g.size := by omega
            obtain ⟨hb0, hb1⟩ := byte_bd f[k]
            obtain ⟨hb2, hb3⟩ := byte_bd g[k]
            have HW1 := Lib.hid (fun w2 => wayOf_any (f[k].toNat : Int) w2 hb0 hb1)
            have HW2 := Lib.hid (fun w2 => wayOf_any (g[k].toNat : Int) w2 hb2 hb3)
            have e1 := HFB2.out k hkf
            have e2 := HGB2.out k hkg
            have hx := HFL.out k
            have hy := HGL.out k
            have HS := Lib.hid (comL_succ fs gs n k hlt)
            have hcl := comAt_lt fs gs k
            have hcom : comAt fs gs k = (4 + gs.getD k 0 - fs.getD k 0) % 4 := rfl
            obtain ⟨x, hxx⟩ : ∃ x, x = fs.getD k 0 := ⟨_, rfl⟩
            obtain ⟨y, hyy⟩ : ∃ x, x = gs.getD k 0 := ⟨_, rfl⟩
            obtain ⟨c, hcc⟩ : ∃ x, x = comAt fs gs k := ⟨_, rfl⟩
            rw [← hxx] at e1 hx hcom
            rw [← hyy] at e2 hy hcom
            rw [← hcc] at HS hcl hcom
            rw [e1, show 48 + (x : Int) - 48 = (x : Int) from by omega] at HW1
            rw [e2, show 48 + (y : Int) - 48 = (y : Int) from by omega] at HW2
            have HTB := Lib.hid (fun w2 => by
              have h := turnBetween_any (x : Int) (y : Int) w2 (by omega) (by omega) (by omega)
              rw [show ((y : Int) - (x : Int) + 4) % 4 = ((c : Nat) : Int) from by omega] at h
              exact h)
            have hcell := (HT.out wr HB.out).sign c hcl
            obtain ⟨z, hz⟩ : ∃ z, z = sgZ c := ⟨_, rfl⟩
            rw [← hz] at hcell HS
            have hll := length_comL fs gs n k (by omega)
            have e3 := HO.out.cell (by omega) k (by omega)
            have f3 := HO.out.free (by omega) k
            obtain ⟨old, hold⟩ : ∃ z, z = (comL fs gs n k).getD k 0 := ⟨_, rfl⟩
            rw [← hold] at e3
            have HO2 : Hid (OwnR (wr.setCell ⟨w.heap.size, k, none⟩ (.int .i32 z)) w.heap.size (.slice (some ⟨w.heap.size, 0, none⟩) n n) (comL fs gs n (k + 1))) := Lib.hid (by
              rw [← HS.out]; exact HO.out.set (by omega) k _)
            have HB2 := Lib.hid (HB.out.setCell (p := ⟨w.heap.size, k, none⟩) (Nat.le_refl _) (.int .i32 z))
            have hc0 : (0 : Int) ≤ (c : Int) := by omega
            have hc4 : (c : Int) < 4 := by omega
            have hk0 : (0 : Int) ≤ (k : Int) := by omega
            have hkn : (k : Int) < (n : Int) := by omega
            clear hxx hyy hcc hz hold hll hcom HO HB HS
            go_wp2_with fail
            go_still_tail 14, (by kernel_rfl)
            still_call ((HW1.out _).mono fun e w' ⟨he, hw⟩ => ⟨he, hw.symm⟩)
            repeat still_step
            still_call ((HW2.out _).mono fun e w' ⟨he, hw⟩ => ⟨he, hw.symm⟩)
            repeat still_step
            still_call ((HTB.out _).mono fun e w' ⟨he, hw⟩ => ⟨he, hw.symm⟩)
            repeat still_step
            refine wpStill_nil ?_
            change wpList _ _ _ _ _ wr.drew
            go_wp2
            go_roundw
            case rel => exact ⟨k + 1, by omega, by go_num, Lib.hid HO2.out, Lib.hid ⟨HB2.out.os, HB2.out.tape, HB2.out.output, HB2.out.size, HB2.out.block⟩⟩
            case measure => simp [intOf]; omega
          · obtain rfl : k = n := by omega
            have hcv := HO.out.text
            rw [HX.out] at hcv
            clear HO
            go_wp2
            go_ret2
            exact ⟨by rw [H0.out.1, H0.out.2, HN.out]; exact rfl, HB.out⟩
      · have H0 := Lib.hid (betw_no (f := f) (g := g) (by rw [hb0, hb1, decide_eq_false hsz]; rfl))
        rw [hb0] at HF
        rw [hb1] at HG
        have bn : ((f.size : Int) == (g.size : Int)) = false := by rw [beq_eq_false_iff_ne]; omega
        clear hb0 hb1 hT hsz
        go_enter Tryd.func25, Tryd.ntmps25
        go_wp2_with fail
        go_at_call 23
        refine HF.out.mono ?_
        rintro e w' ⟨rfl, rfl⟩
        go_wp2_with fail
        go_at_call 23
        refine HG.out.mono ?_
        rintro e w' ⟨rfl, rfl⟩
        go_wp2
        go_ret2
        exact ⟨by rw [H0.out.1, H0.out.2]; exact rfl, Below.refl _ _⟩

end Go.Proofs.YtjbomclildkjaaaDoor
