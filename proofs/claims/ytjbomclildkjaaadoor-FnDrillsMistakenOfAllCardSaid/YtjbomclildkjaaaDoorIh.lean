/- Chapter 4, the program: BestCommand. -/
import Derived.Test.YtjbomclildkjaaaDoorIc
import Derived.Test.YtjbomclildkjaaaDoorIg
namespace Go.Proofs.YtjbomclildkjaaaDoor
open Go.ChangeShapes Go.WideShapes Go.ChangeAt Go.RowKit
open Dr

/-- the way that is farther to the right by so many -/
def goTo (t w : Nat) : Nat := (w + 4 - t) % 4
set_option maxRecDepth 20000 in
theorem goTo_lt (t w : Nat) : goTo t w < 4 := Nat.mod_lt _ (by omega)
set_option maxRecDepth 20000 in
theorem turnTo_any (t y : Nat) (w : World) (ht : t < 4) (hy : y < 4) :
    Calls Tryd.prog 67 #[.int .i64 (t : Int), .int .i64 (y : Int)] w fun e w' => e = .returned (.int .i64 (goTo t y : Nat)) ∧ w = w' := by
  have h := turnBetween_any (t : Int) (y : Int) w (by omega) (by omega) (by omega)
  rw [show ((y : Int) - (t : Int) + 4) % 4 = ((goTo t y : Nat) : Int) from by unfold goTo; omega] at h
  exact h
/-- the turn that was the best one among the first j -/
def bestU (fs : List Nat) (w : Nat) : Nat → Nat
  | 0 => 0
  | j + 1 => if (bestC fs w j).2 < ((cntS fs (tried j) w fs.length : Nat) : Int) then tried j else bestU fs w j
theorem bestU_lt (fs : List Nat) (w : Nat) : ∀ j, bestU fs w j < 4
  | 0 => by unfold bestU; omega
  | j + 1 => by
    have := bestU_lt fs w j
    rw [bestU]; split
    · exact tried_lt j
    · exact this
theorem bestU_word (fs : List Nat) (w : Nat) : ∀ j, (bestC fs w (j + 1)).1 = word [bestU fs w (j + 1)]
  | 0 => by
    have h : (bestC fs w 0).2 < ((cntS fs (tried 0) w fs.length : Nat) : Int) := by show (-1 : Int) < _; omega
    rw [bestC_yes h, bestU, if_pos h]
  | j + 1 => by
    have ih := bestU_word fs w j
    rw [bestC, bestU]
    split
    · rfl
    · exact ih
def bestRZ (fs : List Nat) (w j : Nat) : Int := if j = 0 then 0 else sgZ (bestU fs w j)
theorem bestRZ_yes {fs : List Nat} {w j : Nat} (h : (bestC fs w j).2 < ((cntS fs (tried j) w fs.length : Nat) : Int)) : bestRZ fs w (j + 1) = sgZ (tried j) := by
  unfold bestRZ
  rw [if_neg (by omega), bestU, if_pos h]
theorem bestRZ_no {fs : List Nat} {w j : Nat} (h : ¬ (bestC fs w j).2 < ((cntS fs (tried j) w fs.length : Nat) : Int)) : bestRZ fs w (j + 1) = bestRZ fs w j := by
  have h0 : ¬ j = 0 := by
    rintro rfl
    exact h (by show (-1 : Int) < _; omega)
  unfold bestRZ
  rw [if_neg (by omega), bestU, if_neg h, if_neg h0]
theorem bestRZ_text (fs : List Nat) (w : Nat) : Utf8.encode (bestRZ fs w 4) = (bestC fs w 4).1 := by
  unfold bestRZ
  rw [if_neg (by omega), bestU_word, encode_sg]
  rfl
theorem tried_at (j : Nat) (h : j < 4) : (#[.int .i64 0, .int .i64 3, .int .i64 1, .int .i64 2] : Array Value)[((j : Nat) : Int).toNat]? = some (.int .i64 ((tried j : Nat) : Int)) := by
  match j, h with
  | 0, _ => rfl
  | 1, _ => rfl
  | 2, _ => rfl
  | 3, _ => rfl
theorem bestB_no {f : ByteArray} {y : Int} (h : (faceB f && inB y 0 3) = false) : outBestCommand_0 f y = ByteArray.empty ∧ outBestCommand_1 f y = 0 ∧ outBestCommand_2 f y = false := by
  unfold outBestCommand_0 outBestCommand_1 outBestCommand_2
  rw [h]
  cases h1 : faceB f with
  | false => exact ⟨rfl, rfl, rfl⟩
  | true =>
    rw [h1, Bool.true_and] at h
    rw [h]
    exact ⟨rfl, rfl, rfl⟩
set_option maxRecDepth 20000 in
set_option maxHeartbeats 1000000 in
theorem implBestCommand_any (w : World) (f : ByteArray) (y : Int) (_wf : f.size ≤ maxLen) (_wy : (Lit.int .i64 y).wf = true) (hlf : f.size ≤ 1048576) (hT : Tab_signOfTurn w) (hU : Tab_turnsChosen w) :
    Calls Tryd.prog 32 #[.string f, .int .i64 y] w fun e w' => e = .returned (.tuple #[.string (outBestCommand_0 f y), .int .i64 (outBestCommand_1 f y), .bool (outBestCommand_2 f y)]) ∧ Below w.heap.size w w' := by
  have HG00 := Lib.hid (areFacing_any f w hlf)
  have HI := Lib.hid (isWay_any y w)
  clear _wf _wy
  rcases hb0 : faceB f with _ | _
  · have H0 := Lib.hid (bestB_no (f := f) (y := y) (by rw [hb0]; rfl))
    rw [hb0] at HG00
    clear hb0 hT hU
    go_enter Tryd.func32, Tryd.ntmps32
    go_wp2_with (go_at_call 23; refine HG00.out.mono ?_; rintro e w' ⟨rfl, rfl⟩)
    go_ret3
    exact ⟨by rw [H0.out.1, H0.out.2.1, H0.out.2.2]; exact rfl, Below.refl _ _⟩
  · rcases hb1 : inB y 0 3 with _ | _
    · have H0 := Lib.hid (bestB_no (f := f) (y := y) (by rw [hb0, hb1]; rfl))
      rw [hb0] at HG00
      rw [hb1] at HI
      clear hb0 hb1 hT hU
      go_enter Tryd.func32, Tryd.ntmps32
      go_wp2_with (first | (go_at_call 23; refine HG00.out.mono ?_; rintro e w' ⟨rfl, rfl⟩) | (go_at_call 65; refine HI.out.mono ?_; rintro e w' ⟨rfl, rfl⟩))
      go_ret3
      exact ⟨by rw [H0.out.1, H0.out.2.1, H0.out.2.2]; exact rfl, Below.refl _ _⟩
    · obtain ⟨fs, rfl, h1, h2, h3⟩ := face_of hb0
      obtain ⟨Y, rfl⟩ : ∃ Y : Nat, y = (Y : Int) := ⟨y.toNat, by have := inB_yes hb1; omega⟩
      have hY : Y < 4 := by have := inB_yes hb1; omega
      have H0 : Hid (outBestCommand_0 (face fs) Y = (bestC fs Y 4).1 ∧ outBestCommand_1 (face fs) Y = (bestC fs Y 4).2 ∧ outBestCommand_2 (face fs) Y = true) := Lib.hid (by
        unfold outBestCommand_0 outBestCommand_1 outBestCommand_2
        rw [hb0, hb1, fsOf_face h3]
        exact ⟨rfl, rfl, rfl⟩)
      rw [hb0] at HG00
      rw [hb1] at HI
      have HC := Lib.hid (fun (t : Nat) (ht : t < 4) => show Calls Tryd.prog 72 #[.string (face fs), .int .i64 (goTo t Y : Nat)] w fun e w' => e = .returned (.int .i64 (cntS fs t Y fs.length : Nat)) ∧ w = w' from by
        have h := countFacing_any fs (goTo t Y) w h2 h3
        unfold goTo at h ⊢
        rw [cntE_cntS h3 ht hY] at h
        exact h)
      have HBT := Lib.hid (fun (t : Nat) (ht : t < 4) => turnTo_any t Y w ht hY)
      have HS := Lib.hid (fun (t : Nat) (ht : t < 4) => hT.sign t ht)
      have HBD := Lib.hid (bestC_bd fs Y)
      have HCL := Lib.hid (fun t => cntS_le fs t Y fs.length)
      have HY := Lib.hid (fun (j : Nat) => @bestC_yes fs Y j)
      have HN := Lib.hid (fun (j : Nat) => @bestC_no fs Y j)
      have HRY := Lib.hid (fun (j : Nat) => @bestRZ_yes fs Y j)
      have HRN := Lib.hid (fun (j : Nat) => @bestRZ_no fs Y j)
      have HX := Lib.hid (bestRZ_text fs Y)
      obtain ⟨d0, d1, d2, d3⟩ := hU.at
      obtain ⟨f, hf⟩ : ∃ g, g = face fs := ⟨_, rfl⟩
      rw [← hf] at H0 HG00 HC ⊢
      obtain ⟨n, hn⟩ : ∃ n, n = fs.length := ⟨_, rfl⟩
      rw [← hn] at HC HCL HBD HY HN HRY HRN h2
      clear hb0 hb1 hf h3 hn h1 hT hU
      go_enter Tryd.func32, Tryd.ntmps32
      go_wp2_with (first | (go_at_call 23; refine HG00.out.mono ?_; rintro e w' ⟨rfl, rfl⟩) | (go_at_call 65; refine HI.out.mono ?_; rintro e w' ⟨rfl, rfl⟩))
      clear d0 d1 d2 d3
      go_loop [7, 8, 21] (fun b c i => ∃ j : Nat, j ≤ 4 ∧ i = .int .i64 (j : Int) ∧ b = .int .i32 (bestRZ fs Y j) ∧ c = .int .i64 (bestC fs Y j).2) (fun _ _ i => 4 - (intOf i).toNat)
      case atStart => exact ⟨0, Nat.zero_le _, rfl, rfl, rfl⟩
      case round =>
        obtain ⟨j, hj, rfl, rfl, rfl⟩ := hrel
        have hbd := HBD.out j
        obtain ⟨hbd1, hbd2⟩ := hbd
        by_cases hlt : j < 4
        · have HA := Lib.hid (tried_at j hlt)
          have htl := tried_lt j
          have HC2 := Lib.hid (HC.out (tried j) htl)
          have HT2 := Lib.hid (HBT.out (tried j) htl)
          obtain ⟨v, hv⟩ : ∃ v : Nat, v = goTo (tried j) Y := ⟨_, rfl⟩
          rw [← hv] at HC2 HT2
          clear hv
          have hcell := HS.out (tried j) htl
          have hcl := HCL.out (tried j)
          have i0 : (0 : Int) ≤ (j : Int) := by omega
          have I1 : Hid ((j : Int) < ((4 : Nat) : Int)) := Lib.hid (by omega)
          have i1 : (j : Int) < 4 := by omega
          by_cases hgt : (bestC fs Y j).2 < ((cntS fs (tried j) Y n : Nat) : Int)
          · have HS2 := Lib.hid (HY.out j hgt)
            have HR2 := Lib.hid (HRY.out j hgt)
            obtain ⟨c, hc⟩ : ∃ c, c = cntS fs (tried j) Y n := ⟨_, rfl⟩
            obtain ⟨m, hm⟩ : ∃ c, c = (bestC fs Y j).2 := ⟨_, rfl⟩
            obtain ⟨r, hr⟩ : ∃ c, c = bestRZ fs Y j := ⟨_, rfl⟩
            rw [← hc] at HC2 HS2 hcl hgt
            rw [← hm] at hbd1 hbd2 hgt ⊢
            rw [← hr]
            obtain ⟨t, ht⟩ : ∃ c, c = tried j := ⟨_, rfl⟩
            rw [← ht] at HA HT2 hcell HS2 HR2 htl
            obtain ⟨z, hz⟩ : ∃ c, c = sgZ t := ⟨_, rfl⟩
            rw [← hz] at hcell HR2
            have t0 : (0 : Int) ≤ (t : Int) := by omega
            have t4 : (t : Int) < 4 := by omega
            clear hc hm hr ht hz
            go_wp2_with (refine wpList_indexAgg 82 _ _ rfl rfl 3 4 _ _ _ (.int .i64 (t : Int)) _ Tryd.underlying82 Tryd.underlying3 rfl tab_turnsChosen_one rfl rfl i0 I1.out HA.out ?_)
            refine ⟨?_⟩
            go_wp2_with fail
            go_at_call 67
            refine HT2.out.mono ?_
            rintro e w' ⟨rfl, rfl⟩
            go_wp2_with fail
            go_at_call 72
            refine HC2.out.mono ?_
            rintro e w' ⟨rfl, rfl⟩
            go_wp2
            go_round
            case rel => exact ⟨j + 1, by omega, by go_num, by rw [HR2.out], int_eq (by rw [HS2.out])⟩
            case measure => simp [intOf]; omega
          · have HS2 := Lib.hid (HN.out j (by omega))
            have HR2 := Lib.hid (HRN.out j (by omega))
            obtain ⟨c, hc⟩ : ∃ c, c = cntS fs (tried j) Y n := ⟨_, rfl⟩
            obtain ⟨m, hm⟩ : ∃ c, c = (bestC fs Y j).2 := ⟨_, rfl⟩
            obtain ⟨r, hr⟩ : ∃ c, c = bestRZ fs Y j := ⟨_, rfl⟩
            rw [← hc] at HC2 hcl hgt
            rw [← hm] at hbd1 hbd2 hgt ⊢
            rw [← hr] at HR2 ⊢
            have HM := Lib.hid hm
            obtain ⟨t, ht⟩ : ∃ c, c = tried j := ⟨_, rfl⟩
            rw [← ht] at HA HT2 htl
            have t0 : (0 : Int) ≤ (t : Int) := by omega
            have t4 : (t : Int) < 4 := by omega
            have bg : decide (m < (c : Int)) = false := decide_eq_false (by omega)
            clear hc hm hr ht hcell hgt
            go_wp2_with (refine wpList_indexAgg 82 _ _ rfl rfl 3 4 _ _ _ (.int .i64 (t : Int)) _ Tryd.underlying82 Tryd.underlying3 rfl tab_turnsChosen_one rfl rfl i0 I1.out HA.out ?_)
            refine ⟨?_⟩
            go_wp2_with fail
            go_at_call 67
            refine HT2.out.mono ?_
            rintro e w' ⟨rfl, rfl⟩
            go_wp2_with fail
            go_at_call 72
            refine HC2.out.mono ?_
            rintro e w' ⟨rfl, rfl⟩
            go_wp2
            go_round
            case rel => exact ⟨j + 1, by omega, by go_num, by rw [HR2.out], int_eq (by rw [HS2.out, HM.out])⟩
            case measure => simp [intOf]; omega
        · obtain rfl : j = 4 := by omega
          obtain ⟨m, hm⟩ : ∃ c, c = (bestC fs Y 4).2 := ⟨_, rfl⟩
          obtain ⟨r, hr⟩ : ∃ c, c = bestRZ fs Y 4 := ⟨_, rfl⟩
          rw [← hm] at H0 ⊢
          rw [← hr] at HX ⊢
          clear hm hr
          go_wp2
          go_ret3
          exact ⟨by rw [H0.out.1, H0.out.2.1, H0.out.2.2, HX.out]; exact rfl, Below.refl _ _⟩

end Go.Proofs.YtjbomclildkjaaaDoor
