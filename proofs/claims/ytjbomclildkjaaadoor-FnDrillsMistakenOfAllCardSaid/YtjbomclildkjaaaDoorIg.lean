/- Chapter 4, the program: MostFaced. -/
import Derived.Test.YtjbomclildkjaaaDoorDrE
import Derived.Test.YtjbomclildkjaaaDoorIe
namespace Go.Proofs.YtjbomclildkjaaaDoor
open Go.ChangeShapes Go.WideShapes Go.ChangeAt Go.RowKit
open Dr

theorem cntE_cntS {fs : List Nat} (h : ∀ t ∈ fs, t < 4) {t w : Nat} (ht : t < 4) (hw : w < 4) : ∀ k, cntE fs ((w + 4 - t) % 4) k = cntS fs t w k
  | 0 => rfl
  | k + 1 => by
    have h1 := getD_lt h (by omega) k
    have h2 := cntE_cntS h ht hw k
    rw [cntE, cntS, h2]
    have e : (fs.getD k 0 = (w + 4 - t) % 4) = ((fs.getD k 0 + t) % 4 = w) := by
      apply propext
      constructor <;> intro hh <;> omega
    simp only [e]

theorem most_one (fs : List Nat) : most fs 1 = (0, cntS fs 0 0 fs.length) := by
  by_cases h : (most fs 0).2 < cntS fs 0 0 fs.length
  · exact most_yes h
  · rw [most_no h]
    have : cntS fs 0 0 fs.length = 0 := by
      have h0 : (most fs 0).2 = 0 := rfl
      omega
    rw [this]; rfl
set_option maxRecDepth 20000 in
set_option maxHeartbeats 2000000 in
theorem implMostFaced_any (w : World) (f : ByteArray) (_wf : f.size ≤ maxLen) (hlf : f.size ≤ 1048576) :
    Calls Tryd.prog 35 #[.string f] w fun e w' => e = .returned (.tuple #[.int .i64 (outMostFaced_0 f), .int .i64 (outMostFaced_1 f), .bool (outMostFaced_2 f)]) ∧ Below w.heap.size w w' := by
  have HG00 := Lib.hid (areFacing_any f w hlf)
  clear _wf
  rcases hb0 : faceB f with _ | _
  · have H0 : Hid (outMostFaced_0 f = 0 ∧ outMostFaced_1 f = 0 ∧ outMostFaced_2 f = false) := Lib.hid (by unfold outMostFaced_0 outMostFaced_1 outMostFaced_2; rw [hb0]; exact ⟨rfl, rfl, rfl⟩)
    rw [hb0] at HG00
    clear hb0
    go_enter Tryd.func35, Tryd.ntmps35
    go_wp2_with (go_at_call 23; refine HG00.out.mono ?_; rintro e w' ⟨rfl, rfl⟩)
    go_ret3
    exact ⟨by rw [H0.out.1, H0.out.2.1, H0.out.2.2]; exact rfl, Below.refl _ _⟩
  · obtain ⟨fs, rfl, h1, h2, h3⟩ := face_of hb0
    have H0 : Hid (outMostFaced_0 (face fs) = ((most fs 4).1 : Nat) ∧ outMostFaced_1 (face fs) = ((most fs 4).2 : Nat) ∧ outMostFaced_2 (face fs) = true) := Lib.hid (by unfold outMostFaced_0 outMostFaced_1 outMostFaced_2; rw [hb0, fsOf_face h3]; exact ⟨rfl, rfl, rfl⟩)
    rw [hb0] at HG00
    have HC := Lib.hid (fun (v : Nat) (hv : v < 4) (w2 : World) => show Calls Tryd.prog 72 #[.string (face fs), .int .i64 (v : Int)] w2 fun e w' => e = .returned (.int .i64 (cntS fs 0 v fs.length : Nat)) ∧ w2 = w' from by
      have h := countFacing_any fs v w2 h2 h3
      rw [← cntE_cntS h3 (show 0 < 4 by omega) hv, show (v + 4 - 0) % 4 = v from by omega]
      exact h)
    have HM := Lib.hid (most_le fs)
    have HO := Lib.hid (most_one fs)
    have HL := Lib.hid (fun v => cntS_le fs 0 v fs.length)
    have HY := Lib.hid (fun (v : Nat) => @most_yes fs v)
    have HN := Lib.hid (fun (v : Nat) => @most_no fs v)
    have HC0 := Lib.hid (fun w2 => HC.out 0 (by omega) w2)
    obtain ⟨f, hf⟩ : ∃ g, g = face fs := ⟨_, rfl⟩
    rw [← hf] at H0 HG00 HC HC0 ⊢
    obtain ⟨n, hn⟩ : ∃ n, n = fs.length := ⟨_, rfl⟩
    rw [← hn] at HC HC0 HM HO HL HY HN h2
    clear hb0 hf h3 hn h1
    go_enter Tryd.func35, Tryd.ntmps35
    go_wp2_with (first | (go_at_call 23; refine HG00.out.mono ?_; rintro e w' ⟨rfl, rfl⟩) | (go_at_call 72; refine (HC0.out _).mono ?_; rintro e w' ⟨rfl, rfl⟩))
    go_loop [5, 6, 7] (fun b c i => ∃ k : Nat, 1 ≤ k ∧ k ≤ 4 ∧ i = .int .i64 (k : Int) ∧ b = .int .i64 ((most fs k).1 : Nat) ∧ c = .int .i64 ((most fs k).2 : Nat)) (fun _ _ i => 4 - (intOf i).toNat)
    case atStart => exact ⟨1, Nat.le_refl _, by omega, rfl, int_eq (by rw [HO.out]; rfl), int_eq (by rw [HO.out])⟩
    case round =>
      obtain ⟨k, hk1, hk, rfl, rfl, rfl⟩ := hrel
      have hm := HM.out k
      by_cases hlt : k < 4
      · have HK := Lib.hid (fun w2 => HC.out k hlt w2)
        have hcl := HL.out k
        by_cases hgt : (most fs k).2 < cntS fs 0 k n
        · have HS := Lib.hid (HY.out k hgt)
          obtain ⟨c, hc⟩ : ∃ c, c = cntS fs 0 k n := ⟨_, rfl⟩
          obtain ⟨m1, hm1⟩ : ∃ c, c = (most fs k).1 := ⟨_, rfl⟩
          obtain ⟨m2, hm2⟩ : ∃ c, c = (most fs k).2 := ⟨_, rfl⟩
          rw [← hc] at HK HS hcl hgt
          rw [← hm1] at hm ⊢
          rw [← hm2] at hm hgt ⊢
          have hg2 : (m2 : Int) < (c : Int) := by omega
          clear hc hm1 hm2
          go_wp2_with (go_at_call 72; refine (HK.out _).mono ?_; rintro e w' ⟨rfl, rfl⟩)
          go_round
          case rel => exact ⟨k + 1, by omega, by omega, by go_num, int_eq (by rw [HS.out]), int_eq (by rw [HS.out])⟩
          case measure => simp [intOf]; omega
        · have HS := Lib.hid (HN.out k hgt)
          obtain ⟨c, hc⟩ : ∃ c, c = cntS fs 0 k n := ⟨_, rfl⟩
          obtain ⟨m1, hm1⟩ : ∃ c, c = (most fs k).1 := ⟨_, rfl⟩
          obtain ⟨m2, hm2⟩ : ∃ c, c = (most fs k).2 := ⟨_, rfl⟩
          rw [← hc] at HK hcl hgt
          rw [← hm1] at hm ⊢
          rw [← hm2] at hm hgt ⊢
          have hg2 : ¬ (m2 : Int) < (c : Int) := by omega
          have HM1 := Lib.hid hm1
          have HM2 := Lib.hid hm2
          clear hc hm1 hm2
          go_wp2_with (go_at_call 72; refine (HK.out _).mono ?_; rintro e w' ⟨rfl, rfl⟩)
          go_round
          case rel => exact ⟨k + 1, by omega, by omega, by go_num, int_eq (by rw [HS.out, HM1.out]), int_eq (by rw [HS.out, HM2.out])⟩
          case measure => simp [intOf]; omega
      · obtain rfl : k = 4 := by omega
        obtain ⟨m1, hm1⟩ : ∃ c, c = (most fs 4).1 := ⟨_, rfl⟩
        obtain ⟨m2, hm2⟩ : ∃ c, c = (most fs 4).2 := ⟨_, rfl⟩
        rw [← hm1, ← hm2] at H0 ⊢
        clear hm1 hm2 hm
        go_wp2
        go_ret3
        exact ⟨by rw [H0.out.1, H0.out.2.1, H0.out.2.2]; exact rfl, Below.refl _ _⟩

end Go.Proofs.YtjbomclildkjaaaDoor
