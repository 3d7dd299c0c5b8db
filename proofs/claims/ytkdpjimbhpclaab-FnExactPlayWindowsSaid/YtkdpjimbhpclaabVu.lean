/- Chapter 7, the program: PlayRuns, PlayWindows, PlayNeighbours; TurnRun, TurnFirst, TurnAround. -/
import Derived.Test.YtkdpjimbhpclaabVpR
import Derived.Test.YtkdpjimbhpclaabVpW
import Derived.Test.YtkdpjimbhpclaabVpN
namespace Go.Proofs.Ytkdpjimbhpclaab
open Go.ChangeShapes Go.WideShapes Go.ChangeAt Go.RowKit
open Rx Od Ed

set_option maxHeartbeats 1000000 in
theorem implPlayRuns_any (w : World) (s : ByteArray) (a : Option Addr) (len cap : Nat) (zss : List (List Int)) (_ws : s.size ≤ maxLen) (hls : s.size ≤ 1048576) (hf : FitsSS zss) (hc : CameSS w a len zss) :
    Calls Try.prog 25 #[.string s, .slice a len cap] w fun e w' => e = .returned (.tuple #[.string (outPlayRuns_0 s zss), .bool (outPlayRuns_1 s zss)]) ∧ Below w.heap.size w w' := by
  have hl := hf.1
  rw [hc.1] at hl
  have H0 : Hid (outPlayRuns_0 s zss = playS [] (rnR s.size) s zss ∧ outPlayRuns_1 s zss = playB (rnR s.size) s zss) := Lib.hid (by
    unfold outPlayRuns_0 outPlayRuns_1 playS
    rw [runs_ok]
    refine ⟨?_, rfl⟩
    rcases hb : playB (rnR s.size) s zss with _ | _
    · rfl
    · have h2 := hb
      unfold playB at h2
      simp only [Bool.and_eq_true] at h2
      obtain ⟨l, rfl, _, _⟩ := ord_row h2.1
      rw [Rw.size_str] at h2 ⊢
      rw [rowOf_str, if_pos rfl, if_pos rfl, runs_text l zss h2.2.2 zss.length (Nat.le_refl _)])
  have HI := Lib.hid (runsIn_p w s.size)
  have HR := Lib.hid (fun k => hf.row k)
  have HP := Lib.hid (fun (w3 : World) (g1 : Nat) (B3 : Below w.heap.size w w3) (c1 : w3.cell? ⟨g1, 0, none⟩ = some (.int .i64 (s.size : Int))) => playedR_p w3 s a len cap zss (rnR s.size) ⟨g1, 0, none⟩ hls hl (hc.below B3) (fun _ x a c h => ⟨(rnR_in h).1, (rnR_in h).2.1⟩)
    (fun _ w2 B2 k _ ak ck hcm => runsIn1_p w2 s.size g1 ak _ ck _ (HR.out k) hcm ((B2.cell (World.block_lt_of_cell? w3 _ c1)).trans c1)))
  clear hf hc _ws
  go_enter Try.func25, Try.ntmps25
  go_wp2_with fail
  go_at_call 50
  refine HI.out.mono ?_
  rintro e w3 ⟨g1, rfl, c1, _, B3⟩
  have HC := Lib.hid (HP.out w3 g1 B3 c1)
  have HB3 := Lib.hid B3
  clear c1 B3
  go_wp2_with (go_at_call 49; refine HC.out.mono ?_; rintro e w4 ⟨rfl, B4⟩)
  go_ret2
  exact ⟨by rw [H0.out.1, H0.out.2]; exact rfl, HB3.out.trans (B4.mono HB3.out.size)⟩

set_option maxHeartbeats 1000000 in
theorem implPlayWindows_any (w : World) (s : ByteArray) (wd : Int) (a : Option Addr) (len cap : Nat) (zs : List Int) (_ws : s.size ≤ maxLen) (_wd : (Lit.int .i64 wd).wf = true) (hls : s.size ≤ 1048576) (hl : len ≤ 1048576) (hc : Came w a len zs) :
    Calls Try.prog 29 #[.string s, .int .i64 wd, .slice a len cap] w fun e w' => e = .returned (.tuple #[.string (outPlayWindows_0 s wd zs), .bool (outPlayWindows_1 s wd zs)]) ∧ Below w.heap.size w w' := by
  have HW := Lib.hid (isWide_p (s.size : Int) wd w)
  clear _ws _wd
  rcases h2 : inB wd 1 (s.size : Int) with _ | _
  · have H0 : Hid (outPlayWindows_0 s wd zs = ByteArray.empty ∧ outPlayWindows_1 s wd zs = false) := Lib.hid (by
      have h : pwB s wd zs = false := by unfold pwB; rw [h2, Bool.false_and, Bool.and_false]
      unfold outPlayWindows_0 outPlayWindows_1
      rw [h]; exact ⟨rfl, rfl⟩)
    rw [h2] at HW
    clear h2 hc
    go_enter Try.func29, Try.ntmps29
    go_wp2_with (go_at_call 52; refine HW.out.mono ?_; rintro e w' ⟨rfl, rfl⟩)
    go_ret2
    exact ⟨by rw [H0.out.1, H0.out.2]; exact rfl, Below.refl _ _⟩
  · obtain ⟨d1, d2⟩ := inB_yes h2
    obtain ⟨W, rfl⟩ : ∃ W : Nat, wd = (W : Int) := ⟨wd.toNat, by omega⟩
    have H0 : Hid (outPlayWindows_0 s W zs = playS 0 (rnWI s.size W) s zs ∧ outPlayWindows_1 s W zs = playB (rnWI s.size W) s zs) := Lib.hid (by
      unfold outPlayWindows_0 outPlayWindows_1 playS
      rw [windows_ok s W zs h2, Int.toNat_natCast]
      refine ⟨?_, rfl⟩
      rcases hb : playB (rnWI s.size W) s zs with _ | _
      · rfl
      · have h3 := hb
        unfold playB at h3
        simp only [Bool.and_eq_true] at h3
        obtain ⟨l, rfl, _, _⟩ := ord_row h3.1
        rw [Rw.size_str] at h3 ⊢
        rw [rowOf_str, if_pos rfl, if_pos rfl, windows_text l W zs (by omega) h3.2.2 zs.length (Nat.le_refl _)])
    rw [h2] at HW
    have HI := Lib.hid (windowsIn_p w s.size W)
    have HP := Lib.hid (fun (w3 : World) (g1 g2 : Nat) (B3 : Below w.heap.size w w3) (c1 : w3.cell? ⟨g1, 0, none⟩ = some (.int .i64 (s.size : Int))) (c2 : w3.cell? ⟨g2, 0, none⟩ = some (.int .i64 (W : Int))) => playedW_p w3 s a len cap zs (rnWI s.size W) ⟨g1, 0, none⟩ ⟨g2, 0, none⟩ hls hl (hc.below B3) (fun _ x a c h => ⟨(rnWI_in (by omega) h).1, (rnWI_in (by omega) h).2.1⟩)
      (fun ho w2 B2 k _ => windowsIn1_p w2 s.size W g1 g2 _ (by unfold ordB at ho; simp only [Bool.and_eq_true, decide_eq_true_eq] at ho; omega) (by omega) (by omega) ((B2.cell (World.block_lt_of_cell? w3 _ c1)).trans c1) ((B2.cell (World.block_lt_of_cell? w3 _ c2)).trans c2)))
    clear h2 hc d1 d2
    go_enter Try.func29, Try.ntmps29
    go_wp2_with fail
    go_at_call 52
    refine HW.out.mono ?_
    rintro e w' ⟨rfl, rfl⟩
    go_wp2_with fail
    go_at_call 54
    refine HI.out.mono ?_
    rintro e w3 ⟨g1, g2, rfl, c1, c2, _, _, B3⟩
    have HC := Lib.hid (HP.out w3 g1 g2 B3 c1 c2)
    have HB3 := Lib.hid B3
    clear c1 c2 B3
    go_wp2_with (go_at_call 53; refine HC.out.mono ?_; rintro e w4 ⟨rfl, B4⟩)
    go_ret2
    exact ⟨by rw [H0.out.1, H0.out.2]; exact rfl, HB3.out.trans (B4.mono HB3.out.size)⟩

set_option maxHeartbeats 1000000 in
theorem implPlayNeighbours_any (w : World) (s : ByteArray) (a : Option Addr) (len cap : Nat) (zs : List Int) (_ws : s.size ≤ maxLen) (hls : s.size ≤ 1048576) (hl : len ≤ 1048576) (hc : Came w a len zs) :
    Calls Try.prog 31 #[.string s, .slice a len cap] w fun e w' => e = .returned (.tuple #[.string (outPlayNeighbours_0 s zs), .bool (outPlayNeighbours_1 s zs)]) ∧ Below w.heap.size w w' := by
  have H0 : Hid (outPlayNeighbours_0 s zs = playS 0 (rnNI s.size) s zs ∧ outPlayNeighbours_1 s zs = playB (rnNI s.size) s zs) := Lib.hid (by
    unfold outPlayNeighbours_0 outPlayNeighbours_1 playS
    rw [neighbours_ok]
    refine ⟨?_, rfl⟩
    rcases hb : playB (rnNI s.size) s zs with _ | _
    · rfl
    · have h2 := hb
      unfold playB at h2
      simp only [Bool.and_eq_true] at h2
      obtain ⟨l, rfl, _, _⟩ := ord_row h2.1
      rw [Rw.size_str] at h2 ⊢
      rw [rowOf_str, if_pos rfl, if_pos rfl, neighbours_text l zs h2.2.2 zs.length (Nat.le_refl _)])
  have HI := Lib.hid (neighboursIn_p w s.size)
  have HP := Lib.hid (fun (w3 : World) (g1 : Nat) (B3 : Below w.heap.size w w3) (c1 : w3.cell? ⟨g1, 0, none⟩ = some (.int .i64 (s.size : Int))) => playedN_p w3 s a len cap zs (rnNI s.size) ⟨g1, 0, none⟩ hls hl (hc.below B3) (fun _ x a c h => ⟨(rnNI_in h).1, (rnNI_in h).2.1⟩)
    (fun ho w2 B2 k _ => neighboursIn1_p w2 s.size g1 _ (by unfold ordB at ho; simp only [Bool.and_eq_true, decide_eq_true_eq] at ho; omega) ((B2.cell (World.block_lt_of_cell? w3 _ c1)).trans c1)))
  clear hc _ws
  go_enter Try.func31, Try.ntmps31
  go_wp2_with fail
  go_at_call 56
  refine HI.out.mono ?_
  rintro e w3 ⟨g1, rfl, c1, _, B3⟩
  have HC := Lib.hid (HP.out w3 g1 B3 c1)
  have HB3 := Lib.hid B3
  clear c1 B3
  go_wp2_with (go_at_call 53; refine HC.out.mono ?_; rintro e w4 ⟨rfl, B4⟩)
  go_ret2
  exact ⟨by rw [H0.out.1, H0.out.2]; exact rfl, HB3.out.trans (B4.mono HB3.out.size)⟩




end Go.Proofs.Ytkdpjimbhpclaab
