/- Chapter 5, the program's paces: isValid, ArePaces, isTime, stepsAt, stepping, SteppingAt. -/
import Derived.Test.YthnbimfdodfhoabDoorPa
namespace Go.Proofs.YthnbimfdodfhoabDoor
open Go.ChangeShapes Go.WideShapes Go.ChangeAt Go.RowKit
open Pa

theorem pace_cells (w : World) (x y : Int) : (w.alloc (.cells #[.int .i64 x, .int .i64 y] 23)).cell? ⟨w.heap.size, 0, none⟩ = some (.int .i64 x) ∧ (w.alloc (.cells #[.int .i64 x, .int .i64 y] 23)).cell? ⟨w.heap.size, 1, none⟩ = some (.int .i64 y) :=
  ⟨by rw [World.cell?_alloc_new]; rfl, by rw [World.cell?_alloc_new]; rfl⟩

set_option maxHeartbeats 1000000 in
theorem isValid_any (x y : Int) (w : World) :
    Calls Tryd.prog 39 #[.agg #[.int .i64 x, .int .i64 y]] w fun e w' => e = .returned (.bool (paceB (x, y))) ∧ Below w.heap.size w w' := by
  have HB : Hid (Below w.heap.size w (w.alloc (.cells #[.int .i64 x, .int .i64 y] 23))) := Lib.hid ((Below.refl _ _).alloc (Nat.le_refl _) _)
  by_cases h1 : 1 ≤ x
  · by_cases h2 : x ≤ 60
    · by_cases h3 : 0 ≤ y
      · by_cases h4 : y < x
        · have HE : Hid (paceB (x, y) = true) := Lib.hid (by unfold paceB; rw [inB_of ⟨h1, h2⟩, inB_of ⟨h3, by omega⟩]; rfl)
          go_enter Tryd.func39, Tryd.ntmps39
          go_wp2
          go_ret
          exact ⟨ret_bool (by rw [HE.out]), HB.out⟩
        · have HE : Hid (paceB (x, y) = false) := Lib.hid (by unfold paceB; rw [inB_no (n := y) (by omega)]; simp)
          go_enter Tryd.func39, Tryd.ntmps39
          go_wp2
          go_ret
          exact ⟨ret_bool (by rw [HE.out]), HB.out⟩
      · have HE : Hid (paceB (x, y) = false) := Lib.hid (by unfold paceB; rw [inB_no (n := y) (by omega)]; simp)
        go_enter Tryd.func39, Tryd.ntmps39
        go_wp2
        go_ret
        exact ⟨ret_bool (by rw [HE.out]), HB.out⟩
    · have HE : Hid (paceB (x, y) = false) := Lib.hid (by unfold paceB; rw [inB_no (n := x) (by omega)]; rfl)
      go_enter Tryd.func39, Tryd.ntmps39
      go_wp2
      go_ret
      exact ⟨ret_bool (by rw [HE.out]), HB.out⟩
  · have HE : Hid (paceB (x, y) = false) := Lib.hid (by unfold paceB; rw [inB_no (n := x) (by omega)]; rfl)
    go_enter Tryd.func39, Tryd.ntmps39
    go_wp2
    go_ret
    exact ⟨ret_bool (by rw [HE.out]), HB.out⟩

set_option maxHeartbeats 2000000 in
theorem implArePaces_any (w : World) (a : Option Addr) (len cap : Nat) (ps : List RPace) (hl : len ≤ 1048576) (hc : CamePace w a len ps) :
    Calls Tryd.prog 26 #[.slice a len cap] w fun e w' => e = .returned (.bool (outArePaces_0 ps)) ∧ Below w.heap.size w w' := by
  have HOG : Hid (outArePaces_0 ps = goodP ps) := rfl
  have HZ : Hid (ps.length = len) := Lib.hid hc.1
  have HC := Lib.hid hc
  clear hc
  by_cases hs1 : len < 1
  · have HE := Lib.hid (good_no1 (ps := ps) (by rw [HZ.out]; exact inB_no (by omega)))
    go_enter Tryd.func26, Tryd.ntmps26
    go_wp2
    go_ret
    exact ⟨ret_bool (by rw [HOG.out, HE.out]), Below.refl _ _⟩
  by_cases hs2 : 6 < len
  · have HE := Lib.hid (good_no1 (ps := ps) (by rw [HZ.out]; exact inB_no (by omega)))
    go_enter Tryd.func26, Tryd.ntmps26
    go_wp2
    go_ret
    exact ⟨ret_bool (by rw [HOG.out, HE.out]), Below.refl _ _⟩
  have HY : Hid ((∀ k, k < ps.length → paceB (ps.getD k zPace) = true) → goodP ps = true) := Lib.hid (good_yes (by rw [HZ.out]; exact inB_of (by omega)))
  go_enter Tryd.func26, Tryd.ntmps26
  go_wp2
  go_loopw [15] (fun i wr => ∃ k : Nat, k ≤ len ∧ i = .int .i64 (k : Int) ∧ Hid (∀ j, j < k → paceB (ps.getD j zPace) = true) ∧ Hid (Below w.heap.size w wr)) (fun i _ => len - (intOf i).toNat)
  case atStart => exact ⟨0, Nat.zero_le _, rfl, Lib.hid (fun j h => absurd h (Nat.not_lt_zero _)), Lib.hid (Below.refl _ _)⟩
  case round =>
    obtain ⟨k, hk, rfl, HK, HB⟩ := hrel
    by_cases hlt : k < len
    · obtain ⟨b, off, rfl, hcell⟩ := (HC.out.below HB.out).2 (by omega)
      obtain ⟨e0, e1⟩ := hcell k hlt
      have HNO : Hid (paceB (ps.getD k zPace) = false → goodP ps = false) := Lib.hid (good_no2 (by rw [HZ.out]; exact hlt))
      obtain ⟨p, hp⟩ : ∃ p, p = ps.getD k zPace := ⟨_, rfl⟩
      rw [← hp] at e0 e1 HNO
      obtain ⟨x0, x1⟩ := p
      simp only at e0 e1
      have HP := Lib.hid hp
      have HT := Lib.hid (fun w2 => isValid_any x0 x1 w2)
      have i1 : (0 : Int) ≤ (k : Int) := by omega
      have i2 : (k : Int) < (len : Int) := by omega
      have HBA : Hid (Below w.heap.size w (wr.alloc (.cells #[.int .i64 x0, .int .i64 x1] 23))) := Lib.hid (HB.out.alloc HB.out.size _)
      clear hcell hp
      rcases hpb : paceB (x0, x1) with _ | _
      · have HE := Lib.hid (HNO.out hpb)
        rw [hpb] at HT
        clear hpb HNO
        go_wp2_with fail
        go_at_call 39
        refine (HT.out _).mono ?_
        rintro e w2 ⟨rfl, b2⟩
        have HB2 : Hid (Below w.heap.size w w2) := Lib.hid (HBA.out.trans (b2.mono HBA.out.size))
        clear b2
        go_wp2
        go_ret
        exact ⟨ret_bool (by rw [HOG.out, HE.out]), HB2.out⟩
      · have HK2 : Hid (∀ j, j < k + 1 → paceB (ps.getD j zPace) = true) := Lib.hid (fun j hj => by
          by_cases e : j = k
          · subst e; rw [← HP.out]; exact hpb
          · exact HK.out j (by omega))
        rw [hpb] at HT
        clear hpb HNO
        go_wp2_with fail
        go_at_call 39
        refine (HT.out _).mono ?_
        rintro e w2 ⟨rfl, b2⟩
        have HB2 : Hid (Below w.heap.size w w2) := Lib.hid (HBA.out.trans (b2.mono HBA.out.size))
        clear b2
        go_wp2
        go_roundw
        case rel => exact ⟨k + 1, by omega, by go_num, HK2, HB2⟩
        case measure => simp [intOf]; omega
    · have HE := Lib.hid (HY.out (fun j hj => HK.out j (by have := HZ.out; omega)))
      go_wp2
      go_ret
      exact ⟨ret_bool (by rw [HOG.out, HE.out]), HB.out⟩
theorem arePaces_any (w : World) (a : Option Addr) (len cap : Nat) (ps : List RPace) (hl : len ≤ 1048576) (hc : CamePace w a len ps) :
    Calls Tryd.prog 26 #[.slice a len cap] w fun e w' => e = .returned (.bool (goodP ps)) ∧ Below w.heap.size w w' := implArePaces_any w a len cap ps hl hc


theorem steps_cond {t x y : Nat} : ((t : Int).tmod (x : Int) == (y : Int)) = decide (t % x = y) := by
  rw [Int.tmod_eq_emod_of_nonneg (by omega)]
  by_cases h : t % x = y
  · rw [decide_eq_true h, beq_iff_eq]; subst h; simp
  · rw [decide_eq_false h, beq_eq_false_iff_ne]; omega
set_option maxHeartbeats 1000000 in
theorem stepsAt_any (x y t : Nat) (h1 : 1 ≤ x) (h2 : x ≤ 60) (_h3 : y < x) (h4 : t ≤ 1000000000000) (w : World) :
    Calls Tryd.prog 37 #[.agg #[.int .i64 (x : Int), .int .i64 (y : Int)], .int .i64 (t : Int)] w fun e w' => e = .returned (.bool (decide (t % x = y))) ∧ Below w.heap.size w w' := by
  have HB : Hid (Below w.heap.size w (w.alloc (.cells #[.int .i64 (x : Int), .int .i64 (y : Int)] 23))) := Lib.hid ((Below.refl _ _).alloc (Nat.le_refl _) _)
  have HE : Hid (((t : Int).tmod (x : Int) == (y : Int)) = decide (t % x = y)) := Lib.hid steps_cond
  have HEE : Hid (((t : Int) % (x : Int) == (y : Int)) = decide (t % x = y)) := Lib.hid (by rw [← HE.out, Int.tmod_eq_emod_of_nonneg (by omega)])
  have hx0 : ¬ x = 0 := by omega
  have hx1 : ¬ (x : Int) = 0 := by omega
  obtain ⟨e0, e1⟩ := pace_cells w (x : Int) (y : Int)
  have hz := HB.out.size
  go_enter Tryd.func37, Tryd.ntmps37
  go_wp2_with fail
  go_quiet (fail)
  go_wp2
  go_ret
  exact ⟨ret_bool (by first | exact HE.out | exact HEE.out), HB.out.trans ((drewN_down _ _).mono hz)⟩



end Go.Proofs.YthnbimfdodfhoabDoor
