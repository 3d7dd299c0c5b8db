/- Chapter 3, the program's functions of numbers: who may stand where, hollow squares, places. -/
import Derived.Test.YtjdbmkphakpmbaaFo
import Derived.Test.YtjdbmkphakpmbaaFoR
namespace Go.Proofs.Ytjdbmkphakpmbaa
open Go.ChangeShapes Go.WideShapes Go.ChangeAt Go.RowKit
open Fo

set_option maxRecDepth 20000 in
set_option maxHeartbeats 400000 in
theorem areSoldiers_any (n : Int) (w : World) :
    Calls Try.prog 61 #[.int .i64 n] w fun e w' => e = .returned (.bool (inB n 1 1000000)) ∧ w = w' := by
  by_cases h1 : 1 ≤ n
  · by_cases h2 : n ≤ 1000000
    · have HE : Hid (inB n 1 1000000 = true) := Lib.hid (inB_of ⟨h1, h2⟩)
      go_enter Try.func61, Try.ntmps61
      go_wp2
      go_ret
      exact ⟨ret_bool (by rw [HE.out]), rfl⟩
    · have HE : Hid (inB n 1 1000000 = false) := Lib.hid (inB_no (by omega))
      go_enter Try.func61, Try.ntmps61
      go_wp2
      go_ret
      exact ⟨ret_bool (by rw [HE.out]), rfl⟩
  · have HE : Hid (inB n 1 1000000 = false) := Lib.hid (inB_no (by omega))
    go_enter Try.func61, Try.ntmps61
    go_wp2
    go_ret
    exact ⟨ret_bool (by rw [HE.out]), rfl⟩

set_option maxRecDepth 20000 in
set_option maxHeartbeats 400000 in
theorem isWidth_any (n : Int) (w : World) :
    Calls Try.prog 71 #[.int .i64 n] w fun e w' => e = .returned (.bool (inB n 1 1000)) ∧ w = w' := by
  by_cases h1 : 1 ≤ n
  · by_cases h2 : n ≤ 1000
    · have HE : Hid (inB n 1 1000 = true) := Lib.hid (inB_of ⟨h1, h2⟩)
      go_enter Try.func71, Try.ntmps71
      go_wp2
      go_ret
      exact ⟨ret_bool (by rw [HE.out]), rfl⟩
    · have HE : Hid (inB n 1 1000 = false) := Lib.hid (inB_no (by omega))
      go_enter Try.func71, Try.ntmps71
      go_wp2
      go_ret
      exact ⟨ret_bool (by rw [HE.out]), rfl⟩
  · have HE : Hid (inB n 1 1000 = false) := Lib.hid (inB_no (by omega))
    go_enter Try.func71, Try.ntmps71
    go_wp2
    go_ret
    exact ⟨ret_bool (by rw [HE.out]), rfl⟩

set_option maxRecDepth 20000 in
set_option maxHeartbeats 400000 in
theorem hasEmptyPlace_any (s t : Int) (h1 : 1 ≤ s) (h2 : s ≤ 1000000) (w : World) :
    Calls Try.prog 72 #[.int .i64 s, .int .i64 t] w fun e w' => e = .returned (.bool (decide (t ≤ (s - 1) / 2))) ∧ w = w' := by
  have h3 : 0 ≤ (s - 1) / 2 ∧ (s - 1) / 2 ≤ 1000000 := by omega
  by_cases h : t ≤ (s - 1) / 2
  · have HE : Hid (decide (t ≤ (s - 1) / 2) = true) := Lib.hid (decide_eq_true h)
    go_enter Try.func72, Try.ntmps72
    go_wp2
    go_ret
    exact ⟨ret_bool (by rw [HE.out]), rfl⟩
  · have HE : Hid (decide (t ≤ (s - 1) / 2) = false) := Lib.hid (decide_eq_false h)
    go_enter Try.func72, Try.ntmps72
    go_wp2
    go_ret
    exact ⟨ret_bool (by rw [HE.out]), rfl⟩

set_option maxRecDepth 20000 in
set_option maxHeartbeats 400000 in
theorem squareSize_any (s : Int) (h1 : 0 ≤ s * s) (h2 : s * s ≤ 1000000000000000000) (w : World) :
    Calls Try.prog 66 #[.int .i64 s] w fun e w' => e = .returned (.int .i64 (s * s)) ∧ w = w' := by
  go_enter Try.func66, Try.ntmps66
  go_wp2
  go_ret
  exact ⟨rfl, rfl⟩
theorem sq_in {s b : Int} (h1 : 0 ≤ s) (h2 : s ≤ b) : 0 ≤ s * s ∧ s * s ≤ b * b := ⟨Int.mul_nonneg h1 h1, Int.mul_le_mul h2 h2 h1 (by omega)⟩

theorem hollow_eq (s t : Int) : s * s - (s - 2 * t) * (s - 2 * t) = 4 * t * (s - t) := by
  simp only [Int.mul_sub, Int.sub_mul]
  have e1 : 2 * t * s = 2 * (t * s) := Int.mul_assoc _ _ _
  have e2 : s * (2 * t) = 2 * (t * s) := by rw [Int.mul_comm, Int.mul_assoc]
  have e3 : 2 * t * (2 * t) = 4 * (t * t) := by rw [Int.mul_assoc, Int.mul_left_comm t 2 t]; omega
  have e4 : 4 * t * s = 4 * (t * s) := Int.mul_assoc _ _ _
  have e5 : 4 * t * t = 4 * (t * t) := Int.mul_assoc _ _ _
  omega
set_option maxRecDepth 20000 in
set_option maxHeartbeats 1000000 in
theorem hollowSize_any (s t : Int) (h1 : 1 ≤ t) (h2 : 2 * t < s) (h3 : s ≤ 1000000) (w : World) :
    Calls Try.prog 73 #[.int .i64 s, .int .i64 t] w fun e w' => e = .returned (.int .i64 (4 * t * (s - t))) ∧ w = w' := by
  have HP := sq_in (s := s) (b := 1000000) (by omega) h3
  have HQ := sq_in (s := s - 2 * t) (b := 1000000) (by omega) (by omega)
  obtain ⟨p1, p2⟩ := HP
  obtain ⟨q1, q2⟩ := HQ
  have HS := Lib.hid (squareSize_any s p1 (by omega) w)
  have HT := Lib.hid (squareSize_any (s - 2 * t) q1 (by omega) w)
  have HE := hollow_eq s t
  obtain ⟨P, hP⟩ : ∃ P, P = s * s := ⟨_, rfl⟩
  obtain ⟨Q, hQ⟩ : ∃ P, P = (s - 2 * t) * (s - 2 * t) := ⟨_, rfl⟩
  rw [← hP] at HS HE p1 p2
  rw [← hQ] at HT HE q1 q2
  have HE := Lib.hid HE
  clear hP hQ
  go_enter Try.func73, Try.ntmps73
  go_wp2_with fail
  go_at_call 66
  refine HS.out.mono ?_
  rintro e w' ⟨rfl, rfl⟩
  go_wp2_with fail
  go_at_call 66
  refine HT.out.mono ?_
  rintro e w' ⟨rfl, rfl⟩
  go_wp2
  go_ret
  exact ⟨rfl, rfl⟩

theorem hollowB_half {s t : Int} (h1 : 3 ≤ s) (h2 : s ≤ 1000) (h3 : 1 ≤ t) : hollowB s t = decide (t ≤ (s - 1) / 2) := by
  unfold hollowB
  rw [inB_of ⟨h1, h2⟩, Bool.true_and]
  unfold inB
  by_cases h : t ≤ (s - 1) / 2
  · rw [decide_eq_true h, decide_eq_true ⟨h3, h⟩]
  · rw [decide_eq_false h, decide_eq_false (fun e => h e.2)]
theorem hollowB_no1 {s t : Int} (h : ¬ (3 ≤ s ∧ s ≤ 1000)) : hollowB s t = false := by unfold hollowB; rw [inB_no h]; rfl
theorem hollowB_no2 {s t : Int} (h : ¬ 1 ≤ t) : hollowB s t = false := by unfold hollowB; rw [inB_no (n := t) (fun e => h e.1)]; simp
theorem outCH_no {s t : Int} (h : hollowB s t = false) : outCountHollow_0 s t = 0 ∧ outCountHollow_1 s t = false := by unfold outCountHollow_0 outCountHollow_1; rw [h]; exact ⟨rfl, rfl⟩
theorem outCH_yes {s t : Int} (h : hollowB s t = true) : outCountHollow_0 s t = 4 * t * (s - t) ∧ outCountHollow_1 s t = true := by unfold outCountHollow_0 outCountHollow_1; rw [h]; exact ⟨rfl, rfl⟩
set_option maxRecDepth 20000 in
set_option maxHeartbeats 1000000 in
theorem implCountHollow_any (w : World) (s t : Int) (_ws : (Lit.int .i64 s).wf = true) (_wt : (Lit.int .i64 t).wf = true) :
    Calls Try.prog 26 #[.int .i64 s, .int .i64 t] w fun e w' => e = .returned (.tuple #[.int .i64 (outCountHollow_0 s t), .bool (outCountHollow_1 s t)]) ∧ Below w.heap.size w w' := by
  clear _ws _wt
  by_cases h1 : 3 ≤ s
  · by_cases h2 : s ≤ 1000
    · by_cases h3 : 1 ≤ t
      · have HH := Lib.hid (hasEmptyPlace_any s t (by omega) (by omega) w)
        have HB := hollowB_half h1 h2 h3
        by_cases h4 : t ≤ (s - 1) / 2
        · rw [decide_eq_true h4] at HH HB
          have H0 := Lib.hid (outCH_yes HB)
          have HS := Lib.hid (hollowSize_any s t h3 (by omega) (by omega) w)
          clear HB h4
          go_enter Try.func26, Try.ntmps26
          go_wp2_with (first | (go_at_call 72; refine HH.out.mono ?_; rintro e w' ⟨rfl, rfl⟩) | (go_at_call 73; refine HS.out.mono ?_; rintro e w' ⟨rfl, rfl⟩))
          go_ret2
          exact ⟨by rw [H0.out.1, H0.out.2]; exact rfl, Below.refl _ _⟩
        · rw [decide_eq_false h4] at HH HB
          have H0 := Lib.hid (outCH_no HB)
          clear HB h4
          go_enter Try.func26, Try.ntmps26
          go_wp2_with (go_at_call 72; refine HH.out.mono ?_; rintro e w' ⟨rfl, rfl⟩)
          go_ret2
          exact ⟨by rw [H0.out.1, H0.out.2]; exact rfl, Below.refl _ _⟩
      · have H0 := Lib.hid (outCH_no (s := s) (hollowB_no2 h3))
        go_enter Try.func26, Try.ntmps26
        go_wp2
        go_ret2
        exact ⟨by rw [H0.out.1, H0.out.2]; exact rfl, Below.refl _ _⟩
    · have H0 := Lib.hid (outCH_no (t := t) (hollowB_no1 (s := s) (by omega)))
      go_enter Try.func26, Try.ntmps26
      go_wp2
      go_ret2
      exact ⟨by rw [H0.out.1, H0.out.2]; exact rfl, Below.refl _ _⟩
  · have H0 := Lib.hid (outCH_no (t := t) (hollowB_no1 (s := s) (by omega)))
    go_enter Try.func26, Try.ntmps26
    go_wp2
    go_ret2
    exact ⟨by rw [H0.out.1, H0.out.2]; exact rfl, Below.refl _ _⟩

theorem greatB_half {n t : Int} (h1 : inB n 1 1000000 = true) (h2 : inB t 1 1000 = true) : greatB n t = decide (t ≤ (n / 4 / t + t - 1) / 2) := by
  unfold greatB
  rw [h1, h2, Bool.true_and, Bool.true_and]
  have := inB_yes h2
  generalize n / 4 / t = x
  by_cases h : 2 * t < x + t
  · rw [decide_eq_true h, decide_eq_true (by omega)]
  · rw [decide_eq_false h, decide_eq_false (by omega)]
theorem outGH_no {n t : Int} (h : greatB n t = false) : outGreatestHollow_0 n t = 0 ∧ outGreatestHollow_1 n t = 0 ∧ outGreatestHollow_2 n t = false := by unfold outGreatestHollow_0 outGreatestHollow_1 outGreatestHollow_2; rw [h]; exact ⟨rfl, rfl, rfl⟩
theorem outGH_yes {n t : Int} (h : greatB n t = true) : outGreatestHollow_0 n t = n / 4 / t + t ∧ outGreatestHollow_1 n t = n - 4 * t * (n / 4 / t) ∧ outGreatestHollow_2 n t = true := by unfold outGreatestHollow_0 outGreatestHollow_1 outGreatestHollow_2; rw [h]; exact ⟨rfl, rfl, rfl⟩
theorem great_no1 {n t : Int} (h : inB n 1 1000000 = false) : greatB n t = false := by unfold greatB; rw [h]; rfl
theorem great_no2 {n t : Int} (h : inB t 1 1000 = false) : greatB n t = false := by unfold greatB; rw [h]; simp
set_option maxRecDepth 20000 in
set_option maxHeartbeats 1000000 in
theorem implGreatestHollow_any (w : World) (n t : Int) (_wn : (Lit.int .i64 n).wf = true) (_wt : (Lit.int .i64 t).wf = true) :
    Calls Try.prog 23 #[.int .i64 n, .int .i64 t] w fun e w' => e = .returned (.tuple #[.int .i64 (outGreatestHollow_0 n t), .int .i64 (outGreatestHollow_1 n t), .bool (outGreatestHollow_2 n t)]) ∧ Below w.heap.size w w' := by
  have HH := Lib.hid (areSoldiers_any n w)
  have HJ := Lib.hid (isWidth_any t w)
  clear _wn _wt
  rcases hb : inB n 1 1000000 with _ | _
  · have H0 := Lib.hid (outGH_no (great_no1 (t := t) hb))
    rw [hb] at HH
    clear hb
    go_enter Try.func23, Try.ntmps23
    go_wp2_with (go_at_call 61; refine HH.out.mono ?_; rintro e w' ⟨rfl, rfl⟩)
    go_ret3
    exact ⟨by rw [H0.out.1, H0.out.2.1, H0.out.2.2]; exact rfl, Below.refl _ _⟩
  · rcases hb2 : inB t 1 1000 with _ | _
    · have H0 := Lib.hid (outGH_no (great_no2 (n := n) hb2))
      rw [hb] at HH
      rw [hb2] at HJ
      clear hb hb2
      go_enter Try.func23, Try.ntmps23
      go_wp2_with (first | (go_at_call 61; refine HH.out.mono ?_; rintro e w' ⟨rfl, rfl⟩) | (go_at_call 71; refine HJ.out.mono ?_; rintro e w' ⟨rfl, rfl⟩))
      go_ret3
      exact ⟨by rw [H0.out.1, H0.out.2.1, H0.out.2.2]; exact rfl, Below.refl _ _⟩
    · obtain ⟨g1, g2, g3, g4⟩ := great_in hb hb2
      have HB := greatB_half hb hb2
      have HDV : n / (4 * t) = n / 4 / t := by rw [Int.ediv_ediv_of_nonneg (by omega)]
      have H0N := fun h => Lib.hid (outGH_no (n := n) (t := t) h)
      have H0Y := fun h => Lib.hid (outGH_yes (n := n) (t := t) h)
      obtain ⟨h1, h2⟩ := inB_yes hb
      obtain ⟨h3, h4⟩ := inB_yes hb2
      obtain ⟨x, hx⟩ : ∃ x, x = n / 4 / t := ⟨_, rfl⟩
      rw [← hx] at g1 g2 g3 g4 HB HDV H0Y
      have ht0 : ¬ 4 * t = 0 := by omega
      have HE := Lib.hid (hasEmptyPlace_any (x + t) t (by omega) (by omega) w)
      rw [hb] at HH
      rw [hb2] at HJ
      clear hb hb2 hx
      by_cases hh : t ≤ (x + t - 1) / 2
      · rw [decide_eq_true hh] at HE HB
        have H0 := H0Y HB
        have HS := Lib.hid (hollowSize_any (x + t) t h3 (by omega) (by omega) w)
        rw [show x + t - t = x by omega] at HS
        clear HB hh H0Y H0N
        go_enter Try.func23, Try.ntmps23
        go_wp2_with (first | (go_at_call 61; refine HH.out.mono ?_; rintro e w' ⟨rfl, rfl⟩) | (go_at_call 71; refine HJ.out.mono ?_; rintro e w' ⟨rfl, rfl⟩) | (go_at_call 72; refine HE.out.mono ?_; rintro e w' ⟨rfl, rfl⟩) | (go_at_call 73; refine HS.out.mono ?_; rintro e w' ⟨rfl, rfl⟩))
        go_ret3
        exact ⟨by rw [H0.out.1, H0.out.2.1, H0.out.2.2]; exact rfl, Below.refl _ _⟩
      · rw [decide_eq_false hh] at HE HB
        have H0 := H0N HB
        clear HB hh H0Y H0N
        go_enter Try.func23, Try.ntmps23
        go_wp2_with (first | (go_at_call 61; refine HH.out.mono ?_; rintro e w' ⟨rfl, rfl⟩) | (go_at_call 71; refine HJ.out.mono ?_; rintro e w' ⟨rfl, rfl⟩) | (go_at_call 72; refine HE.out.mono ?_; rintro e w' ⟨rfl, rfl⟩))
        go_ret3
        exact ⟨by rw [H0.out.1, H0.out.2.1, H0.out.2.2]; exact rfl, Below.refl _ _⟩

theorem placedB_parts (c s : Int) : placedB c s = (inB c 1 1000 && decide (0 ≤ s ∧ s ≤ 999999)) := rfl
theorem outPI_no {c s : Int} (h : placedB c s = false) : outPlaceIn_0 c s = 0 ∧ outPlaceIn_1 c s = 0 ∧ outPlaceIn_2 c s = false := by unfold outPlaceIn_0 outPlaceIn_1 outPlaceIn_2; rw [h]; exact ⟨rfl, rfl, rfl⟩
theorem outPI_yes {c s : Int} (h : placedB c s = true) : outPlaceIn_0 c s = s / c ∧ outPlaceIn_1 c s = s % c ∧ outPlaceIn_2 c s = true := by unfold outPlaceIn_0 outPlaceIn_1 outPlaceIn_2; rw [h]; exact ⟨rfl, rfl, rfl⟩
theorem placed_no1 {c s : Int} (h : inB c 1 1000 = false) : placedB c s = false := by rw [placedB_parts, h]; rfl
theorem placed_no2 {c s : Int} (h : ¬ (0 ≤ s ∧ s ≤ 999999)) : placedB c s = false := by rw [placedB_parts, decide_eq_false h]; simp
theorem placed_yes2 {c s : Int} (h1 : inB c 1 1000 = true) (h : 0 ≤ s ∧ s ≤ 999999) : placedB c s = true := by rw [placedB_parts, h1, decide_eq_true h]; rfl
set_option maxRecDepth 20000 in
set_option maxHeartbeats 1000000 in
theorem implPlaceIn_any (w : World) (c s : Int) (_wc : (Lit.int .i64 c).wf = true) (_ws : (Lit.int .i64 s).wf = true) :
    Calls Try.prog 31 #[.int .i64 c, .int .i64 s] w fun e w' => e = .returned (.tuple #[.int .i64 (outPlaceIn_0 c s), .int .i64 (outPlaceIn_1 c s), .bool (outPlaceIn_2 c s)]) ∧ Below w.heap.size w w' := by
  have HH := Lib.hid (isWidth_any c w)
  clear _wc _ws
  rcases hb : inB c 1 1000 with _ | _
  · have H0 := Lib.hid (outPI_no (placed_no1 (s := s) hb))
    rw [hb] at HH
    clear hb
    go_enter Try.func31, Try.ntmps31
    go_wp2_with (go_at_call 71; refine HH.out.mono ?_; rintro e w' ⟨rfl, rfl⟩)
    go_ret3
    exact ⟨by rw [H0.out.1, H0.out.2.1, H0.out.2.2]; exact rfl, Below.refl _ _⟩
  · by_cases h1 : 0 ≤ s
    · by_cases h2 : s ≤ 999999
      · have H0 := Lib.hid (outPI_yes (placed_yes2 hb ⟨h1, h2⟩))
        obtain ⟨h3, h4⟩ := inB_yes hb
        have hc0 : ¬ c = 0 := by omega
        rw [hb] at HH
        clear hb
        go_enter Try.func31, Try.ntmps31
        go_wp2_with (go_at_call 71; refine HH.out.mono ?_; rintro e w' ⟨rfl, rfl⟩)
        go_quiet (fail)
        go_wp2
        go_ret3
        exact ⟨by rw [H0.out.1, H0.out.2.1, H0.out.2.2]; exact rfl, ⟨rfl, rfl, rfl, Nat.le_refl _, fun _ _ => rfl⟩⟩
      · have H0 := Lib.hid (outPI_no (placed_no2 (c := c) (s := s) (by omega)))
        rw [hb] at HH
        clear hb
        go_enter Try.func31, Try.ntmps31
        go_wp2_with (go_at_call 71; refine HH.out.mono ?_; rintro e w' ⟨rfl, rfl⟩)
        go_ret3
        exact ⟨by rw [H0.out.1, H0.out.2.1, H0.out.2.2]; exact rfl, Below.refl _ _⟩
    · have H0 := Lib.hid (outPI_no (placed_no2 (c := c) (s := s) (by omega)))
      rw [hb] at HH
      clear hb
      go_enter Try.func31, Try.ntmps31
      go_wp2_with (go_at_call 71; refine HH.out.mono ?_; rintro e w' ⟨rfl, rfl⟩)
      go_ret3
      exact ⟨by rw [H0.out.1, H0.out.2.1, H0.out.2.2]; exact rfl, Below.refl _ _⟩

set_option maxRecDepth 20000 in
set_option maxHeartbeats 400000 in
theorem snakeColumn_any (c r k : Int) (w : World) (h1 : 1 ≤ c) (h2 : c ≤ 1000) (h3 : 0 ≤ r) (h4 : r ≤ 1000000) (h5 : 0 ≤ k) (h6 : k ≤ 1000) :
    Calls Try.prog 77 #[.int .i64 c, .int .i64 r, .int .i64 k] w fun e w' => e = .returned (.int .i64 (snake c r k)) ∧ w = w' := by
  by_cases h : r % 2 = 1
  · have HE : Hid (snake c r k = c - 1 - k) := Lib.hid (by unfold snake; rw [if_pos h])
    have hb : (r % 2 == 1) = true := by rw [beq_iff_eq]; exact h
    clear h
    go_enter Try.func77, Try.ntmps77
    go_wp2
    go_ret
    exact ⟨ret_int (by rw [HE.out]), rfl⟩
  · have HE : Hid (snake c r k = k) := Lib.hid (by unfold snake; rw [if_neg h])
    have hb : (r % 2 == 1) = false := by rw [beq_eq_false_iff_ne]; exact h
    clear h
    go_enter Try.func77, Try.ntmps77
    go_wp2
    go_ret
    exact ⟨ret_int (by rw [HE.out]), rfl⟩

theorem outSP_no {c s : Int} (h : placedB c s = false) : outSnakePlace_0 c s = 0 ∧ outSnakePlace_1 c s = 0 ∧ outSnakePlace_2 c s = false := by unfold outSnakePlace_0 outSnakePlace_1 outSnakePlace_2; rw [h]; exact ⟨rfl, rfl, rfl⟩
theorem outSP_yes {c s : Int} (h : placedB c s = true) : outSnakePlace_0 c s = s / c ∧ outSnakePlace_1 c s = snake c (s / c) (s % c) ∧ outSnakePlace_2 c s = true := by unfold outSnakePlace_0 outSnakePlace_1 outSnakePlace_2; rw [h]; exact ⟨rfl, rfl, rfl⟩
set_option maxRecDepth 20000 in
set_option maxHeartbeats 1000000 in
theorem implSnakePlace_any (w : World) (c s : Int) (wc : (Lit.int .i64 c).wf = true) (ws : (Lit.int .i64 s).wf = true) :
    Calls Try.prog 33 #[.int .i64 c, .int .i64 s] w fun e w' => e = .returned (.tuple #[.int .i64 (outSnakePlace_0 c s), .int .i64 (outSnakePlace_1 c s), .bool (outSnakePlace_2 c s)]) ∧ Below w.heap.size w w' := by
  have HH := Lib.hid (implPlaceIn_any w c s wc ws)
  clear wc ws
  rcases hb : placedB c s with _ | _
  · have H0 := Lib.hid (outSP_no hb)
    have H1 := outPI_no hb
    rw [H1.1, H1.2.1, H1.2.2] at HH
    clear hb H1
    go_enter Try.func33, Try.ntmps33
    go_wp2_with fail
    go_at_call 31
    refine HH.out.mono ?_
    rintro e w' ⟨rfl, b2⟩
    have B2 := Lib.hid b2
    clear b2
    go_wp2
    go_ret3
    exact ⟨by rw [H0.out.1, H0.out.2.1, H0.out.2.2]; exact rfl, B2.out⟩
  · have H0 := Lib.hid (outSP_yes hb)
    have H1 := outPI_yes hb
    rw [H1.1, H1.2.1, H1.2.2] at HH
    obtain ⟨h1, h2, h3, h4⟩ := placed_yes hb
    have h5 : 0 ≤ s / c := Int.ediv_nonneg h3 (by omega)
    have h6 : s / c ≤ s := Int.ediv_le_self _ h3
    have h7 := Int.emod_nonneg s (show ¬ c = 0 by omega)
    have h8 := Int.emod_lt_of_pos s (show 0 < c by omega)
    have HS := Lib.hid (fun w2 => snakeColumn_any c (s / c) (s % c) w2 h1 h2 h5 (by omega) h7 (by omega))
    clear hb H1
    go_enter Try.func33, Try.ntmps33
    go_wp2_with fail
    go_at_call 31
    refine HH.out.mono ?_
    rintro e w' ⟨rfl, b2⟩
    have B2 := Lib.hid b2
    clear b2
    go_wp2_with fail
    go_at_call 77
    refine (HS.out _).mono ?_
    rintro e w' ⟨rfl, rfl⟩
    go_wp2
    go_ret3
    exact ⟨by rw [H0.out.1, H0.out.2.1, H0.out.2.2]; exact rfl, B2.out⟩

theorem outSA_no {c r k : Int} (h : atB c r k = false) : outSoldierAt_0 c r k = 0 ∧ outSoldierAt_1 c r k = false := by unfold outSoldierAt_0 outSoldierAt_1; rw [h]; exact ⟨rfl, rfl⟩
theorem outSA_yes {c r k : Int} (h : atB c r k = true) : outSoldierAt_0 c r k = r * c + k ∧ outSoldierAt_1 c r k = true := by unfold outSoldierAt_0 outSoldierAt_1; rw [h]; exact ⟨rfl, rfl⟩
theorem at_no1 {c r k : Int} (h : inB c 1 1000 = false) : atB c r k = false := by unfold atB; rw [h]; rfl
theorem at_no2 {c r k : Int} (h : ¬ (0 ≤ r ∧ r ≤ 1000)) : atB c r k = false := by unfold atB; rw [inB_no h]; simp
theorem at_no3 {c r k : Int} (h : ¬ (0 ≤ k ∧ k ≤ c - 1)) : atB c r k = false := by unfold atB; rw [inB_no h]; simp
theorem at_yes2 {c r k : Int} (h1 : inB c 1 1000 = true) (h2 : 0 ≤ r ∧ r ≤ 1000) (h3 : 0 ≤ k ∧ k ≤ c - 1) : atB c r k = true := by unfold atB; rw [h1, inB_of h2, inB_of h3]; rfl
set_option maxRecDepth 20000 in
set_option maxHeartbeats 1000000 in
theorem soldierAt_any (w : World) (c r k : Int) :
    Calls Try.prog 36 #[.int .i64 c, .int .i64 r, .int .i64 k] w fun e w' => e = .returned (.tuple #[.int .i64 (outSoldierAt_0 c r k), .bool (outSoldierAt_1 c r k)]) ∧ w = w' := by
  have HH := Lib.hid (isWidth_any c w)
  rcases hb : inB c 1 1000 with _ | _
  · have H0 := Lib.hid (outSA_no (at_no1 (r := r) (k := k) hb))
    rw [hb] at HH
    clear hb
    go_enter Try.func36, Try.ntmps36
    go_wp2_with (go_at_call 71; refine HH.out.mono ?_; rintro e w' ⟨rfl, rfl⟩)
    go_ret2
    exact ⟨by rw [H0.out.1, H0.out.2]; exact rfl, rfl⟩
  · rw [hb] at HH
    obtain ⟨c1, c2⟩ := inB_yes hb
    by_cases h1 : 0 ≤ r ∧ r ≤ 1000
    · by_cases h2 : 0 ≤ k ∧ k ≤ c - 1
      · have HY := at_yes2 hb h1 h2
        have H0 := Lib.hid (outSA_yes HY)
        obtain ⟨h7, h8⟩ := at_prod HY
        obtain ⟨h3, h4⟩ := h1
        obtain ⟨h5, h6⟩ := h2
        clear hb HY
        go_enter Try.func36, Try.ntmps36
        go_wp2_with (go_at_call 71; refine HH.out.mono ?_; rintro e w' ⟨rfl, rfl⟩)
        go_ret2
        exact ⟨by rw [H0.out.1, H0.out.2]; exact rfl, rfl⟩
      · have H0 := Lib.hid (outSA_no (at_no3 (r := r) h2))
        obtain ⟨h3, h4⟩ := h1
        by_cases h5 : 0 ≤ k
        · have h6 : c ≤ k := by omega
          clear hb h2
          go_enter Try.func36, Try.ntmps36
          go_wp2_with (go_at_call 71; refine HH.out.mono ?_; rintro e w' ⟨rfl, rfl⟩)
          go_ret2
          exact ⟨by rw [H0.out.1, H0.out.2]; exact rfl, rfl⟩
        · clear hb h2
          go_enter Try.func36, Try.ntmps36
          go_wp2_with (go_at_call 71; refine HH.out.mono ?_; rintro e w' ⟨rfl, rfl⟩)
          go_ret2
          exact ⟨by rw [H0.out.1, H0.out.2]; exact rfl, rfl⟩
    · have H0 := Lib.hid (outSA_no (at_no2 (c := c) (k := k) h1))
      by_cases h5 : 0 ≤ r
      · have h6 : 1000 < r := by omega
        clear hb h1
        go_enter Try.func36, Try.ntmps36
        go_wp2_with (go_at_call 71; refine HH.out.mono ?_; rintro e w' ⟨rfl, rfl⟩)
        go_ret2
        exact ⟨by rw [H0.out.1, H0.out.2]; exact rfl, rfl⟩
      · clear hb h1
        go_enter Try.func36, Try.ntmps36
        go_wp2_with (go_at_call 71; refine HH.out.mono ?_; rintro e w' ⟨rfl, rfl⟩)
        go_ret2
        exact ⟨by rw [H0.out.1, H0.out.2]; exact rfl, rfl⟩
set_option maxRecDepth 20000 in
theorem implSoldierAt_any (w : World) (c r k : Int) (_wc : (Lit.int .i64 c).wf = true) (_wr : (Lit.int .i64 r).wf = true) (_wk : (Lit.int .i64 k).wf = true) :
    Calls Try.prog 36 #[.int .i64 c, .int .i64 r, .int .i64 k] w fun e w' => e = .returned (.tuple #[.int .i64 (outSoldierAt_0 c r k), .bool (outSoldierAt_1 c r k)]) ∧ Below w.heap.size w w' := by
  refine (soldierAt_any w c r k).mono ?_
  rintro e w' ⟨rfl, rfl⟩
  exact ⟨rfl, Below.refl _ _⟩

theorem outSS_no {c r k : Int} (h : atB c r k = false) : outSoldierOfSnake_0 c r k = 0 ∧ outSoldierOfSnake_1 c r k = false := by unfold outSoldierOfSnake_0 outSoldierOfSnake_1; rw [h]; exact ⟨rfl, rfl⟩
theorem outSS_yes {c r k : Int} (h : atB c r k = true) : outSoldierOfSnake_0 c r k = r * c + snake c r k ∧ outSoldierOfSnake_1 c r k = true := by unfold outSoldierOfSnake_0 outSoldierOfSnake_1; rw [h]; exact ⟨rfl, rfl⟩
theorem at_snake {c r k : Int} (h : atB c r k = true) : atB c r (snake c r k) = true := by
  obtain ⟨h1, h2, h3, h4, h5, h6⟩ := at_yes h
  exact at_yes2 (inB_of ⟨h1, h2⟩) ⟨h3, h4⟩ (by unfold snake; split <;> omega)
set_option maxRecDepth 20000 in
set_option maxHeartbeats 1000000 in
theorem implSoldierOfSnake_any (w : World) (c r k : Int) (_wc : (Lit.int .i64 c).wf = true) (_wr : (Lit.int .i64 r).wf = true) (_wk : (Lit.int .i64 k).wf = true) :
    Calls Try.prog 38 #[.int .i64 c, .int .i64 r, .int .i64 k] w fun e w' => e = .returned (.tuple #[.int .i64 (outSoldierOfSnake_0 c r k), .bool (outSoldierOfSnake_1 c r k)]) ∧ Below w.heap.size w w' := by
  have HH := Lib.hid (soldierAt_any w c r k)
  clear _wc _wr _wk
  rcases hb : atB c r k with _ | _
  · have H0 := Lib.hid (outSS_no hb)
    have H1 := outSA_no hb
    rw [H1.1, H1.2] at HH
    clear hb H1
    go_enter Try.func38, Try.ntmps38
    go_wp2_with (go_at_call 36; refine HH.out.mono ?_; rintro e w' ⟨rfl, rfl⟩)
    go_ret2
    exact ⟨by rw [H0.out.1, H0.out.2]; exact rfl, Below.refl _ _⟩
  · have H0 := Lib.hid (outSS_yes hb)
    have H1 := outSA_yes hb
    have H2 := outSA_yes (at_snake hb)
    have H3 := soldierAt_any w c r (snake c r k)
    rw [H1.1, H1.2] at HH
    rw [H2.1, H2.2] at H3
    obtain ⟨h1, h2, h3, h4, h5, h6⟩ := at_yes hb
    have HS := Lib.hid (snakeColumn_any c r k w h1 h2 h3 (by omega) h5 (by omega))
    obtain ⟨z, hz⟩ : ∃ z, z = snake c r k := ⟨_, rfl⟩
    rw [← hz] at HS H0 H3
    have HT := Lib.hid H3
    clear hb H1 H2 H3 hz
    go_enter Try.func38, Try.ntmps38
    go_wp2_with fail
    go_at_call 36
    refine HH.out.mono ?_
    rintro e w' ⟨rfl, rfl⟩
    go_wp2_with fail
    go_at_call 77
    refine HS.out.mono ?_
    rintro e w' ⟨rfl, rfl⟩
    go_wp2_with fail
    go_at_call 36
    refine HT.out.mono ?_
    rintro e w' ⟨rfl, rfl⟩
    go_wp2
    go_ret2
    exact ⟨by rw [H0.out.1, H0.out.2]; exact rfl, Below.refl _ _⟩

end Go.Proofs.Ytjdbmkphakpmbaa
