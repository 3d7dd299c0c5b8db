/- Chapter 3, numbers: plain facts, and the model's functions of numbers alone. -/
import Derived.Test.YtjdbmkphakpmbaaIn
namespace Go.Proofs.Ytjdbmkphakpmbaa
open Go.ChangeShapes Go.WideShapes Go.ChangeAt Go.RowKit

namespace Fo
def hollowB (s t : Int) : Bool := inB s 3 1000 && inB t 1 ((s - 1) / 2)
def placedB (c s : Int) : Bool := inB c 1 1000 && inB s 0 999999
def atB (c r k : Int) : Bool := inB c 1 1000 && (inB r 0 1000 && inB k 0 (c - 1))
def snake (c r k : Int) : Int := if r % 2 = 1 then c - 1 - k else k
def greatB (n t : Int) : Bool := inB n 1 1000000 && (inB t 1 1000 && decide (2 * t < n / 4 / t + t))
end Fo
open Fo
def outCountHollow_0 (s t : Int) : Int := if hollowB s t then 4 * t * (s - t) else 0
def outCountHollow_1 (s t : Int) : Bool := hollowB s t
def outPlaceIn_0 (c s : Int) : Int := if placedB c s then s / c else 0
def outPlaceIn_1 (c s : Int) : Int := if placedB c s then s % c else 0
def outPlaceIn_2 (c s : Int) : Bool := placedB c s
def outSnakePlace_0 (c s : Int) : Int := if placedB c s then s / c else 0
def outSnakePlace_1 (c s : Int) : Int := if placedB c s then snake c (s / c) (s % c) else 0
def outSnakePlace_2 (c s : Int) : Bool := placedB c s
def outSoldierAt_0 (c r k : Int) : Int := if atB c r k then r * c + k else 0
def outSoldierAt_1 (c r k : Int) : Bool := atB c r k
def outSoldierOfSnake_0 (c r k : Int) : Int := if atB c r k then r * c + snake c r k else 0
def outSoldierOfSnake_1 (c r k : Int) : Bool := atB c r k
def outGreatestHollow_0 (n t : Int) : Int := if greatB n t then n / 4 / t + t else 0
def outGreatestHollow_1 (n t : Int) : Int := if greatB n t then n - 4 * t * (n / 4 / t) else 0
def outGreatestHollow_2 (n t : Int) : Bool := greatB n t

set_option maxRecDepth 20000 in
set_option maxHeartbeats 400000 in
theorem foSoldiers_any (n : Int) (w : World) :
    Calls Try.prog 63 #[.int .i64 n] w fun e w' => e = .returned (.bool (inB n 1 1000000)) ∧ w = w' := by
  have HI := Lib.hid (l1In_any n 1 1000000 w)
  go_enter Try.func63, Try.ntmps63
  go_wp2_with (go_at_call 75; refine HI.out.mono ?_; rintro e w' ⟨rfl, rfl⟩)
  go_ret
  exact ⟨rfl, rfl⟩

set_option maxRecDepth 20000 in
set_option maxHeartbeats 400000 in
theorem foHollow_any (s t : Int) (w : World) :
    Calls Try.prog 74 #[.int .i64 s, .int .i64 t] w fun e w' => e = .returned (.bool (hollowB s t)) ∧ w = w' := by
  have HI := Lib.hid (l1In_any s 3 1000 w)
  have HJ := Lib.hid (l1In_any t 1 ((s - 1) / 2) w)
  rcases hb : inB s 3 1000 with _ | _
  · have HE : Hid (hollowB s t = false) := Lib.hid (by unfold hollowB; rw [hb]; rfl)
    rw [hb] at HI
    go_enter Try.func74, Try.ntmps74
    go_wp2_with (go_at_call 75; refine HI.out.mono ?_; rintro e w' ⟨rfl, rfl⟩)
    go_ret
    exact ⟨ret_bool (by rw [HE.out]), rfl⟩
  · have HE : Hid (hollowB s t = inB t 1 ((s - 1) / 2)) := Lib.hid (by unfold hollowB; rw [hb]; rfl)
    have hs := inB_yes hb
    rw [hb] at HI
    clear hb
    obtain ⟨h1, h2⟩ := hs
    go_enter Try.func74, Try.ntmps74
    go_wp2_with fail
    go_at_call 75
    refine HI.out.mono ?_
    rintro e w' ⟨rfl, rfl⟩
    go_wp2_with fail
    go_at_call 75
    refine HJ.out.mono ?_
    rintro e w' ⟨rfl, rfl⟩
    go_wp2
    go_ret
    exact ⟨ret_bool (by rw [HE.out]), rfl⟩

set_option maxRecDepth 20000 in
set_option maxHeartbeats 400000 in
theorem specCountHollow_any (w : World) (s t : Int) (_ws : (Lit.int .i64 s).wf = true) (_wt : (Lit.int .i64 t).wf = true) :
    Calls Try.prog 27 #[.int .i64 s, .int .i64 t] w fun e w' => e = .returned (.tuple #[.int .i64 (outCountHollow_0 s t), .bool (outCountHollow_1 s t)]) ∧ Below w.heap.size w w' := by
  have HH := Lib.hid (foHollow_any s t w)
  clear _ws _wt
  rcases hb : hollowB s t with _ | _
  · have H0 : Hid (outCountHollow_0 s t = 0) := Lib.hid (by unfold outCountHollow_0; rw [hb]; rfl)
    have H1 : Hid (outCountHollow_1 s t = false) := hb
    rw [hb] at HH
    clear hb
    go_enter Try.func27, Try.ntmps27
    go_wp2_with (go_at_call 74; refine HH.out.mono ?_; rintro e w' ⟨rfl, rfl⟩)
    go_ret2
    exact ⟨by rw [H0.out, H1.out]; exact rfl, Below.refl _ _⟩
  · have H0 : Hid (outCountHollow_0 s t = 4 * t * (s - t)) := Lib.hid (by unfold outCountHollow_0; rw [hb]; rfl)
    have H1 : Hid (outCountHollow_1 s t = true) := hb
    have hb2 := hb
    unfold hollowB at hb2
    rw [Bool.and_eq_true] at hb2
    obtain ⟨h1, h2⟩ := hb2
    have h3 := inB_yes h1
    have h4 := inB_yes h2
    rw [hb] at HH
    have h5 : 0 ≤ 4 * t * (s - t) := Int.mul_nonneg (by omega) (by omega)
    have h6 : 4 * t * (s - t) ≤ 2000 * 1000 := Int.mul_le_mul (by omega) (by omega) (by omega) (by omega)
    obtain ⟨h7, h8⟩ := h3
    obtain ⟨h9, h10⟩ := h4
    have h11 : t ≤ 500 := by omega
    clear hb h1 h2 h10
    go_enter Try.func27, Try.ntmps27
    go_wp2_with (go_at_call 74; refine HH.out.mono ?_; rintro e w' ⟨rfl, rfl⟩)
    go_ret2
    exact ⟨by rw [H0.out, H1.out]; exact rfl, Below.refl _ _⟩

set_option maxRecDepth 20000 in
set_option maxHeartbeats 400000 in
theorem foPlaced_any (c s : Int) (w : World) :
    Calls Try.prog 76 #[.int .i64 c, .int .i64 s] w fun e w' => e = .returned (.bool (placedB c s)) ∧ w = w' := by
  have HI := Lib.hid (l1In_any c 1 1000 w)
  have HJ := Lib.hid (l1In_any s 0 999999 w)
  rcases hb : inB c 1 1000 with _ | _
  · have HE : Hid (placedB c s = false) := Lib.hid (by unfold placedB; rw [hb]; rfl)
    rw [hb] at HI
    go_enter Try.func76, Try.ntmps76
    go_wp2_with (go_at_call 75; refine HI.out.mono ?_; rintro e w' ⟨rfl, rfl⟩)
    go_ret
    exact ⟨ret_bool (by rw [HE.out]), rfl⟩
  · have HE : Hid (placedB c s = inB s 0 999999) := Lib.hid (by unfold placedB; rw [hb]; rfl)
    rw [hb] at HI
    go_enter Try.func76, Try.ntmps76
    go_wp2_with fail
    go_at_call 75
    refine HI.out.mono ?_
    rintro e w' ⟨rfl, rfl⟩
    go_wp2_with fail
    go_at_call 75
    refine HJ.out.mono ?_
    rintro e w' ⟨rfl, rfl⟩
    go_wp2
    go_ret
    exact ⟨ret_bool (by rw [HE.out]), rfl⟩
theorem placed_yes {c s : Int} (h : placedB c s = true) : 1 ≤ c ∧ c ≤ 1000 ∧ 0 ≤ s ∧ s ≤ 999999 := by
  unfold placedB at h
  rw [Bool.and_eq_true] at h
  have h1 := inB_yes h.1
  have h2 := inB_yes h.2
  omega

set_option maxRecDepth 20000 in
set_option maxHeartbeats 400000 in
theorem specPlaceIn_any (w : World) (c s : Int) (_wc : (Lit.int .i64 c).wf = true) (_ws : (Lit.int .i64 s).wf = true) :
    Calls Try.prog 32 #[.int .i64 c, .int .i64 s] w fun e w' => e = .returned (.tuple #[.int .i64 (outPlaceIn_0 c s), .int .i64 (outPlaceIn_1 c s), .bool (outPlaceIn_2 c s)]) ∧ Below w.heap.size w w' := by
  have HH := Lib.hid (foPlaced_any c s w)
  clear _wc _ws
  rcases hb : placedB c s with _ | _
  · have H0 : Hid (outPlaceIn_0 c s = 0 ∧ outPlaceIn_1 c s = 0 ∧ outPlaceIn_2 c s = false) := Lib.hid (by unfold outPlaceIn_0 outPlaceIn_1 outPlaceIn_2; rw [hb]; exact ⟨rfl, rfl, rfl⟩)
    rw [hb] at HH
    clear hb
    go_enter Try.func32, Try.ntmps32
    go_wp2_with (go_at_call 76; refine HH.out.mono ?_; rintro e w' ⟨rfl, rfl⟩)
    go_ret3
    exact ⟨by rw [H0.out.1, H0.out.2.1, H0.out.2.2]; exact rfl, Below.refl _ _⟩
  · have H0 : Hid (outPlaceIn_0 c s = s / c ∧ outPlaceIn_1 c s = s % c ∧ outPlaceIn_2 c s = true) := Lib.hid (by unfold outPlaceIn_0 outPlaceIn_1 outPlaceIn_2; rw [hb]; exact ⟨rfl, rfl, rfl⟩)
    obtain ⟨h1, h2, h3, h4⟩ := placed_yes hb
    have hc0 : ¬ c = 0 := by omega
    rw [hb] at HH
    clear hb
    go_enter Try.func32, Try.ntmps32
    go_wp2_with (go_at_call 76; refine HH.out.mono ?_; rintro e w' ⟨rfl, rfl⟩)
    go_quiet (fail)
    go_wp2
    go_ret3
    exact ⟨by rw [H0.out.1, H0.out.2.1, H0.out.2.2]; exact rfl, ⟨rfl, rfl, rfl, Nat.le_refl _, fun _ _ => rfl⟩⟩

set_option maxRecDepth 20000 in
set_option maxHeartbeats 400000 in
theorem foSnake_any (c r k : Int) (w : World) (h1 : 1 ≤ c) (h2 : c ≤ 1000) (h3 : 0 ≤ r) (h4 : r ≤ 1000000) (h5 : 0 ≤ k) (h6 : k ≤ 1000) :
    Calls Try.prog 78 #[.int .i64 c, .int .i64 r, .int .i64 k] w fun e w' => e = .returned (.int .i64 (snake c r k)) ∧ w = w' := by
  by_cases h : r % 2 = 1
  · have HE : Hid (snake c r k = c - 1 - k) := Lib.hid (by unfold snake; rw [if_pos h])
    have hb : (r % 2 == 1) = true := by rw [beq_iff_eq]; exact h
    clear h
    go_enter Try.func78, Try.ntmps78
    go_wp2
    go_ret
    exact ⟨ret_int (by rw [HE.out]), rfl⟩
  · have HE : Hid (snake c r k = k) := Lib.hid (by unfold snake; rw [if_neg h])
    have hb : (r % 2 == 1) = false := by rw [beq_eq_false_iff_ne]; exact h
    clear h
    go_enter Try.func78, Try.ntmps78
    go_wp2
    go_ret
    exact ⟨ret_int (by rw [HE.out]), rfl⟩
theorem snake_bd {c r k : Int} (h1 : 1 ≤ c) (h2 : c ≤ 1000) (h5 : 0 ≤ k) (h6 : k < c) : 0 ≤ snake c r k ∧ snake c r k ≤ 1000 := by
  unfold snake; split <;> omega

set_option maxRecDepth 20000 in
set_option maxHeartbeats 400000 in
theorem specSnakePlace_any (w : World) (c s : Int) (_wc : (Lit.int .i64 c).wf = true) (_ws : (Lit.int .i64 s).wf = true) :
    Calls Try.prog 34 #[.int .i64 c, .int .i64 s] w fun e w' => e = .returned (.tuple #[.int .i64 (outSnakePlace_0 c s), .int .i64 (outSnakePlace_1 c s), .bool (outSnakePlace_2 c s)]) ∧ Below w.heap.size w w' := by
  have HH := Lib.hid (foPlaced_any c s w)
  clear _wc _ws
  rcases hb : placedB c s with _ | _
  · have H0 : Hid (outSnakePlace_0 c s = 0 ∧ outSnakePlace_1 c s = 0 ∧ outSnakePlace_2 c s = false) := Lib.hid (by unfold outSnakePlace_0 outSnakePlace_1 outSnakePlace_2; rw [hb]; exact ⟨rfl, rfl, rfl⟩)
    rw [hb] at HH
    clear hb
    go_enter Try.func34, Try.ntmps34
    go_wp2_with (go_at_call 76; refine HH.out.mono ?_; rintro e w' ⟨rfl, rfl⟩)
    go_ret3
    exact ⟨by rw [H0.out.1, H0.out.2.1, H0.out.2.2]; exact rfl, Below.refl _ _⟩
  · have H0 : Hid (outSnakePlace_0 c s = s / c ∧ outSnakePlace_1 c s = snake c (s / c) (s % c) ∧ outSnakePlace_2 c s = true) := Lib.hid (by unfold outSnakePlace_0 outSnakePlace_1 outSnakePlace_2; rw [hb]; exact ⟨rfl, rfl, rfl⟩)
    obtain ⟨h1, h2, h3, h4⟩ := placed_yes hb
    have hc0 : ¬ c = 0 := by omega
    have h5 : 0 ≤ s / c := Int.ediv_nonneg h3 (by omega)
    have h6 : s / c ≤ s := Int.ediv_le_self _ h3
    have h7 := Int.emod_nonneg s hc0
    have h8 := Int.emod_lt_of_pos s (show 0 < c by omega)
    have HS := Lib.hid (fun w2 => foSnake_any c (s / c) (s % c) w2 h1 h2 h5 (by omega) h7 (by omega))
    rw [hb] at HH
    clear hb
    go_enter Try.func34, Try.ntmps34
    go_wp2_with (go_at_call 76; refine HH.out.mono ?_; rintro e w' ⟨rfl, rfl⟩)
    go_at_call 78
    refine (HS.out _).mono ?_
    rintro e w' ⟨rfl, rfl⟩
    go_wp2
    go_ret3
    exact ⟨by rw [H0.out.1, H0.out.2.1, H0.out.2.2]; exact rfl, ⟨rfl, rfl, rfl, Nat.le_refl _, fun _ _ => rfl⟩⟩

theorem at_yes {c r k : Int} (h : atB c r k = true) : 1 ≤ c ∧ c ≤ 1000 ∧ 0 ≤ r ∧ r ≤ 1000 ∧ 0 ≤ k ∧ k ≤ c - 1 := by
  unfold atB at h
  rw [Bool.and_eq_true, Bool.and_eq_true] at h
  have h1 := inB_yes h.1
  have h2 := inB_yes h.2.1
  have h3 := inB_yes h.2.2
  omega
theorem at_prod {c r k : Int} (h : atB c r k = true) : 0 ≤ r * c ∧ r * c ≤ 1000000 := by
  obtain ⟨h1, h2, h3, h4, _⟩ := at_yes h
  exact ⟨Int.mul_nonneg h3 (by omega), by have := Int.mul_le_mul h4 h2 (by omega) (by omega); omega⟩
set_option maxRecDepth 20000 in
set_option maxHeartbeats 400000 in
theorem foAt_any (c r k : Int) (w : World) :
    Calls Try.prog 79 #[.int .i64 c, .int .i64 r, .int .i64 k] w fun e w' => e = .returned (.bool (atB c r k)) ∧ w = w' := by
  have HI := Lib.hid (l1In_any c 1 1000 w)
  have HJ := Lib.hid (l1In_any r 0 1000 w)
  have HK := Lib.hid (l1In_any k 0 (c - 1) w)
  rcases hb : inB c 1 1000 with _ | _
  · have HE : Hid (atB c r k = false) := Lib.hid (by unfold atB; rw [hb]; rfl)
    rw [hb] at HI
    go_enter Try.func79, Try.ntmps79
    go_wp2_with (go_at_call 75; refine HI.out.mono ?_; rintro e w' ⟨rfl, rfl⟩)
    go_ret
    exact ⟨ret_bool (by rw [HE.out]), rfl⟩
  · have h1 := inB_yes hb
    obtain ⟨h1, h2⟩ := h1
    rcases hb2 : inB r 0 1000 with _ | _
    · have HE : Hid (atB c r k = false) := Lib.hid (by unfold atB; rw [hb, hb2]; rfl)
      rw [hb] at HI
      rw [hb2] at HJ
      clear hb hb2
      go_enter Try.func79, Try.ntmps79
      go_wp2_with fail
      go_at_call 75
      refine HI.out.mono ?_
      rintro e w' ⟨rfl, rfl⟩
      go_wp2_with fail
      go_at_call 75
      refine HJ.out.mono ?_
      rintro e w' ⟨rfl, rfl⟩
      go_wp2
      go_ret
      exact ⟨ret_bool (by rw [HE.out]), rfl⟩
    · have HE : Hid (atB c r k = inB k 0 (c - 1)) := Lib.hid (by unfold atB; rw [hb, hb2]; rfl)
      rw [hb] at HI
      rw [hb2] at HJ
      clear hb hb2
      go_enter Try.func79, Try.ntmps79
      go_wp2_with fail
      go_at_call 75
      refine HI.out.mono ?_
      rintro e w' ⟨rfl, rfl⟩
      go_wp2_with fail
      go_at_call 75
      refine HJ.out.mono ?_
      rintro e w' ⟨rfl, rfl⟩
      go_wp2_with fail
      go_at_call 75
      refine HK.out.mono ?_
      rintro e w' ⟨rfl, rfl⟩
      go_wp2
      go_ret
      exact ⟨ret_bool (by rw [HE.out]), rfl⟩

set_option maxRecDepth 20000 in
set_option maxHeartbeats 400000 in
theorem specSoldierAt_any (w : World) (c r k : Int) (_wc : (Lit.int .i64 c).wf = true) (_wr : (Lit.int .i64 r).wf = true) (_wk : (Lit.int .i64 k).wf = true) :
    Calls Try.prog 37 #[.int .i64 c, .int .i64 r, .int .i64 k] w fun e w' => e = .returned (.tuple #[.int .i64 (outSoldierAt_0 c r k), .bool (outSoldierAt_1 c r k)]) ∧ Below w.heap.size w w' := by
  have HH := Lib.hid (foAt_any c r k w)
  clear _wc _wr _wk
  rcases hb : atB c r k with _ | _
  · have H0 : Hid (outSoldierAt_0 c r k = 0 ∧ outSoldierAt_1 c r k = false) := Lib.hid (by unfold outSoldierAt_0 outSoldierAt_1; rw [hb]; exact ⟨rfl, rfl⟩)
    rw [hb] at HH
    clear hb
    go_enter Try.func37, Try.ntmps37
    go_wp2_with (go_at_call 79; refine HH.out.mono ?_; rintro e w' ⟨rfl, rfl⟩)
    go_ret2
    exact ⟨by rw [H0.out.1, H0.out.2]; exact rfl, Below.refl _ _⟩
  · have H0 : Hid (outSoldierAt_0 c r k = r * c + k ∧ outSoldierAt_1 c r k = true) := Lib.hid (by unfold outSoldierAt_0 outSoldierAt_1; rw [hb]; exact ⟨rfl, rfl⟩)
    obtain ⟨h1, h2, h3, h4, h5, h6⟩ := at_yes hb
    obtain ⟨h7, h8⟩ := at_prod hb
    rw [hb] at HH
    clear hb
    go_enter Try.func37, Try.ntmps37
    go_wp2_with (go_at_call 79; refine HH.out.mono ?_; rintro e w' ⟨rfl, rfl⟩)
    go_ret2
    exact ⟨by rw [H0.out.1, H0.out.2]; exact rfl, Below.refl _ _⟩

set_option maxRecDepth 20000 in
set_option maxHeartbeats 400000 in
theorem specSoldierOfSnake_any (w : World) (c r k : Int) (_wc : (Lit.int .i64 c).wf = true) (_wr : (Lit.int .i64 r).wf = true) (_wk : (Lit.int .i64 k).wf = true) :
    Calls Try.prog 39 #[.int .i64 c, .int .i64 r, .int .i64 k] w fun e w' => e = .returned (.tuple #[.int .i64 (outSoldierOfSnake_0 c r k), .bool (outSoldierOfSnake_1 c r k)]) ∧ Below w.heap.size w w' := by
  have HH := Lib.hid (foAt_any c r k w)
  clear _wc _wr _wk
  rcases hb : atB c r k with _ | _
  · have H0 : Hid (outSoldierOfSnake_0 c r k = 0 ∧ outSoldierOfSnake_1 c r k = false) := Lib.hid (by unfold outSoldierOfSnake_0 outSoldierOfSnake_1; rw [hb]; exact ⟨rfl, rfl⟩)
    rw [hb] at HH
    clear hb
    go_enter Try.func39, Try.ntmps39
    go_wp2_with (go_at_call 79; refine HH.out.mono ?_; rintro e w' ⟨rfl, rfl⟩)
    go_ret2
    exact ⟨by rw [H0.out.1, H0.out.2]; exact rfl, Below.refl _ _⟩
  · have H0 : Hid (outSoldierOfSnake_0 c r k = r * c + snake c r k ∧ outSoldierOfSnake_1 c r k = true) := Lib.hid (by unfold outSoldierOfSnake_0 outSoldierOfSnake_1; rw [hb]; exact ⟨rfl, rfl⟩)
    obtain ⟨h1, h2, h3, h4, h5, h6⟩ := at_yes hb
    obtain ⟨h7, h8⟩ := at_prod hb
    have HS := Lib.hid (fun w2 => foSnake_any c r k w2 h1 h2 h3 (by omega) h5 (by omega))
    have hsb := snake_bd (r := r) h1 h2 h5 (by omega)
    obtain ⟨z, hz⟩ : ∃ z, z = snake c r k := ⟨_, rfl⟩
    rw [← hz] at HS hsb H0
    obtain ⟨h9, h10⟩ := hsb
    rw [hb] at HH
    clear hb hz
    go_enter Try.func39, Try.ntmps39
    go_wp2_with (go_at_call 79; refine HH.out.mono ?_; rintro e w' ⟨rfl, rfl⟩)
    go_at_call 78
    refine (HS.out _).mono ?_
    rintro e w' ⟨rfl, rfl⟩
    go_wp2
    go_ret2
    exact ⟨by rw [H0.out.1, H0.out.2]; exact rfl, ⟨rfl, rfl, rfl, Nat.le_refl _, fun _ _ => rfl⟩⟩

theorem great_in {n t : Int} (h1 : inB n 1 1000000 = true) (h2 : inB t 1 1000 = true) : 0 ≤ n / 4 / t ∧ n / 4 / t ≤ 250000 ∧ 0 ≤ 4 * t * (n / 4 / t) ∧ 4 * t * (n / 4 / t) ≤ n := by
  have h3 := inB_yes h1
  have h4 := inB_yes h2
  have h5 : 0 ≤ n / 4 / t := Int.ediv_nonneg (by omega) (by omega)
  have h6 : n / 4 / t ≤ n / 4 := Int.ediv_le_self _ (by omega)
  have h7 : t * (n / 4 / t) ≤ n / 4 := Int.mul_ediv_self_le (by omega)
  have h8 : 0 ≤ t * (n / 4 / t) := Int.mul_nonneg (by omega) h5
  rw [Int.mul_assoc]
  exact ⟨h5, by omega, by omega, by omega⟩
set_option maxRecDepth 20000 in
set_option maxHeartbeats 400000 in
theorem specGreatestHollow_any (w : World) (n t : Int) (_wn : (Lit.int .i64 n).wf = true) (_wt : (Lit.int .i64 t).wf = true) :
    Calls Try.prog 29 #[.int .i64 n, .int .i64 t] w fun e w' => e = .returned (.tuple #[.int .i64 (outGreatestHollow_0 n t), .int .i64 (outGreatestHollow_1 n t), .bool (outGreatestHollow_2 n t)]) ∧ Below w.heap.size w w' := by
  have HH := Lib.hid (foSoldiers_any n w)
  have HJ := Lib.hid (l1In_any t 1 1000 w)
  clear _wn _wt
  rcases hb : inB n 1 1000000 with _ | _
  · have H0 : Hid (outGreatestHollow_0 n t = 0 ∧ outGreatestHollow_1 n t = 0 ∧ outGreatestHollow_2 n t = false) := Lib.hid (by unfold outGreatestHollow_0 outGreatestHollow_1 outGreatestHollow_2 greatB; rw [hb]; exact ⟨rfl, rfl, rfl⟩)
    rw [hb] at HH
    clear hb
    go_enter Try.func29, Try.ntmps29
    go_wp2_with (go_at_call 63; refine HH.out.mono ?_; rintro e w' ⟨rfl, rfl⟩)
    go_ret3
    exact ⟨by rw [H0.out.1, H0.out.2.1, H0.out.2.2]; exact rfl, Below.refl _ _⟩
  · rcases hb2 : inB t 1 1000 with _ | _
    · have H0 : Hid (outGreatestHollow_0 n t = 0 ∧ outGreatestHollow_1 n t = 0 ∧ outGreatestHollow_2 n t = false) := Lib.hid (by unfold outGreatestHollow_0 outGreatestHollow_1 outGreatestHollow_2 greatB; rw [hb, hb2]; exact ⟨rfl, rfl, rfl⟩)
      rw [hb] at HH
      rw [hb2] at HJ
      clear hb hb2
      go_enter Try.func29, Try.ntmps29
      go_wp2_with (first | (go_at_call 63; refine HH.out.mono ?_; rintro e w' ⟨rfl, rfl⟩) | (go_at_call 75; refine HJ.out.mono ?_; rintro e w' ⟨rfl, rfl⟩))
      go_ret3
      exact ⟨by rw [H0.out.1, H0.out.2.1, H0.out.2.2]; exact rfl, Below.refl _ _⟩
    · obtain ⟨g1, g2, g3, g4⟩ := great_in hb hb2
      obtain ⟨h1, h2⟩ := inB_yes hb
      obtain ⟨h3, h4⟩ := inB_yes hb2
      have ht0 : ¬ t = 0 := by omega
      by_cases hlt : 2 * t < n / 4 / t + t
      · have H0 : Hid (outGreatestHollow_0 n t = n / 4 / t + t ∧ outGreatestHollow_1 n t = n - 4 * t * (n / 4 / t) ∧ outGreatestHollow_2 n t = true) := Lib.hid (by unfold outGreatestHollow_0 outGreatestHollow_1 outGreatestHollow_2 greatB; rw [hb, hb2, decide_eq_true hlt]; exact ⟨rfl, rfl, rfl⟩)
        have hle : ¬ n / 4 / t + t ≤ 2 * t := by omega
        rw [hb] at HH
        rw [hb2] at HJ
        clear hb hb2 hlt
        go_enter Try.func29, Try.ntmps29
        go_wp2_with (first | (go_at_call 63; refine HH.out.mono ?_; rintro e w' ⟨rfl, rfl⟩) | (go_at_call 75; refine HJ.out.mono ?_; rintro e w' ⟨rfl, rfl⟩))
        go_ret3
        exact ⟨by rw [H0.out.1, H0.out.2.1, H0.out.2.2]; exact rfl, Below.refl _ _⟩
      · have H0 : Hid (outGreatestHollow_0 n t = 0 ∧ outGreatestHollow_1 n t = 0 ∧ outGreatestHollow_2 n t = false) := Lib.hid (by unfold outGreatestHollow_0 outGreatestHollow_1 outGreatestHollow_2 greatB; rw [hb, hb2, decide_eq_false hlt]; exact ⟨rfl, rfl, rfl⟩)
        have hle : n / 4 / t + t ≤ 2 * t := by omega
        rw [hb] at HH
        rw [hb2] at HJ
        clear hb hb2 hlt
        go_enter Try.func29, Try.ntmps29
        go_wp2_with (first | (go_at_call 63; refine HH.out.mono ?_; rintro e w' ⟨rfl, rfl⟩) | (go_at_call 75; refine HJ.out.mono ?_; rintro e w' ⟨rfl, rfl⟩))
        go_ret3
        exact ⟨by rw [H0.out.1, H0.out.2.1, H0.out.2.2]; exact rfl, Below.refl _ _⟩

end Go.Proofs.Ytjdbmkphakpmbaa
