/- The walks of the laws FnExactTicksToRest and FnExactIsAtRest. -/
import Derived.Test.YtejlllmbcakacaaSpec
import Derived.Test.YtejlllmbcakacaaTold
namespace Go.Proofs.Ytejlllmbcakacaa
open Go.ChangeShapes Go.WideShapes Go.ChangeAt Go.RowKit

theorem sum_zeros (n : Nat) : (List.replicate n 0).sum = 0 := by simp

set_option maxHeartbeats 400000 in
theorem specTicks_no (s : ByteArray) (hs : s.size ≤ maxLen) (hg : goodB s = false) (w : World) :
    Calls Try.prog 34 #[.string s] w fun e w' => e = .returned (.tuple #[.int .i64 0, .bool false]) ∧ w = w' := by
  go_enter Try.func34, Try.ntmps34
  go_wp2_with (go_at_call 36; refine (rwGood_any _ _ hs).mono ?_; rintro e w' ⟨rfl, rfl⟩)
  go_ret2
  exact ⟨rfl, rfl⟩
set_option maxHeartbeats 400000 in
theorem specTicks_yes (l : List Bool) (h1 : 1 ≤ l.length) (h2 : l.length ≤ 60) (w : World) :
    Calls Try.prog 34 #[.string (Rw.str l)] w fun e w' => e = .returned (.tuple #[.int .i64 (Rw.ticksOf l : Nat), .bool true]) ∧ Below w.heap.size w w' := by
  have hgood := goodB_str h1 h2
  have hml : (Rw.str l).size ≤ maxLen := by rw [Rw.size_str]; unfold maxLen; omega
  go_enter Try.func34, Try.ntmps34
  go_wp2_with (first | (go_at_call 36; refine (rwGood_any _ _ hml).mono ?_; rintro e w' ⟨rfl, rfl⟩) | (go_at_call 55; refine (rwRest_any l h1 h2 _).mono ?_; rintro e w' ⟨rfl, hb⟩))
  go_ret2
  exact ⟨rfl, hb⟩
set_option maxHeartbeats 400000 in
theorem implTicks_no (s : ByteArray) (hs : s.size ≤ maxLen) (hg : goodB s = false) (w : World) :
    Calls Try.prog 35 #[.string s] w fun e w' => e = .returned (.tuple #[.int .i64 0, .bool false]) ∧ w = w' := by
  go_enter Try.func35, Try.ntmps35
  go_wp2_with (go_at_call 49; refine (told_settle_no _ hs hg _).mono ?_; rintro e w' ⟨rfl, rfl⟩)
  go_ret2
  exact ⟨rfl, rfl⟩
set_option maxHeartbeats 400000 in
theorem implTicks_yes (l : List Bool) (h1 : 1 ≤ l.length) (h2 : l.length ≤ 60) (w : World) :
    Calls Try.prog 35 #[.string (Rw.str l)] w fun e w' => e = .returned (.tuple #[.int .i64 (Rw.ticksOf l : Nat), .bool true]) ∧ Below w.heap.size w w' := by
  have H := Lib.hid (told_settle l h1 h2 w (fun v w' => v = .int .i64 (Rw.ticksOf l : Nat) ∧ Below w.heap.size w w') (fun w2 g hb hg hT =>
    (settle_any g l _ h1 h2 (by rw [sum_zeros]; omega) w2 hT).mono fun e w' ⟨he, _, hG⟩ => ⟨_, he, rfl, grownBy_below hb hG (Nat.le_refl _) hg⟩))
  go_enter Try.func35, Try.ntmps35
  go_wp2_with (go_at_call 49; refine H.out.mono ?_; rintro e w' ⟨v, rfl, rfl, hb⟩)
  go_ret2
  exact ⟨rfl, hb⟩

set_option maxHeartbeats 400000 in
theorem walkFnExactTicksToRest (s : ByteArray) (hs : s.size ≤ maxLen) (w : World) :
    Calls Try.prog 12 #[.string s] w fun e w' => e = .returned (.bool true) ∧ Below w.heap.size w w' := by
  by_cases hbig : s.size ≤ 1048576
  · rcases hg : goodB s with _ | _
    · have HG := Lib.hid hg
      clear hg
      go_enter Try.func12, Try.ntmps12
      go_wp2_with (first | (go_at_call 34; refine (specTicks_no _ hs HG.out _).mono ?_; rintro e w' ⟨rfl, rfl⟩) | (go_at_call 35; refine (implTicks_no _ hs HG.out _).mono ?_; rintro e w' ⟨rfl, rfl⟩))
      go_ret
      exact ⟨rfl, Below.refl _ _⟩
    · obtain ⟨l, rfl, h1, h2⟩ := goodB_row hg
      clear hg
      go_enter Try.func12, Try.ntmps12
      go_wp2_with (first | (go_at_call 34; refine (specTicks_yes l h1 h2 _).mono ?_; rintro e w1 ⟨rfl, hb1⟩) | (go_at_call 35; refine (implTicks_yes l h1 h2 _).mono ?_; rintro e w2 ⟨rfl, hb2⟩))
      go_ret
      exact ⟨rfl, hb1.trans (hb2.mono hb1.size)⟩
  · go_enter Try.func12, Try.ntmps12
    go_wp2
    go_ret
    exact ⟨rfl, Below.refl _ _⟩

end Go.Proofs.Ytejlllmbcakacaa
