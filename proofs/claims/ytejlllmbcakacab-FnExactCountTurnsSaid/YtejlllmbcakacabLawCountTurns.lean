/- The walk of the law FnExactCountTurns. -/
import Derived.Test.YtejlllmbcakacabTold
import Derived.Test.YtejlllmbcakacabRested
import Derived.Test.YtejlllmbcakacabSpecC
namespace Go.Proofs.Ytejlllmbcakacab
open Go.ChangeShapes Go.WideShapes Go.ChangeAt Go.RowKit

theorem sum_zeros (n : Nat) : (List.replicate n 0).sum = 0 := by simp

set_option maxHeartbeats 400000 in
theorem specCountTurns_no (s : ByteArray) (hs : s.size ≤ maxLen) (hg : goodB s = false) (w : World) :
    Calls Try.prog 17 #[.string s] w fun e w' => e = .returned (.tuple #[.int .i64 0, .bool false]) ∧ w = w' := by
  go_enter Try.func17, Try.ntmps17
  go_wp2_with (go_at_call 39; refine (rwGood_any _ _ hs).mono ?_; rintro e w' ⟨rfl, rfl⟩)
  go_ret2
  exact ⟨rfl, rfl⟩
set_option maxHeartbeats 400000 in
theorem implCountTurns_no (s : ByteArray) (hs : s.size ≤ maxLen) (hg : goodB s = false) (w : World) :
    Calls Try.prog 18 #[.string s] w fun e w' => e = .returned (.tuple #[.int .i64 0, .bool false]) ∧ w = w' := by
  go_enter Try.func18, Try.ntmps18
  go_wp2_with (go_at_call 49; refine (told_pairsUntilRest_no _ hs hg _).mono ?_; rintro e w' ⟨rfl, rfl⟩)
  go_ret2
  exact ⟨rfl, rfl⟩
set_option maxHeartbeats 400000 in
theorem implCountTurns_yes (l : List Bool) (h1 : 1 ≤ l.length) (h2 : l.length ≤ 60) (w : World) :
    Calls Try.prog 18 #[.string (Rw.str l)] w fun e w' => e = .returned (.tuple #[.int .i64 (Rw.countOf l : Nat), .bool true]) ∧ Below w.heap.size w w' := by
  have H := Lib.hid (told_pairsUntilRest l h1 h2 w (fun v w' => v = .int .i64 (Rw.countOf l : Nat) ∧ Below w.heap.size w w') (fun w2 g hb hg hT => (pairsUntilRest_any g l _ h1 h2 (by rw [sum_zeros]; omega) w.heap.size hg w w2 (Nat.le_refl _) hb hT).mono fun e w' ⟨he, hb'⟩ => ⟨_, he, rfl, hb'⟩))
  go_enter Try.func18, Try.ntmps18
  go_wp2_with (go_at_call 49; refine H.out.mono ?_; rintro e w' ⟨v, rfl, rfl, hb⟩)
  go_ret2
  exact ⟨rfl, hb⟩

set_option maxHeartbeats 400000 in
theorem walkFnExactCountTurns (s : ByteArray) (hs : s.size ≤ maxLen) (w : World) :
    Calls Try.prog 5 #[.string s] w fun e w' => e = .returned (.bool true) ∧ Below w.heap.size w w' := by
  by_cases hbig : s.size ≤ 1048576
  · rcases hg : goodB s with _ | _
    · have HG := Lib.hid hg
      clear hg
      go_enter Try.func5, Try.ntmps5
      go_wp2_with (first | (go_at_call 17; refine (specCountTurns_no _ hs HG.out _).mono ?_; rintro e w' ⟨rfl, rfl⟩) | (go_at_call 18; refine (implCountTurns_no _ hs HG.out _).mono ?_; rintro e w' ⟨rfl, rfl⟩))
      go_ret
      exact ⟨rfl, Below.refl _ _⟩
    · obtain ⟨l, rfl, h1, h2⟩ := goodB_row hg
      clear hg
      go_enter Try.func5, Try.ntmps5
      go_wp2_with (first | (go_at_call 17; refine (specCountTurns_yes l h1 h2 _).mono ?_; rintro e w1 ⟨rfl, hb1⟩) | (go_at_call 18; refine (implCountTurns_yes l h1 h2 _).mono ?_; rintro e w2 ⟨rfl, hb2⟩))
      go_ret
      exact ⟨rfl, hb1.trans (hb2.mono hb1.size)⟩
  · go_enter Try.func5, Try.ntmps5
    go_wp2
    go_ret
    exact ⟨rfl, Below.refl _ _⟩

end Go.Proofs.Ytejlllmbcakacab
