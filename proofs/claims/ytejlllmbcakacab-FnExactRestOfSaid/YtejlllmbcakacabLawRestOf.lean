/- The walk of the law FnExactRestOf. -/
import Derived.Test.YtejlllmbcakacabTold
import Derived.Test.YtejlllmbcakacabRested
import Derived.Test.YtejlllmbcakacabSpec
namespace Go.Proofs.Ytejlllmbcakacab
open Go.ChangeShapes Go.WideShapes Go.ChangeAt Go.RowKit

theorem sum_zeros (n : Nat) : (List.replicate n 0).sum = 0 := by simp

set_option maxHeartbeats 400000 in
theorem specRestOf_no (s : ByteArray) (hs : s.size ≤ maxLen) (hg : goodB s = false) (w : World) :
    Calls Try.prog 15 #[.string s] w fun e w' => e = .returned (.tuple #[.string ByteArray.empty, .bool false]) ∧ w = w' := by
  go_enter Try.func15, Try.ntmps15
  go_wp2_with (go_at_call 39; refine (rwGood_any _ _ hs).mono ?_; rintro e w' ⟨rfl, rfl⟩)
  go_ret2
  exact ⟨rfl, rfl⟩
set_option maxHeartbeats 400000 in
theorem specRestOf_yes (l : List Bool) (h1 : 1 ≤ l.length) (h2 : l.length ≤ 60) (w : World) :
    Calls Try.prog 15 #[.string (Rw.str l)] w fun e w' => e = .returned (.tuple #[.string (Rw.str (Rw.restOf l)), .bool true]) ∧ Below w.heap.size w w' := by
  have hgood := goodB_str h1 h2
  have hml : (Rw.str l).size ≤ maxLen := by rw [Rw.size_str]; unfold maxLen; omega
  go_enter Try.func15, Try.ntmps15
  go_wp2_with (first | (go_at_call 39; refine (rwGood_any _ _ hml).mono ?_; rintro e w' ⟨rfl, rfl⟩) | (go_at_call 47; refine (rwRest_any l h1 h2 _).mono ?_; rintro e w' ⟨rfl, hb⟩))
  go_ret2
  exact ⟨rfl, hb⟩
set_option maxHeartbeats 400000 in
theorem implRestOf_no (s : ByteArray) (hs : s.size ≤ maxLen) (hg : goodB s = false) (w : World) :
    Calls Try.prog 16 #[.string s] w fun e w' => e = .returned (.tuple #[.string ByteArray.empty, .bool false]) ∧ w = w' := by
  go_enter Try.func16, Try.ntmps16
  go_wp2_with (go_at_call 43; refine (told_rested_no _ hs hg _).mono ?_; rintro e w' ⟨rfl, rfl⟩)
  go_ret2
  exact ⟨rfl, rfl⟩
set_option maxHeartbeats 400000 in
theorem implRestOf_yes (l : List Bool) (h1 : 1 ≤ l.length) (h2 : l.length ≤ 60) (w : World) :
    Calls Try.prog 16 #[.string (Rw.str l)] w fun e w' => e = .returned (.tuple #[.string (Rw.str (Rw.restOf l)), .bool true]) ∧ Below w.heap.size w w' := by
  have H := Lib.hid (told_rested l h1 h2 w (fun v w' => v = .string (Rw.str (Rw.restOf l)) ∧ Below w.heap.size w w') (fun w2 g hb hg hT => (rested_any g l _ h1 h2 (by rw [sum_zeros]; omega) w.heap.size hg w w2 (Nat.le_refl _) hb hT).mono fun e w' ⟨he, hb'⟩ => ⟨_, he, rfl, hb'⟩))
  go_enter Try.func16, Try.ntmps16
  go_wp2_with (go_at_call 43; refine H.out.mono ?_; rintro e w' ⟨v, rfl, rfl, hb⟩)
  go_ret2
  exact ⟨rfl, hb⟩

set_option maxHeartbeats 400000 in
theorem walkFnExactRestOf (s : ByteArray) (hs : s.size ≤ maxLen) (w : World) :
    Calls Try.prog 4 #[.string s] w fun e w' => e = .returned (.bool true) ∧ Below w.heap.size w w' := by
  by_cases hbig : s.size ≤ 1048576
  · rcases hg : goodB s with _ | _
    · have HG := Lib.hid hg
      clear hg
      go_enter Try.func4, Try.ntmps4
      go_wp2_with (first | (go_at_call 15; refine (specRestOf_no _ hs HG.out _).mono ?_; rintro e w' ⟨rfl, rfl⟩) | (go_at_call 16; refine (implRestOf_no _ hs HG.out _).mono ?_; rintro e w' ⟨rfl, rfl⟩))
      go_ret
      exact ⟨rfl, Below.refl _ _⟩
    · obtain ⟨l, rfl, h1, h2⟩ := goodB_row hg
      clear hg
      go_enter Try.func4, Try.ntmps4
      go_wp2_with (first | (go_at_call 15; refine (specRestOf_yes l h1 h2 _).mono ?_; rintro e w1 ⟨rfl, hb1⟩) | (go_at_call 16; refine (implRestOf_yes l h1 h2 _).mono ?_; rintro e w2 ⟨rfl, hb2⟩))
      go_ret
      exact ⟨rfl, hb1.trans (hb2.mono hb1.size)⟩
  · go_enter Try.func4, Try.ntmps4
    go_wp2
    go_ret
    exact ⟨rfl, Below.refl _ _⟩

end Go.Proofs.Ytejlllmbcakacab
