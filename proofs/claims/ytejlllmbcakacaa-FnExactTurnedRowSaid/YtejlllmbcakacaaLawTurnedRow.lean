/- The walk of the law FnExactTurnedRow. -/
import Derived.Test.YtejlllmbcakacaaTold
import Derived.Test.YtejlllmbcakacaaTurned
import Derived.Test.YtejlllmbcakacaaSpecB
namespace Go.Proofs.Ytejlllmbcakacaa
open Go.ChangeShapes Go.WideShapes Go.ChangeAt Go.RowKit

theorem sum_zeros (n : Nat) : (List.replicate n 0).sum = 0 := by simp

set_option maxHeartbeats 400000 in
theorem specTurnedRow_no (s : ByteArray) (hs : s.size ≤ maxLen) (hg : goodB s = false) (w : World) :
    Calls Try.prog 28 #[.string s] w fun e w' => e = .returned (.tuple #[.string ByteArray.empty, .bool false]) ∧ w = w' := by
  go_enter Try.func28, Try.ntmps28
  go_wp2_with (go_at_call 36; refine (rwGood_any _ _ hs).mono ?_; rintro e w' ⟨rfl, rfl⟩)
  go_ret2
  exact ⟨rfl, rfl⟩
set_option maxHeartbeats 400000 in
theorem implTurnedRow_no (s : ByteArray) (hs : s.size ≤ maxLen) (hg : goodB s = false) (w : World) :
    Calls Try.prog 29 #[.string s] w fun e w' => e = .returned (.tuple #[.string ByteArray.empty, .bool false]) ∧ w = w' := by
  go_enter Try.func29, Try.ntmps29
  go_wp2_with (go_at_call 42; refine (told_turned_no _ hs hg _).mono ?_; rintro e w' ⟨rfl, rfl⟩)
  go_ret2
  exact ⟨rfl, rfl⟩
set_option maxHeartbeats 400000 in
theorem implTurnedRow_yes (l : List Bool) (h1 : 1 ≤ l.length) (h2 : l.length ≤ 60) (w : World) :
    Calls Try.prog 29 #[.string (Rw.str l)] w fun e w' => e = .returned (.tuple #[.string (Rw.str (l.map (!·))), .bool true]) ∧ Below w.heap.size w w' := by
  have H := Lib.hid (told_turned l h1 h2 w (fun v w' => v = .string (Rw.str (l.map (!·))) ∧ Below w.heap.size w w') (fun w2 g hb hg hT => (turned_any g l _ h1 h2 (by rw [sum_zeros]; omega) w.heap.size hg w w2 (Nat.le_refl _) hb hT).mono fun e w' ⟨he, hb'⟩ => ⟨_, he, rfl, hb'⟩))
  go_enter Try.func29, Try.ntmps29
  go_wp2_with (go_at_call 42; refine H.out.mono ?_; rintro e w' ⟨v, rfl, rfl, hb⟩)
  go_ret2
  exact ⟨rfl, hb⟩

set_option maxHeartbeats 400000 in
theorem walkFnExactTurnedRow (s : ByteArray) (hs : s.size ≤ maxLen) (w : World) :
    Calls Try.prog 9 #[.string s] w fun e w' => e = .returned (.bool true) ∧ Below w.heap.size w w' := by
  by_cases hbig : s.size ≤ 1048576
  · rcases hg : goodB s with _ | _
    · have HG := Lib.hid hg
      clear hg
      go_enter Try.func9, Try.ntmps9
      go_wp2_with (first | (go_at_call 28; refine (specTurnedRow_no _ hs HG.out _).mono ?_; rintro e w' ⟨rfl, rfl⟩) | (go_at_call 29; refine (implTurnedRow_no _ hs HG.out _).mono ?_; rintro e w' ⟨rfl, rfl⟩))
      go_ret
      exact ⟨rfl, Below.refl _ _⟩
    · obtain ⟨l, rfl, h1, h2⟩ := goodB_row hg
      clear hg
      go_enter Try.func9, Try.ntmps9
      go_wp2_with (first | (go_at_call 28; refine (specTurnedRow_yes l h1 h2 _).mono ?_; rintro e w1 ⟨rfl, hb1⟩) | (go_at_call 29; refine (implTurnedRow_yes l h1 h2 _).mono ?_; rintro e w2 ⟨rfl, hb2⟩))
      go_ret
      exact ⟨rfl, hb1.trans (hb2.mono hb1.size)⟩
  · go_enter Try.func9, Try.ntmps9
    go_wp2
    go_ret
    exact ⟨rfl, Below.refl _ _⟩

end Go.Proofs.Ytejlllmbcakacaa
