
/- The walk of the law FnExactTickRow. -/
import Derived.Test.YtacchefmblfobaaC1Told
import Derived.Test.YtacchefmblfobaaC1Turned
import Derived.Test.YtacchefmblfobaaC1Spec
namespace Go.Proofs.Ytacchefmblfobaa.C1
open Go.ChangeShapes Go.WideShapes Go.ChangeAt Go.RowKit

theorem sum_zeros_LawTickRow (n : Nat) : (List.replicate n 0).sum = 0 := by simp

set_option maxRecDepth 20000 in
set_option maxHeartbeats 400000 in
theorem specTickRow_no (s : ByteArray) (hs : s.size ≤ maxLen) (hg : goodB s = false) (w : World) :
    Calls Try.prog 20 #[.string s] w fun e w' => e = .returned (.tuple #[.string ByteArray.empty, .bool false]) ∧ w = w' := by
  go_enter Try.func20, Try.ntmps20
  go_wp2_with (go_at_call 65; refine (rwGood_any _ _ hs).mono ?_; rintro e w' ⟨rfl, rfl⟩)
  go_ret2
  exact ⟨rfl, rfl⟩
set_option maxRecDepth 20000 in
set_option maxHeartbeats 400000 in
theorem specTickRow_yes (l : List Bool) (h1 : 1 ≤ l.length) (h2 : l.length ≤ 60) (w : World) :
    Calls Try.prog 20 #[.string (Rw.str l)] w fun e w' => e = .returned (.tuple #[.string (Rw.str (Rw.tick l)), .bool true]) ∧ Below w.heap.size w w' := by
  have hgood := goodB_str h1 h2
  have hml : (Rw.str l).size ≤ maxLen := by rw [Rw.size_str]; unfold maxLen; omega
  go_enter Try.func20, Try.ntmps20
  go_wp2_with (first | (go_at_call 65; refine (rwGood_any _ _ hml).mono ?_; rintro e w' ⟨rfl, rfl⟩) | (go_at_call 71; refine (rwTick_any l h1 h2 _).mono ?_; rintro e w' ⟨rfl, hb⟩))
  go_ret2
  exact ⟨rfl, hb⟩
set_option maxRecDepth 20000 in
set_option maxHeartbeats 400000 in
theorem implTickRow_no (s : ByteArray) (hs : s.size ≤ maxLen) (hg : goodB s = false) (w : World) :
    Calls Try.prog 19 #[.string s] w fun e w' => e = .returned (.tuple #[.string ByteArray.empty, .bool false]) ∧ w = w' := by
  go_enter Try.func19, Try.ntmps19
  go_wp2_with (go_at_call 67; refine (told_ticked_no _ hs hg _).mono ?_; rintro e w' ⟨rfl, rfl⟩)
  go_ret2
  exact ⟨rfl, rfl⟩
set_option maxRecDepth 20000 in
set_option maxHeartbeats 400000 in
theorem implTickRow_yes (l : List Bool) (h1 : 1 ≤ l.length) (h2 : l.length ≤ 60) (w : World) :
    Calls Try.prog 19 #[.string (Rw.str l)] w fun e w' => e = .returned (.tuple #[.string (Rw.str (Rw.tick l)), .bool true]) ∧ Below w.heap.size w w' := by
  have H := Lib.hid (told_ticked l h1 h2 w (fun v w' => v = .string (Rw.str (Rw.tick l)) ∧ Below w.heap.size w w') (fun w2 g hb hg hT => (ticked_any g l _ h1 h2 (by rw [sum_zeros_LawTickRow]; omega) w.heap.size hg w w2 (Nat.le_refl _) hb hT).mono fun e w' ⟨he, hb'⟩ => ⟨_, he, rfl, hb'⟩))
  go_enter Try.func19, Try.ntmps19
  go_wp2_with (go_at_call 67; refine H.out.mono ?_; rintro e w' ⟨v, rfl, rfl, hb⟩)
  go_ret2
  exact ⟨rfl, hb⟩

end Go.Proofs.Ytacchefmblfobaa.C1
