
/- The walk of the law FnExactTurnedRow. -/
import Derived.Test.YtacchefmblfobaaC1Told
import Derived.Test.YtacchefmblfobaaC1Turned
import Derived.Test.YtacchefmblfobaaC1SpecB
namespace Go.Proofs.Ytacchefmblfobaa.C1
open Go.ChangeShapes Go.WideShapes Go.ChangeAt Go.RowKit

theorem sum_zeros_LawTurnedRow (n : Nat) : (List.replicate n 0).sum = 0 := by simp

set_option maxRecDepth 20000 in
set_option maxHeartbeats 400000 in
theorem specTurnedRow_no (s : ByteArray) (hs : s.size ≤ maxLen) (hg : goodB s = false) (w : World) :
    Calls Try.prog 26 #[.string s] w fun e w' => e = .returned (.tuple #[.string ByteArray.empty, .bool false]) ∧ w = w' := by
  go_enter Try.func26, Try.ntmps26
  go_wp2_with (go_at_call 65; refine (rwGood_any _ _ hs).mono ?_; rintro e w' ⟨rfl, rfl⟩)
  go_ret2
  exact ⟨rfl, rfl⟩
set_option maxRecDepth 20000 in
set_option maxHeartbeats 400000 in
theorem implTurnedRow_no (s : ByteArray) (hs : s.size ≤ maxLen) (hg : goodB s = false) (w : World) :
    Calls Try.prog 25 #[.string s] w fun e w' => e = .returned (.tuple #[.string ByteArray.empty, .bool false]) ∧ w = w' := by
  go_enter Try.func25, Try.ntmps25
  go_wp2_with (go_at_call 67; refine (told_turned_no _ hs hg _).mono ?_; rintro e w' ⟨rfl, rfl⟩)
  go_ret2
  exact ⟨rfl, rfl⟩
set_option maxRecDepth 20000 in
set_option maxHeartbeats 400000 in
theorem implTurnedRow_yes (l : List Bool) (h1 : 1 ≤ l.length) (h2 : l.length ≤ 60) (w : World) :
    Calls Try.prog 25 #[.string (Rw.str l)] w fun e w' => e = .returned (.tuple #[.string (Rw.str (l.map (!·))), .bool true]) ∧ Below w.heap.size w w' := by
  have H := Lib.hid (told_turned l h1 h2 w (fun v w' => v = .string (Rw.str (l.map (!·))) ∧ Below w.heap.size w w') (fun w2 g hb hg hT => (turned_any g l _ h1 h2 (by rw [sum_zeros_LawTurnedRow]; omega) w.heap.size hg w w2 (Nat.le_refl _) hb hT).mono fun e w' ⟨he, hb'⟩ => ⟨_, he, rfl, hb'⟩))
  go_enter Try.func25, Try.ntmps25
  go_wp2_with (go_at_call 67; refine H.out.mono ?_; rintro e w' ⟨v, rfl, rfl, hb⟩)
  go_ret2
  exact ⟨rfl, hb⟩

end Go.Proofs.Ytacchefmblfobaa.C1
