
/- The walks of the laws FnExactTicksToRest and FnExactIsAtRest. -/
import Derived.Test.YtacchefmblfobaaC1Spec
import Derived.Test.YtacchefmblfobaaC1Told
namespace Go.Proofs.Ytacchefmblfobaa.C1
open Go.ChangeShapes Go.WideShapes Go.ChangeAt Go.RowKit

theorem sum_zeros_LawsB (n : Nat) : (List.replicate n 0).sum = 0 := by simp

set_option maxRecDepth 20000 in
set_option maxHeartbeats 400000 in
theorem specTicks_no (s : ByteArray) (hs : s.size ≤ maxLen) (hg : goodB s = false) (w : World) :
    Calls Try.prog 10 #[.string s] w fun e w' => e = .returned (.tuple #[.int .i64 0, .bool false]) ∧ w = w' := by
  go_enter Try.func10, Try.ntmps10
  go_wp2_with (go_at_call 65; refine (rwGood_any _ _ hs).mono ?_; rintro e w' ⟨rfl, rfl⟩)
  go_ret2
  exact ⟨rfl, rfl⟩
set_option maxRecDepth 20000 in
set_option maxHeartbeats 400000 in
theorem specTicks_yes (l : List Bool) (h1 : 1 ≤ l.length) (h2 : l.length ≤ 60) (w : World) :
    Calls Try.prog 10 #[.string (Rw.str l)] w fun e w' => e = .returned (.tuple #[.int .i64 (Rw.ticksOf l : Nat), .bool true]) ∧ Below w.heap.size w w' := by
  have hgood := goodB_str h1 h2
  have hml : (Rw.str l).size ≤ maxLen := by rw [Rw.size_str]; unfold maxLen; omega
  go_enter Try.func10, Try.ntmps10
  go_wp2_with (first | (go_at_call 65; refine (rwGood_any _ _ hml).mono ?_; rintro e w' ⟨rfl, rfl⟩) | (go_at_call 66; refine (rwRest_any l h1 h2 _).mono ?_; rintro e w' ⟨rfl, hb⟩))
  go_ret2
  exact ⟨rfl, hb⟩
set_option maxRecDepth 20000 in
set_option maxHeartbeats 400000 in
theorem implTicks_no (s : ByteArray) (hs : s.size ≤ maxLen) (hg : goodB s = false) (w : World) :
    Calls Try.prog 9 #[.string s] w fun e w' => e = .returned (.tuple #[.int .i64 0, .bool false]) ∧ w = w' := by
  go_enter Try.func9, Try.ntmps9
  go_wp2_with (go_at_call 63; refine (told_settle_no _ hs hg _).mono ?_; rintro e w' ⟨rfl, rfl⟩)
  go_ret2
  exact ⟨rfl, rfl⟩
set_option maxRecDepth 20000 in
set_option maxHeartbeats 400000 in
theorem implTicks_yes (l : List Bool) (h1 : 1 ≤ l.length) (h2 : l.length ≤ 60) (w : World) :
    Calls Try.prog 9 #[.string (Rw.str l)] w fun e w' => e = .returned (.tuple #[.int .i64 (Rw.ticksOf l : Nat), .bool true]) ∧ Below w.heap.size w w' := by
  have H := Lib.hid (told_settle l h1 h2 w (fun v w' => v = .int .i64 (Rw.ticksOf l : Nat) ∧ Below w.heap.size w w') (fun w2 g hb hg hT =>
    (settle_any g l _ h1 h2 (by rw [sum_zeros_LawsB]; omega) w2 hT).mono fun e w' ⟨he, _, hG⟩ => ⟨_, he, rfl, grownBy_below hb hG (Nat.le_refl _) hg⟩))
  go_enter Try.func9, Try.ntmps9
  go_wp2_with (go_at_call 63; refine H.out.mono ?_; rintro e w' ⟨v, rfl, rfl, hb⟩)
  go_ret2
  exact ⟨rfl, hb⟩

end Go.Proofs.Ytacchefmblfobaa.C1
