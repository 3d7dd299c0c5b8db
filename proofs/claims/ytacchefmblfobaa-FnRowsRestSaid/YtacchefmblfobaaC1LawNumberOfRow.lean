
/- The walk of the law FnExactNumberOfRow. -/
import Derived.Test.YtacchefmblfobaaC1Told
import Derived.Test.YtacchefmblfobaaC1Number
import Derived.Test.YtacchefmblfobaaC1SpecB
namespace Go.Proofs.Ytacchefmblfobaa.C1
open Go.ChangeShapes Go.WideShapes Go.ChangeAt Go.RowKit

theorem sum_zeros_LawNumberOfRow (n : Nat) : (List.replicate n 0).sum = 0 := by simp

set_option maxRecDepth 20000 in
set_option maxHeartbeats 400000 in
theorem specNumberOfRow_no (s : ByteArray) (hs : s.size ≤ maxLen) (hg : goodB s = false) (w : World) :
    Calls Try.prog 41 #[.string s] w fun e w' => e = .returned (.tuple #[.int .i64 0, .bool false]) ∧ w = w' := by
  go_enter Try.func41, Try.ntmps41
  go_wp2_with (go_at_call 65; refine (rwGood_any _ _ hs).mono ?_; rintro e w' ⟨rfl, rfl⟩)
  go_ret2
  exact ⟨rfl, rfl⟩
set_option maxRecDepth 20000 in
set_option maxHeartbeats 400000 in
theorem implNumberOfRow_no (s : ByteArray) (hs : s.size ≤ maxLen) (hg : goodB s = false) (w : World) :
    Calls Try.prog 33 #[.string s] w fun e w' => e = .returned (.tuple #[.int .i64 0, .bool false]) ∧ w = w' := by
  go_enter Try.func33, Try.ntmps33
  go_wp2_with (go_at_call 63; refine (told_number_no _ hs hg _).mono ?_; rintro e w' ⟨rfl, rfl⟩)
  go_ret2
  exact ⟨rfl, rfl⟩
set_option maxRecDepth 20000 in
set_option maxHeartbeats 400000 in
theorem implNumberOfRow_yes (l : List Bool) (h1 : 1 ≤ l.length) (h2 : l.length ≤ 60) (w : World) :
    Calls Try.prog 33 #[.string (Rw.str l)] w fun e w' => e = .returned (.tuple #[.int .i64 (Rw.numberOf l : Nat), .bool true]) ∧ Below w.heap.size w w' := by
  have H := Lib.hid (told_number l h1 h2 w (fun v w' => v = .int .i64 (Rw.numberOf l : Nat) ∧ Below w.heap.size w w') (fun w2 g hb hg hT => (number_any g l _ h1 h2 w2 hT).mono fun e w' ⟨he, hb'⟩ => ⟨_, he, rfl, hb.trans (hb'.mono hb.size)⟩))
  go_enter Try.func33, Try.ntmps33
  go_wp2_with (go_at_call 63; refine H.out.mono ?_; rintro e w' ⟨v, rfl, rfl, hb⟩)
  go_ret2
  exact ⟨rfl, hb⟩

end Go.Proofs.Ytacchefmblfobaa.C1
