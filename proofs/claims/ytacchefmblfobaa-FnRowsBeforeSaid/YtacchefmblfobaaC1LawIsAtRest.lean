
/- The walk of the law FnExactIsAtRest. -/
import Derived.Test.YtacchefmblfobaaC1Told
import Derived.Test.YtacchefmblfobaaC1Turned
import Derived.Test.YtacchefmblfobaaC1Spec
namespace Go.Proofs.Ytacchefmblfobaa.C1
open Go.ChangeShapes Go.WideShapes Go.ChangeAt Go.RowKit

theorem sum_zeros_LawIsAtRest (n : Nat) : (List.replicate n 0).sum = 0 := by simp
theorem ret_bb {a b x : Bool} (h : a = b) : Ending.returned (.tuple #[.bool a, .bool x]) = .returned (.tuple #[.bool b, .bool x]) := by rw [h]

set_option maxRecDepth 20000 in
set_option maxHeartbeats 400000 in
theorem specIsAtRest_no (s : ByteArray) (hs : s.size ≤ maxLen) (hg : goodB s = false) (w : World) :
    Calls Try.prog 22 #[.string s] w fun e w' => e = .returned (.tuple #[.bool false, .bool false]) ∧ w = w' := by
  go_enter Try.func22, Try.ntmps22
  go_wp2_with (go_at_call 65; refine (rwGood_any _ _ hs).mono ?_; rintro e w' ⟨rfl, rfl⟩)
  go_ret2
  exact ⟨rfl, rfl⟩
def restB (l : List Bool) : Bool := decide ((Rw.pairs l).length = 0)
theorem restB_of {l : List Bool} {K : Nat} (h : K = (Rw.pairs l).length) : restB l = decide (K = 0) := by rw [h]; rfl
set_option maxRecDepth 20000 in
set_option maxHeartbeats 400000 in
theorem specIsAtRest_yes (l : List Bool) (h1 : 1 ≤ l.length) (h2 : l.length ≤ 60) (w : World) :
    Calls Try.prog 22 #[.string (Rw.str l)] w fun e w' => e = .returned (.tuple #[.bool (restB l), .bool true]) ∧ Below w.heap.size w w' := by
  have hgood := goodB_str h1 h2
  have hml : (Rw.str l).size ≤ maxLen := by rw [Rw.size_str]; unfold maxLen; omega
  have HC := Lib.hid (rwPairs_any l h1 h2 w)
  obtain ⟨K, hK⟩ : ∃ K, K = (Rw.pairs l).length := ⟨_, rfl⟩
  rw [← hK] at HC
  have HR := Lib.hid (restB_of hK)
  clear hK
  go_enter Try.func22, Try.ntmps22
  go_wp2_with (go_at_call 65; refine (rwGood_any _ _ hml).mono ?_; rintro e w' ⟨rfl, rfl⟩)
  go_at_call 70
  refine HC.out.mono ?_
  rintro e w2 ⟨v, rfl, hown, hbel⟩
  have HB := Lib.hid hbel
  rcases own_shape hown with ⟨rfl, h0⟩ | ⟨gv, cap, rfl, _⟩
  · clear hown hbel
    go_wp2
    go_ret2
    exact ⟨ret_bb (by rw [HR.out, h0]; rfl), HB.out⟩
  · clear hown hbel
    go_wp2
    go_ret2
    exact ⟨ret_bb (by rw [HR.out, Bool.eq_iff_iff]; simp), HB.out⟩
set_option maxRecDepth 20000 in
set_option maxHeartbeats 400000 in
theorem implIsAtRest_no (s : ByteArray) (hs : s.size ≤ maxLen) (hg : goodB s = false) (w : World) :
    Calls Try.prog 21 #[.string s] w fun e w' => e = .returned (.tuple #[.bool false, .bool false]) ∧ w = w' := by
  go_enter Try.func21, Try.ntmps21
  go_wp2_with (go_at_call 76; refine (told_isAtRest_no _ hs hg _).mono ?_; rintro e w' ⟨rfl, rfl⟩)
  go_ret2
  exact ⟨rfl, rfl⟩
set_option maxRecDepth 20000 in
set_option maxHeartbeats 400000 in
theorem implIsAtRest_yes (l : List Bool) (h1 : 1 ≤ l.length) (h2 : l.length ≤ 60) (w : World) :
    Calls Try.prog 21 #[.string (Rw.str l)] w fun e w' => e = .returned (.tuple #[.bool (restB l), .bool true]) ∧ Below w.heap.size w w' := by
  have H := Lib.hid (told_isAtRest l h1 h2 w (fun v w' => v = .bool (restB l) ∧ Below w.heap.size w w') (fun w2 g hb hg hT => (isAtRest_any g l _ h1 h2 w2 hT).mono fun e w' ⟨he, hb'⟩ => ⟨_, he, rfl, hb.trans (hb'.mono hb.size)⟩))
  go_enter Try.func21, Try.ntmps21
  go_wp2_with (go_at_call 76; refine H.out.mono ?_; rintro e w' ⟨v, rfl, rfl, hb⟩)
  go_ret2
  exact ⟨rfl, hb⟩

end Go.Proofs.Ytacchefmblfobaa.C1
