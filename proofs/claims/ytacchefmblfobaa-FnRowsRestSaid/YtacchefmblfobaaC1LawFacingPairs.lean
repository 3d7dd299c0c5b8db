
/- The walk of the law FnExactFacingPairs. -/
import Derived.Test.YtacchefmblfobaaC1Told
import Derived.Test.YtacchefmblfobaaC1Spec
import Derived.Test.YtacchefmblfobaaC1Slices
namespace Go.Proofs.Ytacchefmblfobaa.C1
open Go.ChangeShapes Go.WideShapes Go.ChangeAt Go.RowKit

set_option maxRecDepth 20000 in
set_option maxHeartbeats 400000 in
theorem specFacingPairs_no (s : ByteArray) (hs : s.size ≤ maxLen) (hg : goodB s = false) (w : World) :
    Calls Try.prog 18 #[.string s] w fun e w' => ∃ v, e = .returned (.tuple #[v, .bool false]) ∧ Own w' w.heap.size v [] ∧ Below w.heap.size w w' := by
  go_enter Try.func18, Try.ntmps18
  go_wp2_with (go_at_call 65; refine (rwGood_any _ _ hs).mono ?_; rintro e w' ⟨rfl, rfl⟩)
  go_ret2
  exact ⟨_, rfl, own_nil _ _, Below.refl _ _⟩
set_option maxRecDepth 20000 in
set_option maxHeartbeats 400000 in
theorem specFacingPairs_yes (l : List Bool) (h1 : 1 ≤ l.length) (h2 : l.length ≤ 60) (w : World) :
    Calls Try.prog 18 #[.string (Rw.str l)] w fun e w' => ∃ v, e = .returned (.tuple #[v, .bool true]) ∧ Own w' w.heap.size v (asInts (Rw.pairs l)) ∧ Below w.heap.size w w' := by
  have hgood := goodB_str h1 h2
  have hml : (Rw.str l).size ≤ maxLen := by rw [Rw.size_str]; unfold maxLen; omega
  have HC := Lib.hid (rwPairs_any l h1 h2 w)
  go_enter Try.func18, Try.ntmps18
  go_wp2_with (first | (go_at_call 65; refine (rwGood_any _ _ hml).mono ?_; rintro e w' ⟨rfl, rfl⟩) | (go_at_call 70; refine HC.out.mono ?_; rintro e w2 ⟨v, rfl, hown, hbel⟩))
  go_ret2
  exact ⟨_, rfl, .of_ints hown, hbel⟩
theorem len_FacingPairs (l : List Bool) (h2 : l.length ≤ 60) : (asInts (Rw.pairs l)).length ≤ 4611686018427387904 := by
  have := Rw.pairsTo_le l (l.length - 1)
  simp only [asInts, List.length_map, Rw.pairs]
  omega
set_option maxRecDepth 20000 in
theorem method_FacingPairs (l : List Bool) (h1 : 1 ≤ l.length) (h2 : l.length ≤ 60) (w w2 : World) (g : Nat) (hb : Below w.heap.size w w2) (_hg : w.heap.size ≤ g) (hT : Trp w2 g l (List.replicate l.length 0)) :
    Calls Try.prog 74 #[.slice (some ⟨g, 0, none⟩) l.length l.length] w2 fun e w' => ∃ v, e = .returned v ∧ Own w' w.heap.size v (asInts (Rw.pairs l)) ∧ Below w.heap.size w w' :=
  (pairs_any g l _ h1 h2 w2 hT).mono fun _ _ ⟨v, he, ho, hb'⟩ => ⟨v, he, (Own.of_ints ho).mono hb.size, hb.trans (hb'.mono hb.size)⟩
set_option maxRecDepth 20000 in
set_option maxHeartbeats 400000 in
theorem implFacingPairs_no (s : ByteArray) (hs : s.size ≤ maxLen) (hg : goodB s = false) (w : World) :
    Calls Try.prog 17 #[.string s] w fun e w' => ∃ v, e = .returned (.tuple #[v, .bool false]) ∧ Own w' w.heap.size v [] ∧ Below w.heap.size w w' := by
  go_enter Try.func17, Try.ntmps17
  go_wp2_with (go_at_call 72; refine (told_pairs_no _ hs hg _).mono ?_; rintro e w' ⟨rfl, rfl⟩)
  go_ret2
  exact ⟨_, rfl, own_nil _ _, Below.refl _ _⟩
set_option maxRecDepth 20000 in
set_option maxHeartbeats 400000 in
theorem implFacingPairs_yes (l : List Bool) (h1 : 1 ≤ l.length) (h2 : l.length ≤ 60) (w : World) :
    Calls Try.prog 17 #[.string (Rw.str l)] w fun e w' => ∃ v, e = .returned (.tuple #[v, .bool true]) ∧ Own w' w.heap.size v (asInts (Rw.pairs l)) ∧ Below w.heap.size w w' := by
  have H := Lib.hid (told_pairs l h1 h2 w (fun v w' => Own w' w.heap.size v (asInts (Rw.pairs l)) ∧ Below w.heap.size w w') (method_FacingPairs l h1 h2 w))
  go_enter Try.func17, Try.ntmps17
  go_wp2_with (go_at_call 72; refine H.out.mono ?_; rintro e w' ⟨v, rfl, ho, hb⟩)
  go_ret2
  exact ⟨_, rfl, ho, hb⟩

end Go.Proofs.Ytacchefmblfobaa.C1
