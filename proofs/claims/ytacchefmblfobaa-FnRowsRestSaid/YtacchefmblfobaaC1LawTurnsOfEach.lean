
/- The walk of the law FnExactTurnsOfEach. -/
import Derived.Test.YtacchefmblfobaaC1Told
import Derived.Test.YtacchefmblfobaaC1SpecC
import Derived.Test.YtacchefmblfobaaC1Rested
import Derived.Test.YtacchefmblfobaaC1Slices
namespace Go.Proofs.Ytacchefmblfobaa.C1
open Go.ChangeShapes Go.WideShapes Go.ChangeAt Go.RowKit

set_option maxRecDepth 20000 in
set_option maxHeartbeats 400000 in
theorem specTurnsOfEach_no (s : ByteArray) (hs : s.size ≤ maxLen) (hg : goodB s = false) (w : World) :
    Calls Try.prog 16 #[.string s] w fun e w' => ∃ v, e = .returned (.tuple #[v, .bool false]) ∧ Own w' w.heap.size v [] ∧ Below w.heap.size w w' := by
  go_enter Try.func16, Try.ntmps16
  go_wp2_with (go_at_call 65; refine (rwGood_any _ _ hs).mono ?_; rintro e w' ⟨rfl, rfl⟩)
  go_ret2
  exact ⟨_, rfl, own_nil _ _, Below.refl _ _⟩
theorem len_TurnsOfEach (l : List Bool) (h2 : l.length ≤ 60) : (asInts (Rw.turnsOf l (List.replicate l.length 0))).length ≤ 4611686018427387904 := by
  simp only [asInts, List.length_map, Rw.length_turnsOf, List.length_replicate]
  omega
set_option maxRecDepth 20000 in
theorem method_TurnsOfEach (l : List Bool) (h1 : 1 ≤ l.length) (h2 : l.length ≤ 60) (w w2 : World) (g : Nat) (hb : Below w.heap.size w w2) (hg : w.heap.size ≤ g) (hT : Trp w2 g l (List.replicate l.length 0)) :
    Calls Try.prog 73 #[.slice (some ⟨g, 0, none⟩) l.length l.length] w2 fun e w' => ∃ v, e = .returned v ∧ Own w' w.heap.size v (asInts (Rw.turnsOf l (List.replicate l.length 0))) ∧ Below w.heap.size w w' :=
  (turnsUntilRest_any g l _ h1 h2 (by simp) w.heap.size hg w w2 (Nat.le_refl _) hb hT).mono fun _ _ ⟨v, he, ho, hb'⟩ => ⟨v, he, ho, hb'⟩
set_option maxRecDepth 20000 in
set_option maxHeartbeats 400000 in
theorem implTurnsOfEach_no (s : ByteArray) (hs : s.size ≤ maxLen) (hg : goodB s = false) (w : World) :
    Calls Try.prog 15 #[.string s] w fun e w' => ∃ v, e = .returned (.tuple #[v, .bool false]) ∧ Own w' w.heap.size v [] ∧ Below w.heap.size w w' := by
  go_enter Try.func15, Try.ntmps15
  go_wp2_with (go_at_call 72; refine (told_turnsUntilRest_no _ hs hg _).mono ?_; rintro e w' ⟨rfl, rfl⟩)
  go_ret2
  exact ⟨_, rfl, own_nil _ _, Below.refl _ _⟩
set_option maxRecDepth 20000 in
set_option maxHeartbeats 400000 in
theorem implTurnsOfEach_yes (l : List Bool) (h1 : 1 ≤ l.length) (h2 : l.length ≤ 60) (w : World) :
    Calls Try.prog 15 #[.string (Rw.str l)] w fun e w' => ∃ v, e = .returned (.tuple #[v, .bool true]) ∧ Own w' w.heap.size v (asInts (Rw.turnsOf l (List.replicate l.length 0))) ∧ Below w.heap.size w w' := by
  have H := Lib.hid (told_turnsUntilRest l h1 h2 w (fun v w' => Own w' w.heap.size v (asInts (Rw.turnsOf l (List.replicate l.length 0))) ∧ Below w.heap.size w w') (method_TurnsOfEach l h1 h2 w))
  go_enter Try.func15, Try.ntmps15
  go_wp2_with (go_at_call 72; refine H.out.mono ?_; rintro e w' ⟨v, rfl, ho, hb⟩)
  go_ret2
  exact ⟨_, rfl, ho, hb⟩

end Go.Proofs.Ytacchefmblfobaa.C1
