/- The walk of the law FnExactTurnsOfEach. -/
import Derived.Test.YtejlllmbcakacabTold
import Derived.Test.YtejlllmbcakacabSpecC
import Derived.Test.YtejlllmbcakacabRested
import Derived.Test.YtejlllmbcakacabSlices
namespace Go.Proofs.Ytejlllmbcakacab
open Go.ChangeShapes Go.WideShapes Go.ChangeAt Go.RowKit

set_option maxHeartbeats 400000 in
theorem specTurnsOfEach_no (s : ByteArray) (hs : s.size ≤ maxLen) (hg : goodB s = false) (w : World) :
    Calls Try.prog 19 #[.string s] w fun e w' => ∃ v, e = .returned (.tuple #[v, .bool false]) ∧ Own w' w.heap.size v [] ∧ Below w.heap.size w w' := by
  go_enter Try.func19, Try.ntmps19
  go_wp2_with (go_at_call 39; refine (rwGood_any _ _ hs).mono ?_; rintro e w' ⟨rfl, rfl⟩)
  go_ret2
  exact ⟨_, rfl, own_nil _ _, Below.refl _ _⟩
theorem len_TurnsOfEach (l : List Bool) (h2 : l.length ≤ 60) : (asInts (Rw.turnsOf l (List.replicate l.length 0))).length ≤ 4611686018427387904 := by
  simp only [asInts, List.length_map, Rw.length_turnsOf, List.length_replicate]
  omega
theorem method_TurnsOfEach (l : List Bool) (h1 : 1 ≤ l.length) (h2 : l.length ≤ 60) (w w2 : World) (g : Nat) (hb : Below w.heap.size w w2) (hg : w.heap.size ≤ g) (hT : Trp w2 g l (List.replicate l.length 0)) :
    Calls Try.prog 52 #[.slice (some ⟨g, 0, none⟩) l.length l.length] w2 fun e w' => ∃ v, e = .returned v ∧ Own w' w.heap.size v (asInts (Rw.turnsOf l (List.replicate l.length 0))) ∧ Below w.heap.size w w' :=
  (turnsUntilRest_any g l _ h1 h2 (by simp) w.heap.size hg w w2 (Nat.le_refl _) hb hT).mono fun _ _ ⟨v, he, ho, hb'⟩ => ⟨v, he, ho, hb'⟩
set_option maxHeartbeats 400000 in
theorem implTurnsOfEach_no (s : ByteArray) (hs : s.size ≤ maxLen) (hg : goodB s = false) (w : World) :
    Calls Try.prog 20 #[.string s] w fun e w' => ∃ v, e = .returned (.tuple #[v, .bool false]) ∧ Own w' w.heap.size v [] ∧ Below w.heap.size w w' := by
  go_enter Try.func20, Try.ntmps20
  go_wp2_with (go_at_call 51; refine (told_turnsUntilRest_no _ hs hg _).mono ?_; rintro e w' ⟨rfl, rfl⟩)
  go_ret2
  exact ⟨_, rfl, own_nil _ _, Below.refl _ _⟩
set_option maxHeartbeats 400000 in
theorem implTurnsOfEach_yes (l : List Bool) (h1 : 1 ≤ l.length) (h2 : l.length ≤ 60) (w : World) :
    Calls Try.prog 20 #[.string (Rw.str l)] w fun e w' => ∃ v, e = .returned (.tuple #[v, .bool true]) ∧ Own w' w.heap.size v (asInts (Rw.turnsOf l (List.replicate l.length 0))) ∧ Below w.heap.size w w' := by
  have H := Lib.hid (told_turnsUntilRest l h1 h2 w (fun v w' => Own w' w.heap.size v (asInts (Rw.turnsOf l (List.replicate l.length 0))) ∧ Below w.heap.size w w') (method_TurnsOfEach l h1 h2 w))
  go_enter Try.func20, Try.ntmps20
  go_wp2_with (go_at_call 51; refine H.out.mono ?_; rintro e w' ⟨v, rfl, ho, hb⟩)
  go_ret2
  exact ⟨_, rfl, ho, hb⟩

set_option maxHeartbeats 2000000 in
theorem lawTurnsOfEach (s : ByteArray) (hbig : s.size ≤ 1048576) (w : World) (b : Bool) (zs : List Int) (hz : zs.length ≤ 4611686018427387904)
    (hS : ∀ w, Calls Try.prog 19 #[.string s] w fun e w' => ∃ v, e = .returned (.tuple #[v, .bool b]) ∧ Own w' w.heap.size v zs ∧ Below w.heap.size w w')
    (hI : ∀ w, Calls Try.prog 20 #[.string s] w fun e w' => ∃ v, e = .returned (.tuple #[v, .bool b]) ∧ Own w' w.heap.size v zs ∧ Below w.heap.size w w') :
    Calls Try.prog 6 #[.string s] w fun e w' => e = .returned (.bool true) ∧ Below w.heap.size w w' := by
  have HS := Lib.hid hS
  have HI := Lib.hid hI
  obtain ⟨n, hn⟩ : ∃ n, n = zs.length := ⟨_, rfl⟩
  have HN := Lib.hid hn
  clear hS hI hn
  go_enter Try.func6, Try.ntmps6
  go_wp2_with fail
  go_at_call 19
  refine (HS.out w).mono ?_
  rintro e w1 ⟨v1, rfl, o1, b1⟩
  have O1 := Lib.hid o1
  have B1 := Lib.hid b1
  have z1 := b1.size
  clear o1 b1
  go_wp2_with fail
  go_at_call 20
  refine (HI.out w1).mono ?_
  rintro e w2 ⟨v2, rfl, o2, b2⟩
  have O2 := Lib.hid o2
  have P1 := Lib.hid (O1.out.below b2 (Nat.le_refl _))
  have B2 : Hid (Below w.heap.size w w2) := B1.out.trans (b2.mono z1)
  have z2 := b2.size
  clear o2 b2
  go_wp2_with fail
  go_at_call 21
  refine (eqIntS_same w2 _ _ v2 v1 zs hz O2.out P1.out).mono ?_
  rintro e w3 ⟨rfl, b3⟩
  have O3 := Lib.hid (O2.out.below b3 (Nat.le_refl _))
  have P3 := Lib.hid (P1.out.below b3 (Nat.le_refl _))
  have B3 : Hid (Below w.heap.size w w3) := B2.out.trans (b3.mono (by omega))
  have z3 := b3.size
  clear b3
  go_wp2_with fail
  go_at_call 22
  refine (markIntS_any w3 _ v2 zs 1 hz (by omega) (by omega) O3.out).mono ?_
  rintro e w4 ⟨rfl, o4, g4⟩
  have O4 := Lib.hid o4
  have P4 := Lib.hid (P3.out.grown g4 (fun k hk => .inr (fun e => by have h1 := (World.ownsRow.lt O1.out k e).2; have h2 := (World.ownsRow.lt O3.out k hk).1; omega)))
  have B4 : Hid (Below w.heap.size w w4) := B3.out.grown g4 B3.out.size (fun k hk => by have := (World.ownsRow.lt O3.out k hk).1; omega)
  have z4 := g4.size
  rw [← HN.out] at O4 ⊢
  have hn2 : n ≤ 4611686018427387904 := by rw [HN.out]; exact hz
  clear o4 g4
  go_wp2_with fail
  go_at_call 23
  refine (heldIntS_any w4 _ v2 n 1 hn2 (by omega) (by omega) O4.out).mono ?_
  rintro e w4' ⟨rfl, rfl⟩
  go_wp2_with fail
  go_at_call 20
  refine (HI.out w4).mono ?_
  rintro e w5 ⟨v5, rfl, o5, b5⟩
  have O5 := Lib.hid o5
  have P5 := Lib.hid (P4.out.below b5 (Nat.le_refl _))
  have Q5 := Lib.hid (O4.out.below b5 (Nat.le_refl _))
  have B5 : Hid (Below w.heap.size w w5) := B4.out.trans (b5.mono (by omega))
  have z5 := b5.size
  clear o5 b5
  go_wp2_with fail
  go_at_call 21
  refine (eqIntS_same w5 _ _ v5 v1 zs hz O5.out P5.out).mono ?_
  rintro e w6 ⟨rfl, b6⟩
  have Q6 := Lib.hid (Q5.out.below b6 (Nat.le_refl _))
  have B6 : Hid (Below w.heap.size w w6) := B5.out.trans (b6.mono (by omega))
  clear b6
  go_wp2_with fail
  go_at_call 23
  refine (heldIntS_any w6 _ v2 n 1 hn2 (by omega) (by omega) Q6.out).mono ?_
  rintro e w6' ⟨rfl, rfl⟩
  go_wp2
  go_ret
  exact ⟨rfl, B6.out⟩

set_option maxHeartbeats 400000 in
theorem walkFnExactTurnsOfEach (s : ByteArray) (hs : s.size ≤ maxLen) (w : World) :
    Calls Try.prog 6 #[.string s] w fun e w' => e = .returned (.bool true) ∧ Below w.heap.size w w' := by
  by_cases hbig : s.size ≤ 1048576
  · rcases hg : goodB s with _ | _
    · exact lawTurnsOfEach s hbig w false [] (by simp) (specTurnsOfEach_no s hs hg) (implTurnsOfEach_no s hs hg)
    · obtain ⟨l, rfl, h1, h2⟩ := goodB_row hg
      exact lawTurnsOfEach _ hbig w true _ (len_TurnsOfEach l h2) (specTurnsOfEach_yes l h1 h2) (implTurnsOfEach_yes l h1 h2)
  · go_enter Try.func6, Try.ntmps6
    go_wp2
    go_ret
    exact ⟨rfl, Below.refl _ _⟩

end Go.Proofs.Ytejlllmbcakacab
