
/- The walks of the laws FnExactRowsBefore and FnExactHasBefore. -/
import Derived.Test.YtacchefmblfobaaC1Before
import Derived.Test.YtacchefmblfobaaC1RwCounts
import Derived.Test.YtacchefmblfobaaC1Told
namespace Go.Proofs.Ytacchefmblfobaa.C1
open Go.ChangeShapes Go.WideShapes Go.ChangeAt Go.RowKit

def befAll (l : List Bool) : List ByteArray := befTo l (p2 l.length)
def hasB (l : List Bool) : Bool := decide (0 < (befAll l).length)
theorem befAll_len (l : List Bool) (h2 : l.length ≤ 12) : (befAll l).length ≤ 4096 := by
  have := befTo_len l (p2 l.length); have := p2_12 l.length h2; unfold befAll; omega
/-- neither a row nor one that is short -/
def notShort (s : ByteArray) : Prop := goodB s = false ∨ 12 < s.size
theorem ret_bb2 {a b x : Bool} (h : a = b) : Ending.returned (.tuple #[.bool a, .bool x]) = .returned (.tuple #[.bool b, .bool x]) := by rw [h]

set_option maxRecDepth 20000 in
set_option maxHeartbeats 1000000 in
theorem specRowsBefore_no (s : ByteArray) (hs : s.size ≤ maxLen) (h : notShort s) (w : World) :
    Calls Try.prog 44 #[.string s] w fun e w' => ∃ v, e = .returned (.tuple #[v, .bool false]) ∧ OwnS w' w.heap.size v [] ∧ Below w.heap.size w w' := by
  rcases hg : goodB s with _ | _
  · clear h
    go_enter Try.func44, Try.ntmps44
    go_wp2_with (go_at_call 65; refine (rwGood_any _ _ hs).mono ?_; rintro e w' ⟨rfl, rfl⟩)
    go_ret2
    exact ⟨_, rfl, ownS_nil _ _, Below.refl _ _⟩
  · have b1 : inB s.size 1 12 = false := by
      unfold inB; simp only [decide_eq_false_iff_not]
      rcases h with h | h
      · rw [hg] at h; cases h
      · omega
    clear h
    go_enter Try.func44, Try.ntmps44
    go_wp2_with (first | (go_at_call 65; refine (rwGood_any _ _ hs).mono ?_; rintro e w' ⟨rfl, rfl⟩) | (go_at_call 96; refine (few_any _ _).mono ?_; rintro e w' ⟨rfl, rfl⟩))
    go_ret2
    exact ⟨_, rfl, ownS_nil _ _, Below.refl _ _⟩
set_option maxRecDepth 20000 in
set_option maxHeartbeats 1000000 in
theorem specRowsBefore_yes (l : List Bool) (h1 : 1 ≤ l.length) (h2 : l.length ≤ 12) (w : World) :
    Calls Try.prog 44 #[.string (Rw.str l)] w fun e w' => ∃ v, e = .returned (.tuple #[v, .bool true]) ∧ OwnS w' w.heap.size v (befAll l) ∧ Below w.heap.size w w' := by
  have hgood := goodB_str h1 (by omega)
  have hml : (Rw.str l).size ≤ maxLen := by rw [Rw.size_str]; unfold maxLen; omega
  have b1 : inB (Rw.str l).size 1 12 = true := by unfold inB; rw [Rw.size_str]; simp only [decide_eq_true_eq]; omega
  have HC := Lib.hid (rwBefore_any l h1 h2 w)
  obtain ⟨s, hs⟩ : ∃ s, s = Rw.str l := ⟨_, rfl⟩
  rw [← hs] at hgood hml b1 HC ⊢
  clear hs
  go_enter Try.func44, Try.ntmps44
  go_wp2_with (first | (go_at_call 65; refine (rwGood_any _ _ hml).mono ?_; rintro e w' ⟨rfl, rfl⟩) | (go_at_call 96; refine (few_any _ _).mono ?_; rintro e w' ⟨rfl, rfl⟩) | (go_at_call 97; refine HC.out.mono ?_; rintro e w2 ⟨v, rfl, ho, hb⟩))
  go_ret2
  exact ⟨_, rfl, ho, hb⟩
set_option maxRecDepth 20000 in
set_option maxHeartbeats 1000000 in
theorem implRowsBefore_no (s : ByteArray) (hs : s.size ≤ maxLen) (h : notShort s) (w : World) :
    Calls Try.prog 43 #[.string s] w fun e w' => ∃ v, e = .returned (.tuple #[v, .bool false]) ∧ OwnS w' w.heap.size v [] ∧ Below w.heap.size w w' := by
  have hs' := hs
  unfold maxLen at hs'
  by_cases hb : 12 < s.size
  · clear h
    go_enter Try.func43, Try.ntmps43
    go_wp2
    go_ret2
    exact ⟨_, rfl, ownS_nil _ _, Below.refl _ _⟩
  · have hg : goodB s = false := by
      rcases h with h | h
      · exact h
      · exact absurd h hb
    have HG := Lib.hid hg
    clear h hg
    go_enter Try.func43, Try.ntmps43
    go_wp2_with (go_at_call 94; refine (told_before_no _ hs HG.out _).mono ?_; rintro e w' ⟨rfl, rfl⟩)
    go_ret2
    exact ⟨_, rfl, ownS_nil _ _, Below.refl _ _⟩
set_option maxRecDepth 20000 in
set_option maxHeartbeats 1000000 in
theorem implRowsBefore_yes (l : List Bool) (h1 : 1 ≤ l.length) (h2 : l.length ≤ 12) (w : World) :
    Calls Try.prog 43 #[.string (Rw.str l)] w fun e w' => ∃ v, e = .returned (.tuple #[v, .bool true]) ∧ OwnS w' w.heap.size v (befAll l) ∧ Below w.heap.size w w' := by
  have H := Lib.hid (told_before l h1 (by omega) w (fun v w' => OwnS w' w.heap.size v (befAll l) ∧ Below w.heap.size w w') (fun w2 g hb hg hT =>
    (before_any g l _ h1 h2 w.heap.size hg w w2 (Nat.le_refl _) hb hT).mono fun e w' ⟨v, he, ho, hb'⟩ => ⟨v, he, ho, hb'⟩))
  have hsz : (Rw.str l).size ≤ 12 := by rw [Rw.size_str]; exact h2
  obtain ⟨s, hs⟩ : ∃ s, s = Rw.str l := ⟨_, rfl⟩
  rw [← hs] at hsz H ⊢
  clear hs
  go_enter Try.func43, Try.ntmps43
  go_wp2_with (go_at_call 94; refine H.out.mono ?_; rintro e w' ⟨v, rfl, ho, hb⟩)
  go_ret2
  exact ⟨_, rfl, ho, hb⟩


set_option maxRecDepth 20000 in
set_option maxHeartbeats 1000000 in
theorem specHasBefore_no (s : ByteArray) (hs : s.size ≤ maxLen) (h : notShort s) (w : World) :
    Calls Try.prog 46 #[.string s] w fun e w' => e = .returned (.tuple #[.bool false, .bool false]) ∧ w = w' := by
  rcases hg : goodB s with _ | _
  · clear h
    go_enter Try.func46, Try.ntmps46
    go_wp2_with (go_at_call 65; refine (rwGood_any _ _ hs).mono ?_; rintro e w' ⟨rfl, rfl⟩)
    go_ret2
    exact ⟨rfl, rfl⟩
  · have b1 : inB s.size 1 12 = false := by
      unfold inB; simp only [decide_eq_false_iff_not]
      rcases h with h | h
      · rw [hg] at h; cases h
      · omega
    clear h
    go_enter Try.func46, Try.ntmps46
    go_wp2_with (first | (go_at_call 65; refine (rwGood_any _ _ hs).mono ?_; rintro e w' ⟨rfl, rfl⟩) | (go_at_call 96; refine (few_any _ _).mono ?_; rintro e w' ⟨rfl, rfl⟩))
    go_ret2
    exact ⟨rfl, rfl⟩
set_option maxRecDepth 20000 in
set_option maxHeartbeats 1000000 in
theorem specHasBefore_yes (l : List Bool) (h1 : 1 ≤ l.length) (h2 : l.length ≤ 12) (w : World) :
    Calls Try.prog 46 #[.string (Rw.str l)] w fun e w' => e = .returned (.tuple #[.bool (hasB l), .bool true]) ∧ Below w.heap.size w w' := by
  have hgood := goodB_str h1 (by omega)
  have hml : (Rw.str l).size ≤ maxLen := by rw [Rw.size_str]; unfold maxLen; omega
  have b1 : inB (Rw.str l).size 1 12 = true := by unfold inB; rw [Rw.size_str]; simp only [decide_eq_true_eq]; omega
  have HC := Lib.hid (rwBefore_any l h1 h2 w)
  have HE : Hid (hasB l = decide (0 < (befTo l (p2 l.length)).length)) := rfl
  obtain ⟨bs, hbs⟩ : ∃ bs, bs = befTo l (p2 l.length) := ⟨_, rfl⟩
  rw [← hbs] at HC HE
  obtain ⟨s, hs⟩ : ∃ s, s = Rw.str l := ⟨_, rfl⟩
  rw [← hs] at hgood hml b1 HC ⊢
  clear hs hbs
  go_enter Try.func46, Try.ntmps46
  go_wp2_with (first | (go_at_call 65; refine (rwGood_any _ _ hml).mono ?_; rintro e w' ⟨rfl, rfl⟩) | (go_at_call 96; refine (few_any _ _).mono ?_; rintro e w' ⟨rfl, rfl⟩))
  go_at_call 97
  refine HC.out.mono ?_
  rintro e w2 ⟨v, rfl, ho, hb⟩
  obtain ⟨ao, cap, rfl⟩ := ho.any
  have HB := Lib.hid hb
  clear ho hb
  go_wp2
  go_ret2
  exact ⟨ret_bb2 HE.out.symm, HB.out⟩
set_option maxRecDepth 20000 in
set_option maxHeartbeats 1000000 in
theorem hasBefore_any (g : Nat) (l : List Bool) (c : List Nat) (h1 : 1 ≤ l.length) (h2 : l.length ≤ 12) (B : Nat) (hB : B ≤ g) (w0 w : World) (hB0 : B ≤ w0.heap.size) (hb : Below B w0 w) (hT : Trp w g l c) :
    Calls Try.prog 98 #[.slice (some ⟨g, 0, none⟩) l.length l.length] w fun e w' => e = .returned (.bool (hasB l)) ∧ Below B w0 w' := by
  have HC := Lib.hid (before_any g l c h1 h2 B hB w0 w hB0 hb hT)
  have HE : Hid (hasB l = decide (0 < (befTo l (p2 l.length)).length)) := rfl
  obtain ⟨bs, hbs⟩ : ∃ bs, bs = befTo l (p2 l.length) := ⟨_, rfl⟩
  obtain ⟨n, hn⟩ : ∃ n, n = l.length := ⟨_, rfl⟩
  rw [← hbs] at HC HE
  rw [← hn] at HC ⊢
  clear hbs hn hT hb
  go_enter Try.func98, Try.ntmps98
  go_wp2_with fail
  go_at_call 95
  refine HC.out.mono ?_
  rintro e w2 ⟨v, rfl, ho, hb⟩
  obtain ⟨ao, cap, rfl⟩ := ho.any
  have HB := Lib.hid hb
  clear ho hb
  go_wp2
  go_ret
  exact ⟨ret_bool HE.out.symm, HB.out⟩
set_option maxRecDepth 20000 in
set_option maxHeartbeats 1000000 in
theorem implHasBefore_no (s : ByteArray) (hs : s.size ≤ maxLen) (h : notShort s) (w : World) :
    Calls Try.prog 45 #[.string s] w fun e w' => e = .returned (.tuple #[.bool false, .bool false]) ∧ w = w' := by
  have hs' := hs
  unfold maxLen at hs'
  by_cases hb : 12 < s.size
  · clear h
    go_enter Try.func45, Try.ntmps45
    go_wp2
    go_ret2
    exact ⟨rfl, rfl⟩
  · have hg : goodB s = false := by
      rcases h with h | h
      · exact h
      · exact absurd h hb
    have HG := Lib.hid hg
    clear h hg
    go_enter Try.func45, Try.ntmps45
    go_wp2_with (go_at_call 76; refine (told_hasBefore_no _ hs HG.out _).mono ?_; rintro e w' ⟨rfl, rfl⟩)
    go_ret2
    exact ⟨rfl, rfl⟩
set_option maxRecDepth 20000 in
set_option maxHeartbeats 1000000 in
theorem implHasBefore_yes (l : List Bool) (h1 : 1 ≤ l.length) (h2 : l.length ≤ 12) (w : World) :
    Calls Try.prog 45 #[.string (Rw.str l)] w fun e w' => e = .returned (.tuple #[.bool (hasB l), .bool true]) ∧ Below w.heap.size w w' := by
  have H := Lib.hid (told_hasBefore l h1 (by omega) w (fun v w' => v = .bool (hasB l) ∧ Below w.heap.size w w') (fun w2 g hb hg hT =>
    (hasBefore_any g l _ h1 h2 w.heap.size hg w w2 (Nat.le_refl _) hb hT).mono fun e w' ⟨he, hb'⟩ => ⟨_, he, rfl, hb'⟩))
  have hsz : (Rw.str l).size ≤ 12 := by rw [Rw.size_str]; exact h2
  obtain ⟨s, hs⟩ : ∃ s, s = Rw.str l := ⟨_, rfl⟩
  rw [← hs] at hsz H ⊢
  clear hs
  go_enter Try.func45, Try.ntmps45
  go_wp2_with (go_at_call 76; refine H.out.mono ?_; rintro e w' ⟨v, rfl, rfl, hb⟩)
  go_ret2
  exact ⟨rfl, hb⟩


end Go.Proofs.Ytacchefmblfobaa.C1
