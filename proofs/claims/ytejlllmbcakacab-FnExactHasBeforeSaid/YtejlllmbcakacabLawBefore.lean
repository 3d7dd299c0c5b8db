/- The walks of the laws FnExactRowsBefore and FnExactHasBefore. -/
import Derived.Test.YtejlllmbcakacabBefore
import Derived.Test.YtejlllmbcakacabRwCounts
import Derived.Test.YtejlllmbcakacabTold
namespace Go.Proofs.Ytejlllmbcakacab
open Go.ChangeShapes Go.WideShapes Go.ChangeAt Go.RowKit

def befAll (l : List Bool) : List ByteArray := befTo l (p2 l.length)
def hasB (l : List Bool) : Bool := decide (0 < (befAll l).length)
theorem befAll_len (l : List Bool) (h2 : l.length ≤ 12) : (befAll l).length ≤ 4096 := by
  have := befTo_len l (p2 l.length); have := p2_12 l.length h2; unfold befAll; omega
/-- neither a row nor one that is short -/
def notShort (s : ByteArray) : Prop := goodB s = false ∨ 12 < s.size
theorem ret_bb2 {a b x : Bool} (h : a = b) : Ending.returned (.tuple #[.bool a, .bool x]) = .returned (.tuple #[.bool b, .bool x]) := by rw [h]

set_option maxHeartbeats 1000000 in
theorem specRowsBefore_no (s : ByteArray) (hs : s.size ≤ maxLen) (h : notShort s) (w : World) :
    Calls Try.prog 24 #[.string s] w fun e w' => ∃ v, e = .returned (.tuple #[v, .bool false]) ∧ OwnS w' w.heap.size v [] ∧ Below w.heap.size w w' := by
  rcases hg : goodB s with _ | _
  · clear h
    go_enter Try.func24, Try.ntmps24
    go_wp2_with (go_at_call 39; refine (rwGood_any _ _ hs).mono ?_; rintro e w' ⟨rfl, rfl⟩)
    go_ret2
    exact ⟨_, rfl, ownS_nil _ _, Below.refl _ _⟩
  · have b1 : inB s.size 1 12 = false := by
      unfold inB; simp only [decide_eq_false_iff_not]
      rcases h with h | h
      · rw [hg] at h; cases h
      · omega
    clear h
    go_enter Try.func24, Try.ntmps24
    go_wp2_with (first | (go_at_call 39; refine (rwGood_any _ _ hs).mono ?_; rintro e w' ⟨rfl, rfl⟩) | (go_at_call 53; refine (few_any _ _).mono ?_; rintro e w' ⟨rfl, rfl⟩))
    go_ret2
    exact ⟨_, rfl, ownS_nil _ _, Below.refl _ _⟩
set_option maxHeartbeats 1000000 in
theorem specRowsBefore_yes (l : List Bool) (h1 : 1 ≤ l.length) (h2 : l.length ≤ 12) (w : World) :
    Calls Try.prog 24 #[.string (Rw.str l)] w fun e w' => ∃ v, e = .returned (.tuple #[v, .bool true]) ∧ OwnS w' w.heap.size v (befAll l) ∧ Below w.heap.size w w' := by
  have hgood := goodB_str h1 (by omega)
  have hml : (Rw.str l).size ≤ maxLen := by rw [Rw.size_str]; unfold maxLen; omega
  have b1 : inB (Rw.str l).size 1 12 = true := by unfold inB; rw [Rw.size_str]; simp only [decide_eq_true_eq]; omega
  have HC := Lib.hid (rwBefore_any l h1 h2 w)
  obtain ⟨s, hs⟩ : ∃ s, s = Rw.str l := ⟨_, rfl⟩
  rw [← hs] at hgood hml b1 HC ⊢
  clear hs
  go_enter Try.func24, Try.ntmps24
  go_wp2_with (first | (go_at_call 39; refine (rwGood_any _ _ hml).mono ?_; rintro e w' ⟨rfl, rfl⟩) | (go_at_call 53; refine (few_any _ _).mono ?_; rintro e w' ⟨rfl, rfl⟩) | (go_at_call 54; refine HC.out.mono ?_; rintro e w2 ⟨v, rfl, ho, hb⟩))
  go_ret2
  exact ⟨_, rfl, ho, hb⟩
set_option maxHeartbeats 1000000 in
theorem implRowsBefore_no (s : ByteArray) (hs : s.size ≤ maxLen) (h : notShort s) (w : World) :
    Calls Try.prog 25 #[.string s] w fun e w' => ∃ v, e = .returned (.tuple #[v, .bool false]) ∧ OwnS w' w.heap.size v [] ∧ Below w.heap.size w w' := by
  have hs' := hs
  unfold maxLen at hs'
  by_cases hb : 12 < s.size
  · clear h
    go_enter Try.func25, Try.ntmps25
    go_wp2
    go_ret2
    exact ⟨_, rfl, ownS_nil _ _, Below.refl _ _⟩
  · have hg : goodB s = false := by
      rcases h with h | h
      · exact h
      · exact absurd h hb
    have HG := Lib.hid hg
    clear h hg
    go_enter Try.func25, Try.ntmps25
    go_wp2_with (go_at_call 55; refine (told_before_no _ hs HG.out _).mono ?_; rintro e w' ⟨rfl, rfl⟩)
    go_ret2
    exact ⟨_, rfl, ownS_nil _ _, Below.refl _ _⟩
set_option maxHeartbeats 1000000 in
theorem implRowsBefore_yes (l : List Bool) (h1 : 1 ≤ l.length) (h2 : l.length ≤ 12) (w : World) :
    Calls Try.prog 25 #[.string (Rw.str l)] w fun e w' => ∃ v, e = .returned (.tuple #[v, .bool true]) ∧ OwnS w' w.heap.size v (befAll l) ∧ Below w.heap.size w w' := by
  have H := Lib.hid (told_before l h1 (by omega) w (fun v w' => OwnS w' w.heap.size v (befAll l) ∧ Below w.heap.size w w') (fun w2 g hb hg hT =>
    (before_any g l _ h1 h2 w.heap.size hg w w2 (Nat.le_refl _) hb hT).mono fun e w' ⟨v, he, ho, hb'⟩ => ⟨v, he, ho, hb'⟩))
  have hsz : (Rw.str l).size ≤ 12 := by rw [Rw.size_str]; exact h2
  obtain ⟨s, hs⟩ : ∃ s, s = Rw.str l := ⟨_, rfl⟩
  rw [← hs] at hsz H ⊢
  clear hs
  go_enter Try.func25, Try.ntmps25
  go_wp2_with (go_at_call 55; refine H.out.mono ?_; rintro e w' ⟨v, rfl, ho, hb⟩)
  go_ret2
  exact ⟨_, rfl, ho, hb⟩

set_option maxHeartbeats 2000000 in
theorem lawRowsBefore (s : ByteArray) (hbig : s.size ≤ 1048576) (w : World) (b : Bool) (zs : List ByteArray) (hz : zs.length ≤ 4096)
    (hS : ∀ w, Calls Try.prog 24 #[.string s] w fun e w' => ∃ v, e = .returned (.tuple #[v, .bool b]) ∧ OwnS w' w.heap.size v zs ∧ Below w.heap.size w w')
    (hI : ∀ w, Calls Try.prog 25 #[.string s] w fun e w' => ∃ v, e = .returned (.tuple #[v, .bool b]) ∧ OwnS w' w.heap.size v zs ∧ Below w.heap.size w w') :
    Calls Try.prog 7 #[.string s] w fun e w' => e = .returned (.bool true) ∧ Below w.heap.size w w' := by
  have HS := Lib.hid hS
  have HI := Lib.hid hI
  obtain ⟨n, hn⟩ : ∃ n, n = zs.length := ⟨_, rfl⟩
  have HN := Lib.hid hn
  have hn2 : n ≤ 4096 := by omega
  clear hS hI hn
  go_enter Try.func7, Try.ntmps7
  go_wp2_with fail
  go_at_call 24
  refine (HS.out w).mono ?_
  rintro e w1 ⟨v1, rfl, o1, b1⟩
  have O1 := Lib.hid o1
  have B1 := Lib.hid b1
  have z1 := b1.size
  clear o1 b1
  go_wp2_with fail
  go_at_call 25
  refine (HI.out w1).mono ?_
  rintro e w2 ⟨v2, rfl, o2, b2⟩
  have O2 := Lib.hid o2
  have P1 := Lib.hid (O1.out.below b2 (Nat.le_refl _))
  have B2 : Hid (Below w.heap.size w w2) := B1.out.trans (b2.mono z1)
  have z2 := b2.size
  clear o2 b2
  go_wp2_with fail
  go_at_call 26
  refine (eqStringS_same w2 _ _ v2 v1 zs (by omega) O2.out P1.out).mono ?_
  rintro e w3 ⟨rfl, b3⟩
  have O3 := Lib.hid (O2.out.below b3 (Nat.le_refl _))
  have P3 := Lib.hid (P1.out.below b3 (Nat.le_refl _))
  have B3 : Hid (Below w.heap.size w w3) := B2.out.trans (b3.mono (by omega))
  have z3 := b3.size
  clear b3
  go_wp2_with fail
  go_at_call 27
  refine (markStringS_any w3 _ v2 zs (by omega) O3.out).mono ?_
  rintro e w4 ⟨rfl, o4, g4⟩
  have O4 := Lib.hid o4
  have P4 := Lib.hid (P3.out.grown g4 (fun k hk => .inr (fun e => by have h1 := (World.ownsRow.lt O1.out k e).2; have h2 := (World.ownsRow.lt O3.out k hk).1; omega)))
  have B4 : Hid (Below w.heap.size w w4) := B3.out.grown g4 B3.out.size (fun k hk => by have := (World.ownsRow.lt O3.out k hk).1; omega)
  have z4 := g4.size
  rw [← HN.out] at O4 ⊢
  clear o4 g4
  go_wp2_with fail
  go_at_call 28
  refine (heldStringS_any w4 _ v2 n (by omega) O4.out).mono ?_
  rintro e w4b ⟨rfl, b4b⟩
  have O4b := Lib.hid (O4.out.below b4b (Nat.le_refl _))
  have P4b := Lib.hid (P4.out.below b4b (Nat.le_refl _))
  have B4b : Hid (Below w.heap.size w w4b) := B4.out.trans (b4b.mono (by omega))
  have z4b := b4b.size
  clear b4b
  go_wp2_with fail
  go_at_call 25
  refine (HI.out w4b).mono ?_
  rintro e w5 ⟨v5, rfl, o5, b5⟩
  have O5 := Lib.hid o5
  have P5 := Lib.hid (P4b.out.below b5 (Nat.le_refl _))
  have Q5 := Lib.hid (O4b.out.below b5 (Nat.le_refl _))
  have B5 : Hid (Below w.heap.size w w5) := B4b.out.trans (b5.mono (by omega))
  have z5 := b5.size
  clear o5 b5
  go_wp2_with fail
  go_at_call 26
  refine (eqStringS_same w5 _ _ v5 v1 zs (by omega) O5.out P5.out).mono ?_
  rintro e w6 ⟨rfl, b6⟩
  have Q6 := Lib.hid (Q5.out.below b6 (Nat.le_refl _))
  have B6 : Hid (Below w.heap.size w w6) := B5.out.trans (b6.mono (by omega))
  have z6 := b6.size
  clear b6
  go_wp2_with fail
  go_at_call 28
  refine (heldStringS_any w6 _ v2 n (by omega) Q6.out).mono ?_
  rintro e w7 ⟨rfl, b7⟩
  have B7 : Hid (Below w.heap.size w w7) := B6.out.trans (b7.mono (by omega))
  clear b7
  go_wp2
  go_ret
  exact ⟨rfl, B7.out⟩

set_option maxHeartbeats 400000 in
theorem walkFnExactRowsBefore (s : ByteArray) (hs : s.size ≤ maxLen) (w : World) :
    Calls Try.prog 7 #[.string s] w fun e w' => e = .returned (.bool true) ∧ Below w.heap.size w w' := by
  by_cases hbig : s.size ≤ 1048576
  · by_cases h : notShort s
    · exact lawRowsBefore s hbig w false [] (by simp) (specRowsBefore_no s hs h) (implRowsBefore_no s hs h)
    · have hg : goodB s = true := by
        rcases hg : goodB s with _ | _
        · exact absurd (Or.inl hg) h
        · rfl
      have h12 : s.size ≤ 12 := by
        by_cases h12 : s.size ≤ 12
        · exact h12
        · exact absurd (Or.inr (by omega)) h
      obtain ⟨l, rfl, h1, _⟩ := goodB_row hg
      rw [Rw.size_str] at h12
      exact lawRowsBefore _ hbig w true _ (befAll_len l h12) (specRowsBefore_yes l h1 h12) (implRowsBefore_yes l h1 h12)
  · go_enter Try.func7, Try.ntmps7
    go_wp2
    go_ret
    exact ⟨rfl, Below.refl _ _⟩

set_option maxHeartbeats 1000000 in
theorem specHasBefore_no (s : ByteArray) (hs : s.size ≤ maxLen) (h : notShort s) (w : World) :
    Calls Try.prog 29 #[.string s] w fun e w' => e = .returned (.tuple #[.bool false, .bool false]) ∧ w = w' := by
  rcases hg : goodB s with _ | _
  · clear h
    go_enter Try.func29, Try.ntmps29
    go_wp2_with (go_at_call 39; refine (rwGood_any _ _ hs).mono ?_; rintro e w' ⟨rfl, rfl⟩)
    go_ret2
    exact ⟨rfl, rfl⟩
  · have b1 : inB s.size 1 12 = false := by
      unfold inB; simp only [decide_eq_false_iff_not]
      rcases h with h | h
      · rw [hg] at h; cases h
      · omega
    clear h
    go_enter Try.func29, Try.ntmps29
    go_wp2_with (first | (go_at_call 39; refine (rwGood_any _ _ hs).mono ?_; rintro e w' ⟨rfl, rfl⟩) | (go_at_call 53; refine (few_any _ _).mono ?_; rintro e w' ⟨rfl, rfl⟩))
    go_ret2
    exact ⟨rfl, rfl⟩
set_option maxHeartbeats 1000000 in
theorem specHasBefore_yes (l : List Bool) (h1 : 1 ≤ l.length) (h2 : l.length ≤ 12) (w : World) :
    Calls Try.prog 29 #[.string (Rw.str l)] w fun e w' => e = .returned (.tuple #[.bool (hasB l), .bool true]) ∧ Below w.heap.size w w' := by
  have hgood := goodB_str h1 (by omega)
  have hml : (Rw.str l).size ≤ maxLen := by rw [Rw.size_str]; unfold maxLen; omega
  have b1 : inB (Rw.str l).size 1 12 = true := by unfold inB; rw [Rw.size_str]; simp only [decide_eq_true_eq]; omega
  have HC := Lib.hid (rwBefore_any l h1 h2 w)
  have HE : Hid (hasB l = decide (0 < (befTo l (p2 l.length)).length)) := rfl
  obtain ⟨bs, hbs⟩ : ∃ bs, bs = befTo l (p2 l.length) := ⟨_, rfl⟩
  rw [← hbs] at HC HE
  obtain ⟨s, hs⟩ : ∃ s, s = Rw.str l := ⟨_, rfl⟩
  rw [← hs] at hgood hml b1 HC ⊢
  clear hs hbs
  go_enter Try.func29, Try.ntmps29
  go_wp2_with (first | (go_at_call 39; refine (rwGood_any _ _ hml).mono ?_; rintro e w' ⟨rfl, rfl⟩) | (go_at_call 53; refine (few_any _ _).mono ?_; rintro e w' ⟨rfl, rfl⟩))
  go_at_call 54
  refine HC.out.mono ?_
  rintro e w2 ⟨v, rfl, ho, hb⟩
  obtain ⟨ao, cap, rfl⟩ := ho.any
  have HB := Lib.hid hb
  clear ho hb
  go_wp2
  go_ret2
  exact ⟨ret_bb2 HE.out.symm, HB.out⟩
set_option maxHeartbeats 1000000 in
theorem hasBefore_any (g : Nat) (l : List Bool) (c : List Nat) (h1 : 1 ≤ l.length) (h2 : l.length ≤ 12) (B : Nat) (hB : B ≤ g) (w0 w : World) (hB0 : B ≤ w0.heap.size) (hb : Below B w0 w) (hT : Trp w g l c) :
    Calls Try.prog 59 #[.slice (some ⟨g, 0, none⟩) l.length l.length] w fun e w' => e = .returned (.bool (hasB l)) ∧ Below B w0 w' := by
  have HC := Lib.hid (before_any g l c h1 h2 B hB w0 w hB0 hb hT)
  have HE : Hid (hasB l = decide (0 < (befTo l (p2 l.length)).length)) := rfl
  obtain ⟨bs, hbs⟩ : ∃ bs, bs = befTo l (p2 l.length) := ⟨_, rfl⟩
  obtain ⟨n, hn⟩ : ∃ n, n = l.length := ⟨_, rfl⟩
  rw [← hbs] at HC HE
  rw [← hn] at HC ⊢
  clear hbs hn hT hb
  go_enter Try.func59, Try.ntmps59
  go_wp2_with fail
  go_at_call 56
  refine HC.out.mono ?_
  rintro e w2 ⟨v, rfl, ho, hb⟩
  obtain ⟨ao, cap, rfl⟩ := ho.any
  have HB := Lib.hid hb
  clear ho hb
  go_wp2
  go_ret
  exact ⟨ret_bool HE.out.symm, HB.out⟩
set_option maxHeartbeats 1000000 in
theorem implHasBefore_no (s : ByteArray) (hs : s.size ≤ maxLen) (h : notShort s) (w : World) :
    Calls Try.prog 30 #[.string s] w fun e w' => e = .returned (.tuple #[.bool false, .bool false]) ∧ w = w' := by
  have hs' := hs
  unfold maxLen at hs'
  by_cases hb : 12 < s.size
  · clear h
    go_enter Try.func30, Try.ntmps30
    go_wp2
    go_ret2
    exact ⟨rfl, rfl⟩
  · have hg : goodB s = false := by
      rcases h with h | h
      · exact h
      · exact absurd h hb
    have HG := Lib.hid hg
    clear h hg
    go_enter Try.func30, Try.ntmps30
    go_wp2_with (go_at_call 58; refine (told_hasBefore_no _ hs HG.out _).mono ?_; rintro e w' ⟨rfl, rfl⟩)
    go_ret2
    exact ⟨rfl, rfl⟩
set_option maxHeartbeats 1000000 in
theorem implHasBefore_yes (l : List Bool) (h1 : 1 ≤ l.length) (h2 : l.length ≤ 12) (w : World) :
    Calls Try.prog 30 #[.string (Rw.str l)] w fun e w' => e = .returned (.tuple #[.bool (hasB l), .bool true]) ∧ Below w.heap.size w w' := by
  have H := Lib.hid (told_hasBefore l h1 (by omega) w (fun v w' => v = .bool (hasB l) ∧ Below w.heap.size w w') (fun w2 g hb hg hT =>
    (hasBefore_any g l _ h1 h2 w.heap.size hg w w2 (Nat.le_refl _) hb hT).mono fun e w' ⟨he, hb'⟩ => ⟨_, he, rfl, hb'⟩))
  have hsz : (Rw.str l).size ≤ 12 := by rw [Rw.size_str]; exact h2
  obtain ⟨s, hs⟩ : ∃ s, s = Rw.str l := ⟨_, rfl⟩
  rw [← hs] at hsz H ⊢
  clear hs
  go_enter Try.func30, Try.ntmps30
  go_wp2_with (go_at_call 58; refine H.out.mono ?_; rintro e w' ⟨v, rfl, rfl, hb⟩)
  go_ret2
  exact ⟨rfl, hb⟩

set_option maxHeartbeats 1000000 in
theorem walkFnExactHasBefore (s : ByteArray) (hs : s.size ≤ maxLen) (w : World) :
    Calls Try.prog 8 #[.string s] w fun e w' => e = .returned (.bool true) ∧ Below w.heap.size w w' := by
  by_cases hbig : s.size ≤ 1048576
  · by_cases h : notShort s
    · have HG := Lib.hid h
      clear h
      go_enter Try.func8, Try.ntmps8
      go_wp2_with (first | (go_at_call 29; refine (specHasBefore_no _ hs HG.out _).mono ?_; rintro e w' ⟨rfl, rfl⟩) | (go_at_call 30; refine (implHasBefore_no _ hs HG.out _).mono ?_; rintro e w' ⟨rfl, rfl⟩))
      go_ret
      exact ⟨rfl, Below.refl _ _⟩
    · have hg : goodB s = true := by
        rcases hg : goodB s with _ | _
        · exact absurd (Or.inl hg) h
        · rfl
      have h12 : s.size ≤ 12 := by
        by_cases h12 : s.size ≤ 12
        · exact h12
        · exact absurd (Or.inr (by omega)) h
      obtain ⟨l, rfl, h1, _⟩ := goodB_row hg
      rw [Rw.size_str] at h12
      clear h hg
      go_enter Try.func8, Try.ntmps8
      go_wp2_with (first | (go_at_call 29; refine (specHasBefore_yes l h1 h12 _).mono ?_; rintro e w1 ⟨rfl, hb1⟩) | (go_at_call 30; refine (implHasBefore_yes l h1 h12 _).mono ?_; rintro e w2 ⟨rfl, hb2⟩))
      go_ret
      exact ⟨rfl, hb1.trans (hb2.mono hb1.size)⟩
  · go_enter Try.func8, Try.ntmps8
    go_wp2
    go_ret
    exact ⟨rfl, Below.refl _ _⟩

end Go.Proofs.Ytejlllmbcakacab
