/- The walk of the law FnExactRowAfter. -/
import Derived.Test.YtejlllmbcakacabAfter
namespace Go.Proofs.Ytejlllmbcakacab
open Go.ChangeShapes Go.WideShapes Go.ChangeAt Go.RowKit

def noAfter (s : ByteArray) (t : Int) : Prop := goodB s = false ∨ t < 0 ∨ 1000000 < t

set_option maxHeartbeats 1000000 in
theorem specRowAfter_no (s : ByteArray) (hs : s.size ≤ maxLen) (t : Int) (h : noAfter s t) (w : World) :
    Calls Try.prog 13 #[.string s, .int .i64 t] w fun e w' => e = .returned (.tuple #[.string ByteArray.empty, .bool false]) ∧ w = w' := by
  rcases hg : goodB s with _ | _
  · clear h
    go_enter Try.func13, Try.ntmps13
    go_wp2_with (first | (go_at_call 39; refine (rwGood_any _ _ hs).mono ?_; rintro e w' ⟨rfl, rfl⟩))
    go_ret2
    exact ⟨rfl, rfl⟩
  · have b1 : inB t 0 1000000 = false := by
      unfold inB; simp only [decide_eq_false_iff_not]
      rcases h with h | h | h
      · rw [hg] at h; cases h
      · omega
      · omega
    clear h
    go_enter Try.func13, Try.ntmps13
    go_wp2_with (first | (go_at_call 39; refine (rwGood_any _ _ hs).mono ?_; rintro e w' ⟨rfl, rfl⟩) | (go_at_call 40; refine (l1In_any _ _ _ _).mono ?_; rintro e w' ⟨rfl, rfl⟩))
    go_ret2
    exact ⟨rfl, rfl⟩

set_option maxHeartbeats 1000000 in
theorem implRowAfter_no (s : ByteArray) (hs : s.size ≤ maxLen) (t : Int) (h : noAfter s t) (w : World) :
    Calls Try.prog 14 #[.string s, .int .i64 t] w fun e w' => e = .returned (.tuple #[.string ByteArray.empty, .bool false]) ∧ Below w.heap.size w w' := by
  by_cases h1 : t < 0
  · have b1 : decide (t < 0) = true := by simp; omega
    clear h
    go_enter Try.func14, Try.ntmps14
    go_wp2
    go_ret2
    exact ⟨rfl, (Below.refl _ _).alloc (Nat.le_refl _) _⟩
  · have b1 : decide (t < 0) = false := by simp; omega
    by_cases h2 : 1000000 < t
    · have b2 : decide (1000000 < t) = true := by simp; omega
      clear h
      go_enter Try.func14, Try.ntmps14
      go_wp2
      go_ret2
      exact ⟨rfl, (Below.refl _ _).alloc (Nat.le_refl _) _⟩
    · have b2 : decide (1000000 < t) = false := by simp; omega
      have hg : goodB s = false := by
        rcases h with h | h | h
        · exact h
        · omega
        · omega
      have HG := Lib.hid hg
      clear h hg
      go_enter Try.func14, Try.ntmps14
      go_wp2_with (go_at_call 43; refine (told_closure_no _ _ hs HG.out _).mono ?_; rintro e w' ⟨rfl, rfl⟩)
      go_ret2
      exact ⟨rfl, (Below.refl _ _).alloc (Nat.le_refl _) _⟩

set_option maxHeartbeats 1000000 in
theorem implRowAfter_yes (l : List Bool) (t : Nat) (ht : t ≤ 1000000) (h1 : 1 ≤ l.length) (h2 : l.length ≤ 60) (w : World) :
    Calls Try.prog 14 #[.string (Rw.str l), .int .i64 (t : Int)] w fun e w' => e = .returned (.tuple #[.string (Rw.str (Rw.afterOf t l)), .bool true]) ∧ Below w.heap.size w w' := by
  have b1 : decide ((t : Int) < 0) = false := by simp
  have b2 : decide ((1000000 : Int) < t) = false := by simp; omega
  have hb0 : Below w.heap.size w (w.alloc (.cells #[.int .i64 (t : Int)] 3)) := (Below.refl _ _).alloc (Nat.le_refl _) _
  have H := Lib.hid (told_closure ⟨w.heap.size, 0, none⟩ l h1 h2 (w.alloc (.cells #[.int .i64 (t : Int)] 3)) (fun v w' => v = .string (Rw.str (Rw.afterOf t l)) ∧ Below w.heap.size w w') (fun w2 g hb hg hT =>
    (closure_any g l _ ⟨w.heap.size, 0, none⟩ t ht h1 h2 (by simp) (w.heap.size + 1) (by simpa using hg) _ w2 (by simp) (by simpa using hb) (by simp) (by simp) hT).mono fun e w' ⟨he, hb'⟩ => ⟨_, he, rfl, hb0.trans (hb'.mono (by omega))⟩))
  clear hb0
  go_enter Try.func14, Try.ntmps14
  go_wp2_with (go_at_call 43; refine H.out.mono ?_; rintro e w' ⟨v, rfl, rfl, hb⟩)
  go_ret2
  exact ⟨rfl, hb⟩

set_option maxHeartbeats 1000000 in
theorem walkFnExactRowAfter (s : ByteArray) (t : Int) (hs : s.size ≤ maxLen) (_wt : (Lit.int .i64 t).wf = true) (w : World) :
    Calls Try.prog 3 #[.string s, .int .i64 t] w fun e w' => e = .returned (.bool true) ∧ Below w.heap.size w w' := by
  by_cases hbig : s.size ≤ 1048576
  · by_cases h : noAfter s t
    · have HG := Lib.hid h
      clear h
      go_enter Try.func3, Try.ntmps3
      go_wp2_with (first | (go_at_call 13; refine (specRowAfter_no _ hs _ HG.out _).mono ?_; rintro e w' ⟨rfl, rfl⟩) | (go_at_call 14; refine (implRowAfter_no _ hs _ HG.out _).mono ?_; rintro e w' ⟨rfl, hb⟩))
      go_ret
      exact ⟨rfl, hb⟩
    · have hg : goodB s = true := by
        rcases hg : goodB s with _ | _
        · exact absurd (Or.inl hg) h
        · rfl
      have h0 : 0 ≤ t := by
        by_cases h0 : 0 ≤ t
        · exact h0
        · exact absurd (Or.inr (Or.inl (by omega))) h
      have h1 : t ≤ 1000000 := by
        by_cases h0 : t ≤ 1000000
        · exact h0
        · exact absurd (Or.inr (Or.inr (by omega))) h
      obtain ⟨t', rfl⟩ : ∃ m : Nat, t = m := ⟨t.toNat, by omega⟩
      obtain ⟨l, rfl, i1, i2⟩ := goodB_row hg
      have ht : t' ≤ 1000000 := by omega
      clear h hg h0 h1
      go_enter Try.func3, Try.ntmps3
      go_wp2_with (first | (go_at_call 13; refine (specRowAfter_yes l t' ht i1 i2 _).mono ?_; rintro e w1 ⟨rfl, hb1⟩) | (go_at_call 14; refine (implRowAfter_yes l t' ht i1 i2 _).mono ?_; rintro e w2 ⟨rfl, hb2⟩))
      go_ret
      exact ⟨rfl, hb1.trans (hb2.mono hb1.size)⟩
  · go_enter Try.func3, Try.ntmps3
    go_wp2
    go_ret
    exact ⟨rfl, Below.refl _ _⟩

end Go.Proofs.Ytejlllmbcakacab
