
/- The walk of the law FnExactRowAfter. -/
import Derived.Test.YtacchefmblfobaaC1After
namespace Go.Proofs.Ytacchefmblfobaa.C1
open Go.ChangeShapes Go.WideShapes Go.ChangeAt Go.RowKit

def noAfter (s : ByteArray) (t : Int) : Prop := goodB s = false ∨ t < 0 ∨ 1000000 < t

set_option maxRecDepth 20000 in
set_option maxHeartbeats 1000000 in
theorem specRowAfter_no (s : ByteArray) (hs : s.size ≤ maxLen) (t : Int) (h : noAfter s t) (w : World) :
    Calls Try.prog 37 #[.string s, .int .i64 t] w fun e w' => e = .returned (.tuple #[.string ByteArray.empty, .bool false]) ∧ w = w' := by
  rcases hg : goodB s with _ | _
  · clear h
    go_enter Try.func37, Try.ntmps37
    go_wp2_with (first | (go_at_call 65; refine (rwGood_any _ _ hs).mono ?_; rintro e w' ⟨rfl, rfl⟩))
    go_ret2
    exact ⟨rfl, rfl⟩
  · have b1 : inB t 0 1000000 = false := by
      unfold inB; simp only [decide_eq_false_iff_not]
      rcases h with h | h | h
      · rw [hg] at h; cases h
      · omega
      · omega
    clear h
    go_enter Try.func37, Try.ntmps37
    go_wp2_with (first | (go_at_call 65; refine (rwGood_any _ _ hs).mono ?_; rintro e w' ⟨rfl, rfl⟩) | (go_at_call 89; refine (l1In_any _ _ _ _).mono ?_; rintro e w' ⟨rfl, rfl⟩))
    go_ret2
    exact ⟨rfl, rfl⟩

set_option maxRecDepth 20000 in
set_option maxHeartbeats 1000000 in
theorem implRowAfter_no (s : ByteArray) (hs : s.size ≤ maxLen) (t : Int) (h : noAfter s t) (w : World) :
    Calls Try.prog 36 #[.string s, .int .i64 t] w fun e w' => e = .returned (.tuple #[.string ByteArray.empty, .bool false]) ∧ Below w.heap.size w w' := by
  by_cases h1 : t < 0
  · have b1 : decide (t < 0) = true := by simp; omega
    clear h
    go_enter Try.func36, Try.ntmps36
    go_wp2
    go_ret2
    exact ⟨rfl, (Below.refl _ _).alloc (Nat.le_refl _) _⟩
  · have b1 : decide (t < 0) = false := by simp; omega
    by_cases h2 : 1000000 < t
    · have b2 : decide (1000000 < t) = true := by simp; omega
      clear h
      go_enter Try.func36, Try.ntmps36
      go_wp2
      go_ret2
      exact ⟨rfl, (Below.refl _ _).alloc (Nat.le_refl _) _⟩
    · have b2 : decide (1000000 < t) = false := by simp; omega
      have hg : goodB s = false := by
        rcases h with h | h | h
        · exact h
        · omega
        · omega
      have HG := Lib.hid hg
      clear h hg
      go_enter Try.func36, Try.ntmps36
      go_wp2_with (go_at_call 67; refine (told_closure_no _ _ hs HG.out _).mono ?_; rintro e w' ⟨rfl, rfl⟩)
      go_ret2
      exact ⟨rfl, (Below.refl _ _).alloc (Nat.le_refl _) _⟩

set_option maxRecDepth 20000 in
set_option maxHeartbeats 1000000 in
theorem implRowAfter_yes (l : List Bool) (t : Nat) (ht : t ≤ 1000000) (h1 : 1 ≤ l.length) (h2 : l.length ≤ 60) (w : World) :
    Calls Try.prog 36 #[.string (Rw.str l), .int .i64 (t : Int)] w fun e w' => e = .returned (.tuple #[.string (Rw.str (Rw.afterOf t l)), .bool true]) ∧ Below w.heap.size w w' := by
  have b1 : decide ((t : Int) < 0) = false := by simp
  have b2 : decide ((1000000 : Int) < t) = false := by simp; omega
  have hb0 : Below w.heap.size w (w.alloc (.cells #[.int .i64 (t : Int)] 3)) := (Below.refl _ _).alloc (Nat.le_refl _) _
  have H := Lib.hid (told_closure ⟨w.heap.size, 0, none⟩ l h1 h2 (w.alloc (.cells #[.int .i64 (t : Int)] 3)) (fun v w' => v = .string (Rw.str (Rw.afterOf t l)) ∧ Below w.heap.size w w') (fun w2 g hb hg hT =>
    (closure_any g l _ ⟨w.heap.size, 0, none⟩ t ht h1 h2 (by simp) (w.heap.size + 1) (by simpa using hg) _ w2 (by simp) (by simpa using hb) (by simp) (by simp) hT).mono fun e w' ⟨he, hb'⟩ => ⟨_, he, rfl, hb0.trans (hb'.mono (by omega))⟩))
  clear hb0
  go_enter Try.func36, Try.ntmps36
  go_wp2_with (go_at_call 67; refine H.out.mono ?_; rintro e w' ⟨v, rfl, rfl, hb⟩)
  go_ret2
  exact ⟨rfl, hb⟩

end Go.Proofs.Ytacchefmblfobaa.C1
