/- Chapter 8, the program: standsIn, isSignalTime, isTimeTold, isIn, at, comesAt, period, AreSignals, SignalAt, SignalPeriod. -/
import Derived.Test.YtmlamcimncfmcabDoorSic
import Derived.Test.YtmlamcimncfmcabDoorSja
import Derived.Test.YtmlamcimncfmcabDoorLw
namespace Go.Proofs.YtmlamcimncfmcabDoor
open Go.ChangeShapes Go.WideShapes Go.ChangeAt Go.RowKit
open Si

namespace Si
def stB (n k : Int) : Bool := inB n 1 100 && inB k 0 (n - 1)
theorem stB_of {n k : Int} (h : 0 ≤ k ∧ k < n ∧ n ≤ 100) : stB n k = true := by unfold stB; rw [inB_of (by omega), inB_of (by omega)]; rfl
theorem stB_no {n k : Int} (h : ¬ (0 ≤ k ∧ k < n ∧ n ≤ 100)) : stB n k = false := by
  unfold stB
  by_cases e : 1 ≤ n ∧ n ≤ 100
  · rw [inB_no (n := k) (by omega), Bool.and_false]
  · rw [inB_no (n := n) (by omega), Bool.false_and]
theorem sig_st (n f s : Int) (l : Bool) : sigB n (f, l, s) = (stB n f && inB s 1 10) := by unfold sigB stB; simp only; rw [Bool.and_assoc]
end Si

/-- behind the one box that a call makes at first -/
def KB1 (w : World) (f : Int) (l : Bool) (s : Int) (w2 : World) : Prop := Below (w.alloc (.cells #[.int .i64 f, .bool l, .int .i64 s] 26)).heap.size (w.alloc (.cells #[.int .i64 f, .bool l, .int .i64 s] 26)) w2
theorem KB1.start (w : World) (f : Int) (l : Bool) (s : Int) : KB1 w f l s (w.alloc (.cells #[.int .i64 f, .bool l, .int .i64 s] 26)) := Below.refl _ _
theorem KB1.more {w w2 w3 : World} {f s : Int} {l : Bool} (h : KB1 w f l s w2) (b : Below w2.heap.size w2 w3) : KB1 w f l s w3 := Below.trans h (b.mono h.size)
theorem KB1.box {w w2 : World} {f s : Int} {l : Bool} (h : KB1 w f l s w2) : BoxS w2 w.heap.size f l s := (boxS_new w f s l).below h
theorem KB1.down {w w2 : World} {f s : Int} {l : Bool} (h : KB1 w f l s w2) : Below w.heap.size w w2 :=
  ((Below.refl w.heap.size w).alloc (Nat.le_refl _) (.cells #[.int .i64 f, .bool l, .int .i64 s] 26)).trans (h.mono (by rw [alloc_size1]; omega))
theorem KB1.size {w w2 : World} {f s : Int} {l : Bool} (h : KB1 w f l s w2) : w.heap.size + 1 ≤ w2.heap.size := by
  have := Below.size h; rw [alloc_size1] at this; exact this
/-- behind two boxes -/
def KB2 (w : World) (f : Int) (l : Bool) (s g : Int) (m : Bool) (u : Int) (w2 : World) : Prop := Below ((w.alloc (.cells #[.int .i64 f, .bool l, .int .i64 s] 26)).alloc (.cells #[.int .i64 g, .bool m, .int .i64 u] 26)).heap.size ((w.alloc (.cells #[.int .i64 f, .bool l, .int .i64 s] 26)).alloc (.cells #[.int .i64 g, .bool m, .int .i64 u] 26)) w2
theorem KB2.start (w : World) (f : Int) (l : Bool) (s g : Int) (m : Bool) (u : Int) : KB2 w f l s g m u ((w.alloc (.cells #[.int .i64 f, .bool l, .int .i64 s] 26)).alloc (.cells #[.int .i64 g, .bool m, .int .i64 u] 26)) := Below.refl _ _
theorem KB2.more {w w2 w3 : World} {f s g u : Int} {l m : Bool} (h : KB2 w f l s g m u w2) (b : Below w2.heap.size w2 w3) : KB2 w f l s g m u w3 := Below.trans h (b.mono h.size)
theorem KB2.box1 {w w2 : World} {f s g u : Int} {l m : Bool} (h : KB2 w f l s g m u w2) : BoxS w2 w.heap.size f l s :=
  ((boxS_new w f s l).below ((Below.refl _ _).alloc (Nat.le_refl _) (.cells #[.int .i64 g, .bool m, .int .i64 u] 26))).below h
theorem KB2.box2 {w w2 : World} {f s g u : Int} {l m : Bool} (h : KB2 w f l s g m u w2) : BoxS w2 (w.heap.size + 1) g m u := by
  have k := boxS_new (w.alloc (.cells #[.int .i64 f, .bool l, .int .i64 s] 26)) g u m
  rw [alloc_size1] at k
  exact k.below h
theorem KB2.down {w w2 : World} {f s g u : Int} {l m : Bool} (h : KB2 w f l s g m u w2) : Below w.heap.size w w2 :=
  (((Below.refl w.heap.size w).alloc (Nat.le_refl _) (.cells #[.int .i64 f, .bool l, .int .i64 s] 26)).alloc (by rw [alloc_size1]; omega) (.cells #[.int .i64 g, .bool m, .int .i64 u] 26)).trans (h.mono (by rw [alloc_size1, alloc_size1]; omega))
theorem KB2.size {w w2 : World} {f s g u : Int} {l m : Bool} (h : KB2 w f l s g m u w2) : w.heap.size + 2 ≤ w2.heap.size := by
  have := Below.size h; rw [alloc_size1, alloc_size1] at this; exact this

set_option maxHeartbeats 1000000 in
theorem standsIn_any (n k : Int) (w : World) :
    Calls Tryd.prog 21 #[.int .i64 n, .int .i64 k] w fun e w' => e = .returned (.bool (stB n k)) ∧ w = w' := by
  by_cases h1 : 0 ≤ k
  · by_cases h2 : k < n
    · by_cases h3 : n ≤ 100
      · have HE : Hid (stB n k = true) := Lib.hid (stB_of ⟨h1, h2, h3⟩)
        go_enter Tryd.func21, Tryd.ntmps21
        go_wp2
        go_ret
        exact ⟨ret_bool (by rw [HE.out]), rfl⟩
      · have HE : Hid (stB n k = false) := Lib.hid (stB_no (by omega))
        go_enter Tryd.func21, Tryd.ntmps21
        go_wp2
        go_ret
        exact ⟨ret_bool (by rw [HE.out]), rfl⟩
    · have HE : Hid (stB n k = false) := Lib.hid (stB_no (by omega))
      go_enter Tryd.func21, Tryd.ntmps21
      go_wp2
      go_ret
      exact ⟨ret_bool (by rw [HE.out]), rfl⟩
  · have HE : Hid (stB n k = false) := Lib.hid (stB_no (by omega))
    go_enter Tryd.func21, Tryd.ntmps21
    go_wp2
    go_ret
    exact ⟨ret_bool (by rw [HE.out]), rfl⟩



set_option maxHeartbeats 1000000 in
theorem isIn_any (n x y : Int) (l : Bool) (w : World) :
    Calls Tryd.prog 13 #[.agg #[.int .i64 x, .bool l, .int .i64 y], .int .i64 n] w fun e w' => e = .returned (.bool (sigB n (x, l, y))) ∧ Below w.heap.size w w' := by
  have HS := Lib.hid (fun w2 => standsIn_any n x w2)
  have HB : Hid (Below w.heap.size w (w.alloc (.cells #[.int .i64 x, .bool l, .int .i64 y] 26))) := Lib.hid ((Below.refl _ _).alloc (Nat.le_refl _) _)
  rcases ha : stB n x with _ | _
  · have HE : Hid (sigB n (x, l, y) = false) := Lib.hid (by rw [sig_st, ha]; rfl)
    rw [ha] at HS
    clear ha
    go_enter Tryd.func13, Tryd.ntmps13
    go_wp2_with fail
    go_at_call 21
    refine (HS.out _).mono ?_
    rintro e w' ⟨rfl, rfl⟩
    go_wp2
    go_ret
    exact ⟨ret_bool (by first | (rw [HE.out]; done) | (rw [HE.out]; simp; omega)), HB.out⟩
  by_cases h1 : 1 ≤ y
  · by_cases h2 : y ≤ 10
    · have HE : Hid (sigB n (x, l, y) = true) := Lib.hid (by rw [sig_st, ha, inB_of ⟨h1, h2⟩]; rfl)
      rw [ha] at HS
      clear ha
      go_enter Tryd.func13, Tryd.ntmps13
      go_wp2_with fail
      go_at_call 21
      refine (HS.out _).mono ?_
      rintro e w' ⟨rfl, rfl⟩
      go_wp2
      go_ret
      exact ⟨ret_bool (by first | (rw [HE.out]; done) | (rw [HE.out]; simp; omega)), HB.out⟩
    · have HE : Hid (sigB n (x, l, y) = false) := Lib.hid (by rw [sig_st, inB_no (n := y) (by omega), Bool.and_false])
      rw [ha] at HS
      clear ha
      go_enter Tryd.func13, Tryd.ntmps13
      go_wp2_with fail
      go_at_call 21
      refine (HS.out _).mono ?_
      rintro e w' ⟨rfl, rfl⟩
      go_wp2
      go_ret
      exact ⟨ret_bool (by first | (rw [HE.out]; done) | (rw [HE.out]; simp; omega)), HB.out⟩
  · have HE : Hid (sigB n (x, l, y) = false) := Lib.hid (by rw [sig_st, inB_no (n := y) (by omega), Bool.and_false])
    rw [ha] at HS
    clear ha
    go_enter Tryd.func13, Tryd.ntmps13
    go_wp2_with fail
    go_at_call 21
    refine (HS.out _).mono ?_
    rintro e w' ⟨rfl, rfl⟩
    go_wp2
    go_ret
    exact ⟨ret_bool (by first | (rw [HE.out]; done) | (rw [HE.out]; simp; omega)), HB.out⟩







end Go.Proofs.YtmlamcimncfmcabDoor
