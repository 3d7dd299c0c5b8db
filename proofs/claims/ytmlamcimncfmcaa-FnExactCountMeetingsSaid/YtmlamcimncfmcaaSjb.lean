/- Chapter 8, the program: standsIn, isSignalTime, isTimeTold, isIn, at, comesAt, period, AreSignals, SignalAt, SignalPeriod. -/
import Derived.Test.YtmlamcimncfmcaaSic
import Derived.Test.YtmlamcimncfmcaaSja
import Derived.Test.YtmlamcimncfmcaaLw
namespace Go.Proofs.Ytmlamcimncfmcaa
open Go.ChangeShapes Go.WideShapes Go.ChangeAt Go.RowKit
open Si

namespace Si
def stB (n k : Int) : Bool := inB n 1 100 && inB k 0 (n - 1)
theorem stB_of {n k : Int} (h : 0 ≤ k ∧ k < n ∧ n ≤ 100) : stB n k = true := by unfold stB; rw [inB_of (by omega), inB_of (by omega)]; rfl
theorem stB_no {n k : Int} (h : ¬ (0 ≤ k ∧ k < n ∧ n ≤ 100)) : stB n k = false := by
  unfold stB
  by_cases e : 1 ≤ n ∧ n ≤ 100
  · rw [inB_no (n := k) (by omega), Bool.and_false]
  · rw [inB_no (n := n) (by omega), Bool.false_and]
theorem sig_st (n f s : Int) (l : Bool) : sigB n (f, l, s) = (stB n f && inB s 1 10) := by unfold sigB stB; simp only; rw [Bool.and_assoc]
end Si

/-- behind the one box that a call makes at first -/
def KB1 (w : World) (f : Int) (l : Bool) (s : Int) (w2 : World) : Prop := Below (w.alloc (.cells #[.int .i64 f, .bool l, .int .i64 s] 33)).heap.size (w.alloc (.cells #[.int .i64 f, .bool l, .int .i64 s] 33)) w2
theorem KB1.start (w : World) (f : Int) (l : Bool) (s : Int) : KB1 w f l s (w.alloc (.cells #[.int .i64 f, .bool l, .int .i64 s] 33)) := Below.refl _ _
theorem KB1.more {w w2 w3 : World} {f s : Int} {l : Bool} (h : KB1 w f l s w2) (b : Below w2.heap.size w2 w3) : KB1 w f l s w3 := Below.trans h (b.mono h.size)
theorem KB1.box {w w2 : World} {f s : Int} {l : Bool} (h : KB1 w f l s w2) : BoxS w2 w.heap.size f l s := (boxS_new w f s l).below h
theorem KB1.down {w w2 : World} {f s : Int} {l : Bool} (h : KB1 w f l s w2) : Below w.heap.size w w2 :=
  ((Below.refl w.heap.size w).alloc (Nat.le_refl _) (.cells #[.int .i64 f, .bool l, .int .i64 s] 33)).trans (h.mono (by rw [alloc_size1]; omega))
theorem KB1.size {w w2 : World} {f s : Int} {l : Bool} (h : KB1 w f l s w2) : w.heap.size + 1 ≤ w2.heap.size := by
  have := Below.size h; rw [alloc_size1] at this; exact this
/-- behind two boxes -/
def KB2 (w : World) (f : Int) (l : Bool) (s g : Int) (m : Bool) (u : Int) (w2 : World) : Prop := Below ((w.alloc (.cells #[.int .i64 f, .bool l, .int .i64 s] 33)).alloc (.cells #[.int .i64 g, .bool m, .int .i64 u] 33)).heap.size ((w.alloc (.cells #[.int .i64 f, .bool l, .int .i64 s] 33)).alloc (.cells #[.int .i64 g, .bool m, .int .i64 u] 33)) w2
theorem KB2.start (w : World) (f : Int) (l : Bool) (s g : Int) (m : Bool) (u : Int) : KB2 w f l s g m u ((w.alloc (.cells #[.int .i64 f, .bool l, .int .i64 s] 33)).alloc (.cells #[.int .i64 g, .bool m, .int .i64 u] 33)) := Below.refl _ _
theorem KB2.more {w w2 w3 : World} {f s g u : Int} {l m : Bool} (h : KB2 w f l s g m u w2) (b : Below w2.heap.size w2 w3) : KB2 w f l s g m u w3 := Below.trans h (b.mono h.size)
theorem KB2.box1 {w w2 : World} {f s g u : Int} {l m : Bool} (h : KB2 w f l s g m u w2) : BoxS w2 w.heap.size f l s :=
  ((boxS_new w f s l).below ((Below.refl _ _).alloc (Nat.le_refl _) (.cells #[.int .i64 g, .bool m, .int .i64 u] 33))).below h
theorem KB2.box2 {w w2 : World} {f s g u : Int} {l m : Bool} (h : KB2 w f l s g m u w2) : BoxS w2 (w.heap.size + 1) g m u := by
  have k := boxS_new (w.alloc (.cells #[.int .i64 f, .bool l, .int .i64 s] 33)) g u m
  rw [alloc_size1] at k
  exact k.below h
theorem KB2.down {w w2 : World} {f s g u : Int} {l m : Bool} (h : KB2 w f l s g m u w2) : Below w.heap.size w w2 :=
  (((Below.refl w.heap.size w).alloc (Nat.le_refl _) (.cells #[.int .i64 f, .bool l, .int .i64 s] 33)).alloc (by rw [alloc_size1]; omega) (.cells #[.int .i64 g, .bool m, .int .i64 u] 33)).trans (h.mono (by rw [alloc_size1, alloc_size1]; omega))
theorem KB2.size {w w2 : World} {f s g u : Int} {l m : Bool} (h : KB2 w f l s g m u w2) : w.heap.size + 2 ≤ w2.heap.size := by
  have := Below.size h; rw [alloc_size1, alloc_size1] at this; exact this

set_option maxHeartbeats 1000000 in
theorem standsIn_any (n k : Int) (w : World) :
    Calls Try.prog 53 #[.int .i64 n, .int .i64 k] w fun e w' => e = .returned (.bool (stB n k)) ∧ w = w' := by
  by_cases h1 : 0 ≤ k
  · by_cases h2 : k < n
    · by_cases h3 : n ≤ 100
      · have HE : Hid (stB n k = true) := Lib.hid (stB_of ⟨h1, h2, h3⟩)
        go_enter Try.func53, Try.ntmps53
        go_wp2
        go_ret
        exact ⟨ret_bool (by rw [HE.out]), rfl⟩
      · have HE : Hid (stB n k = false) := Lib.hid (stB_no (by omega))
        go_enter Try.func53, Try.ntmps53
        go_wp2
        go_ret
        exact ⟨ret_bool (by rw [HE.out]), rfl⟩
    · have HE : Hid (stB n k = false) := Lib.hid (stB_no (by omega))
      go_enter Try.func53, Try.ntmps53
      go_wp2
      go_ret
      exact ⟨ret_bool (by rw [HE.out]), rfl⟩
  · have HE : Hid (stB n k = false) := Lib.hid (stB_no (by omega))
    go_enter Try.func53, Try.ntmps53
    go_wp2
    go_ret
    exact ⟨ret_bool (by rw [HE.out]), rfl⟩

set_option maxHeartbeats 1000000 in
theorem isSignalTime_any (t : Int) (w : World) :
    Calls Try.prog 47 #[.int .i64 t] w fun e w' => e = .returned (.bool (inB t 0 100000)) ∧ w = w' := by
  by_cases h1 : 0 ≤ t
  · by_cases h2 : t ≤ 100000
    · have HE : Hid (inB t 0 100000 = true) := Lib.hid (inB_of ⟨h1, h2⟩)
      go_enter Try.func47, Try.ntmps47
      go_wp2
      go_ret
      exact ⟨ret_bool (by rw [HE.out]), rfl⟩
    · have HE : Hid (inB t 0 100000 = false) := Lib.hid (inB_no (by omega))
      go_enter Try.func47, Try.ntmps47
      go_wp2
      go_ret
      exact ⟨ret_bool (by rw [HE.out]), rfl⟩
  · have HE : Hid (inB t 0 100000 = false) := Lib.hid (inB_no (by omega))
    go_enter Try.func47, Try.ntmps47
    go_wp2
    go_ret
    exact ⟨ret_bool (by rw [HE.out]), rfl⟩

set_option maxHeartbeats 1000000 in
theorem isTimeTold_any (t : Int) (w : World) :
    Calls Try.prog 54 #[.int .i64 t] w fun e w' => e = .returned (.bool (inB t 0 1000)) ∧ w = w' := by
  by_cases h1 : 0 ≤ t
  · by_cases h2 : t ≤ 1000
    · have HE : Hid (inB t 0 1000 = true) := Lib.hid (inB_of ⟨h1, h2⟩)
      go_enter Try.func54, Try.ntmps54
      go_wp2
      go_ret
      exact ⟨ret_bool (by rw [HE.out]), rfl⟩
    · have HE : Hid (inB t 0 1000 = false) := Lib.hid (inB_no (by omega))
      go_enter Try.func54, Try.ntmps54
      go_wp2
      go_ret
      exact ⟨ret_bool (by rw [HE.out]), rfl⟩
  · have HE : Hid (inB t 0 1000 = false) := Lib.hid (inB_no (by omega))
    go_enter Try.func54, Try.ntmps54
    go_wp2
    go_ret
    exact ⟨ret_bool (by rw [HE.out]), rfl⟩

set_option maxHeartbeats 1000000 in
theorem isIn_any (n x y : Int) (l : Bool) (w : World) :
    Calls Try.prog 42 #[.agg #[.int .i64 x, .bool l, .int .i64 y], .int .i64 n] w fun e w' => e = .returned (.bool (sigB n (x, l, y))) ∧ Below w.heap.size w w' := by
  have HS := Lib.hid (fun w2 => standsIn_any n x w2)
  have HB : Hid (Below w.heap.size w (w.alloc (.cells #[.int .i64 x, .bool l, .int .i64 y] 33))) := Lib.hid ((Below.refl _ _).alloc (Nat.le_refl _) _)
  rcases ha : stB n x with _ | _
  · have HE : Hid (sigB n (x, l, y) = false) := Lib.hid (by rw [sig_st, ha]; rfl)
    rw [ha] at HS
    clear ha
    go_enter Try.func42, Try.ntmps42
    go_wp2_with fail
    go_at_call 53
    refine (HS.out _).mono ?_
    rintro e w' ⟨rfl, rfl⟩
    go_wp2
    go_ret
    exact ⟨ret_bool (by first | (rw [HE.out]; done) | (rw [HE.out]; simp; omega)), HB.out⟩
  by_cases h1 : 1 ≤ y
  · by_cases h2 : y ≤ 10
    · have HE : Hid (sigB n (x, l, y) = true) := Lib.hid (by rw [sig_st, ha, inB_of ⟨h1, h2⟩]; rfl)
      rw [ha] at HS
      clear ha
      go_enter Try.func42, Try.ntmps42
      go_wp2_with fail
      go_at_call 53
      refine (HS.out _).mono ?_
      rintro e w' ⟨rfl, rfl⟩
      go_wp2
      go_ret
      exact ⟨ret_bool (by first | (rw [HE.out]; done) | (rw [HE.out]; simp; omega)), HB.out⟩
    · have HE : Hid (sigB n (x, l, y) = false) := Lib.hid (by rw [sig_st, inB_no (n := y) (by omega), Bool.and_false])
      rw [ha] at HS
      clear ha
      go_enter Try.func42, Try.ntmps42
      go_wp2_with fail
      go_at_call 53
      refine (HS.out _).mono ?_
      rintro e w' ⟨rfl, rfl⟩
      go_wp2
      go_ret
      exact ⟨ret_bool (by first | (rw [HE.out]; done) | (rw [HE.out]; simp; omega)), HB.out⟩
  · have HE : Hid (sigB n (x, l, y) = false) := Lib.hid (by rw [sig_st, inB_no (n := y) (by omega), Bool.and_false])
    rw [ha] at HS
    clear ha
    go_enter Try.func42, Try.ntmps42
    go_wp2_with fail
    go_at_call 53
    refine (HS.out _).mono ?_
    rintro e w' ⟨rfl, rfl⟩
    go_wp2
    go_ret
    exact ⟨ret_bool (by first | (rw [HE.out]; done) | (rw [HE.out]; simp; omega)), HB.out⟩

set_option maxHeartbeats 4000000 in
theorem at_any (n f s t : Nat) (l : Bool) (hg : OkS n f s) (ht : t ≤ 1000000) (w : World) :
    Calls Try.prog 48 #[.agg #[.int .i64 f, .bool l, .int .i64 s], .int .i64 n, .int .i64 t] w fun e w' => e = .returned (.int .i64 (posN n f l s t : Nat)) ∧ Below w.heap.size w w' := by
  obtain ⟨a1, a2, a3, a4, a5⟩ := hg
  have HB : Hid (Below w.heap.size w (w.alloc (.cells #[.int .i64 f, .bool l, .int .i64 s] 33))) := Lib.hid ((Below.refl _ _).alloc (Nat.le_refl _) _)
  by_cases h1 : n = 1
  · subst h1
    go_enter Try.func48, Try.ntmps48
    go_wp2
    go_ret
    exact ⟨rfl, HB.out⟩
  · have hn1 : ((n : Int) == 1) = false := by rw [beq_eq_false_iff_ne]; omega
    have hn1p : ¬ (n : Int) = 1 := by omega
    obtain ⟨r, hr⟩ : ∃ r, r = 2 * (n - 1) := ⟨_, rfl⟩
    obtain ⟨q, hq⟩ : ∃ q, q = t / s := ⟨_, rfl⟩
    obtain ⟨m, hm⟩ : ∃ m, m = arN n f l s t := ⟨_, rfl⟩
    have HE : Hid (posN n f l s t = min m (r - m)) := Lib.hid (by unfold posN; rw [if_neg h1, ← hm, ← hr])
    have er : 2 * ((n : Int) - 1) = (r : Int) := by omega
    have eq : (t : Int) / (s : Int) = (q : Int) := by rw [hq]; simp
    have hr0 : ¬ r = 0 := by omega
    have hs0 : ¬ s = 0 := by omega
    have hqb : q ≤ 1000000 := by rw [hq]; exact Nat.le_trans (Nat.div_le_self _ _) ht
    have hrb : r ≤ 198 := by omega
    have hmr : m < r := by rw [hm, hr]; exact Nat.mod_lt _ (by omega)
    have hfr : f ≤ r := by omega
    rcases l with _ | _
    · have em : ((f : Int) + (q : Int)) % (r : Int) = (m : Int) := by
        rw [hm, hq, hr]; unfold arN beg; simp
      clear hr hq hm h1
      go_enter Try.func48, Try.ntmps48
      go_wp2
      all_goals (go_ret; exact ⟨ret_int (by rw [HE.out]; omega), HB.out⟩)
    · have em : ((r : Int) - (f : Int) + (q : Int)) % (r : Int) = (m : Int) := by
        rw [hm, hq, hr]; unfold arN beg
        rw [show ((2 * (n - 1) : Nat) : Int) - (f : Int) = ((2 * (n - 1) - f : Nat) : Int) by omega]; simp
      clear hr hq hm h1
      go_enter Try.func48, Try.ntmps48
      go_wp2
      all_goals (go_ret; exact ⟨ret_int (by rw [HE.out]; omega), HB.out⟩)

set_option maxHeartbeats 2000000 in
theorem comesAt_any (n f s t : Nat) (l : Bool) (hg : OkS n f s) (ht : t ≤ 1000000) (w : World) :
    Calls Try.prog 55 #[.agg #[.int .i64 f, .bool l, .int .i64 s], .int .i64 n, .int .i64 t] w fun e w' => e = .returned (.bool (comesB n s t)) ∧ Below w.heap.size w w' := by
  obtain ⟨a1, a2, a3, a4, a5⟩ := hg
  have HB : Hid (Below w.heap.size w (w.alloc (.cells #[.int .i64 f, .bool l, .int .i64 s] 33))) := Lib.hid ((Below.refl _ _).alloc (Nat.le_refl _) _)
  have hs0 : ¬ s = 0 := by omega
  by_cases h0 : t = 0
  · have HE : Hid (comesB n s t = true) := Lib.hid (by unfold comesB; rw [decide_eq_true h0]; rfl)
    have e0 : ((t : Int) == 0) = true := by rw [beq_iff_eq]; omega
    have e1 : (t : Int) = 0 := by omega
    go_enter Try.func55, Try.ntmps55
    go_wp2
    go_ret
    exact ⟨ret_bool (by rw [HE.out]), HB.out⟩
  have e0 : ((t : Int) == 0) = false := by rw [beq_eq_false_iff_ne]; omega
  have e0p : ¬ (t : Int) = 0 := by omega
  by_cases h1 : 1 < n
  · have HE : Hid (comesB n s t = decide (t % s = 0)) := Lib.hid (by unfold comesB; rw [decide_eq_false h0, decide_eq_true h1]; rfl)
    have h1i : (1 : Int) < (n : Int) := by omega
    obtain ⟨q, hq⟩ : ∃ q, q = t % s := ⟨_, rfl⟩
    have eq : (t : Int) % (s : Int) = (q : Int) := by rw [hq]; simp
    have HQ : Hid (((q : Int) == 0) = decide (t % s = 0)) := Lib.hid (by rw [← hq, Bool.eq_iff_iff, beq_iff_eq, decide_eq_true_iff]; omega)
    clear hq h0
    go_enter Try.func55, Try.ntmps55
    go_wp2
    go_ret
    exact ⟨ret_bool (by rw [HE.out]; exact HQ.out), HB.out⟩
  · have HE : Hid (comesB n s t = false) := Lib.hid (by unfold comesB; rw [decide_eq_false h0, decide_eq_false h1]; rfl)
    have h1i : ¬ (1 : Int) < (n : Int) := by omega
    go_enter Try.func55, Try.ntmps55
    go_wp2
    go_ret
    exact ⟨ret_bool (by rw [HE.out]), HB.out⟩

set_option maxHeartbeats 2000000 in
theorem period_any (n f s : Nat) (l : Bool) (hg : OkS n f s) (w : World) :
    Calls Try.prog 50 #[.agg #[.int .i64 f, .bool l, .int .i64 s], .int .i64 n] w fun e w' => e = .returned (.int .i64 (perN n s : Nat)) ∧ Below w.heap.size w w' := by
  obtain ⟨a1, a2, a3, a4, a5⟩ := hg
  have HB : Hid (Below w.heap.size w (w.alloc (.cells #[.int .i64 f, .bool l, .int .i64 s] 33))) := Lib.hid ((Below.refl _ _).alloc (Nat.le_refl _) _)
  obtain ⟨r, hr⟩ : ∃ r, r = 2 * (n - 1) := ⟨_, rfl⟩
  obtain ⟨k, hk⟩ : ∃ k, k = r * s := ⟨_, rfl⟩
  have hrb : r ≤ 198 := by omega
  have hkb : k ≤ 1980 := by
    rw [hk]
    have := Nat.mul_le_mul hrb a5
    omega
  have HE : Hid (perN n s = max 1 k) := Lib.hid (by unfold perN; rw [hk, hr])
  have e0 : 2 * ((n : Int) - 1) = (r : Int) := by omega
  have e1 : (r : Int) * (s : Int) = (k : Int) := by rw [hk]; simp
  clear hr hk
  go_enter Try.func50, Try.ntmps50
  go_wp2
  all_goals (go_ret; exact ⟨ret_int (by rw [HE.out]; omega), HB.out⟩)

set_option maxHeartbeats 2000000 in
theorem implSignalAt_any (w : World) (n : Int) (f : Int) (l : Bool) (s : Int) (t : Int) (_wn : (Lit.int .i64 n).wf = true) (_wt : (Lit.int .i64 t).wf = true) :
    Calls Try.prog 20 #[.int .i64 n, .agg #[.int .i64 f, .bool l, .int .i64 s], .int .i64 t] w fun e w' => e = .returned (.tuple #[.int .i64 (outSignalAt_0 n (f, l, s) t), .bool (outSignalAt_1 n (f, l, s) t)]) ∧ Below w.heap.size w w' := by
  clear _wn _wt
  have HS := Lib.hid (fun w2 => isIn_any n f s l w2)
  have HT := Lib.hid (fun w2 => isSignalTime_any t w2)
  rcases hb0 : sigB n (f, l, s) with _ | _
  · have H0 : Hid (outSignalAt_0 n (f, l, s) t = 0 ∧ outSignalAt_1 n (f, l, s) t = false) := Lib.hid (by unfold outSignalAt_0 outSignalAt_1; rw [hb0]; exact ⟨rfl, rfl⟩)
    rw [hb0] at HS
    clear hb0
    go_enter Try.func20, Try.ntmps20
    go_wp2_with fail
    go_at_call 42
    refine (HS.out _).mono ?_
    rintro e w2 ⟨rfl, bb⟩
    have Kw2 : Hid (KB1 w f l s w2) := Lib.hid bb
    clear bb
    obtain ⟨c0, c1, c2⟩ := Kw2.out.box
    go_wp2
    go_ret2
    exact ⟨by rw [H0.out.1, H0.out.2]; exact rfl, Kw2.out.down⟩
  rcases hb1 : inB t 0 100000 with _ | _
  · have H0 : Hid (outSignalAt_0 n (f, l, s) t = 0 ∧ outSignalAt_1 n (f, l, s) t = false) := Lib.hid (by unfold outSignalAt_0 outSignalAt_1; rw [hb0, hb1]; exact ⟨rfl, rfl⟩)
    rw [hb0] at HS
    rw [hb1] at HT
    clear hb0 hb1
    go_enter Try.func20, Try.ntmps20
    go_wp2_with fail
    go_at_call 42
    refine (HS.out _).mono ?_
    rintro e w2 ⟨rfl, bb⟩
    have Kw2 : Hid (KB1 w f l s w2) := Lib.hid bb
    clear bb
    obtain ⟨c0, c1, c2⟩ := Kw2.out.box
    go_wp2_with fail
    go_at_call 47
    refine (HT.out _).mono ?_
    rintro e ww ⟨rfl, rfl⟩
    go_wp2
    go_ret2
    exact ⟨by rw [H0.out.1, H0.out.2]; exact rfl, Kw2.out.down⟩
  · obtain ⟨N, F, S, rfl, hp, hg⟩ := sig_nat hb0
    obtain ⟨rfl, rfl⟩ : f = (F : Int) ∧ s = (S : Int) := by injection hp with h1 h2; injection h2 with _ h3; exact ⟨h1, h3⟩
    obtain ⟨t1, t2⟩ := inB_yes hb1
    obtain ⟨T, rfl⟩ : ∃ T : Nat, t = (T : Int) := ⟨t.toNat, by omega⟩
    have H0 : Hid (outSignalAt_0 N ((F : Int), l, (S : Int)) T = (posN N F l S T : Nat) ∧ outSignalAt_1 N ((F : Int), l, (S : Int)) T = true) := Lib.hid (by unfold outSignalAt_0 outSignalAt_1; rw [hb0, hb1]; exact ⟨rfl, rfl⟩)
    have HA := Lib.hid (fun w2 => at_any N F S T l hg (by omega) w2)
    rw [hb0] at HS
    rw [hb1] at HT
    clear hb0 hb1 hp hg
    go_enter Try.func20, Try.ntmps20
    go_wp2_with fail
    go_at_call 42
    refine (HS.out _).mono ?_
    rintro e w2 ⟨rfl, bb⟩
    have Kw2 : Hid (KB1 w F l S w2) := Lib.hid bb
    clear bb
    obtain ⟨c0, c1, c2⟩ := Kw2.out.box
    go_wp2_with fail
    go_at_call 47
    refine (HT.out _).mono ?_
    rintro e ww ⟨rfl, rfl⟩
    go_wp2_with fail
    go_at_call 48
    refine (HA.out _).mono ?_
    rintro e w3 ⟨rfl, bb⟩
    have Kw3 : Hid (KB1 w F l S w3) := Lib.hid (Kw2.out.more bb)
    clear bb c0 c1 c2
    go_wp2
    go_ret2
    exact ⟨by rw [H0.out.1, H0.out.2]; exact rfl, Kw3.out.down⟩

set_option maxHeartbeats 2000000 in
theorem implSignalPeriod_any (w : World) (n : Int) (f : Int) (l : Bool) (s : Int) (_wn : (Lit.int .i64 n).wf = true) :
    Calls Try.prog 22 #[.int .i64 n, .agg #[.int .i64 f, .bool l, .int .i64 s]] w fun e w' => e = .returned (.tuple #[.int .i64 (outSignalPeriod_0 n (f, l, s)), .bool (outSignalPeriod_1 n (f, l, s))]) ∧ Below w.heap.size w w' := by
  clear _wn
  have HS := Lib.hid (fun w2 => isIn_any n f s l w2)
  rcases hb0 : sigB n (f, l, s) with _ | _
  · have H0 : Hid (outSignalPeriod_0 n (f, l, s) = 0 ∧ outSignalPeriod_1 n (f, l, s) = false) := Lib.hid (by unfold outSignalPeriod_0 outSignalPeriod_1; rw [hb0]; exact ⟨rfl, rfl⟩)
    rw [hb0] at HS
    clear hb0
    go_enter Try.func22, Try.ntmps22
    go_wp2_with fail
    go_at_call 42
    refine (HS.out _).mono ?_
    rintro e w2 ⟨rfl, bb⟩
    have Kw2 : Hid (KB1 w f l s w2) := Lib.hid bb
    clear bb
    obtain ⟨c0, c1, c2⟩ := Kw2.out.box
    go_wp2
    go_ret2
    exact ⟨by rw [H0.out.1, H0.out.2]; exact rfl, Kw2.out.down⟩
  · obtain ⟨N, F, S, rfl, hp, hg⟩ := sig_nat hb0
    obtain ⟨rfl, rfl⟩ : f = (F : Int) ∧ s = (S : Int) := by injection hp with h1 h2; injection h2 with _ h3; exact ⟨h1, h3⟩
    have H0 : Hid (outSignalPeriod_0 N ((F : Int), l, (S : Int)) = (perN N S : Nat) ∧ outSignalPeriod_1 N ((F : Int), l, (S : Int)) = true) := Lib.hid (by
      unfold outSignalPeriod_0 outSignalPeriod_1 perN; rw [hb0]
      refine ⟨?_, rfl⟩
      have h1 := hg.n1
      rw [if_pos rfl]
      have h2 : ((2 * (N - 1) * S : Nat) : Int) = 2 * ((N : Int) - 1) * (S : Int) := by
        rw [Int.natCast_mul, Int.natCast_mul, Int.natCast_sub h1]; rfl
      simp only
      rw [← h2]; omega)
    have HP := Lib.hid (fun w2 => period_any N F S l hg w2)
    rw [hb0] at HS
    clear hb0 hp hg
    go_enter Try.func22, Try.ntmps22
    go_wp2_with fail
    go_at_call 42
    refine (HS.out _).mono ?_
    rintro e w2 ⟨rfl, bb⟩
    have Kw2 : Hid (KB1 w F l S w2) := Lib.hid bb
    clear bb
    obtain ⟨c0, c1, c2⟩ := Kw2.out.box
    go_wp2_with fail
    go_at_call 50
    refine (HP.out _).mono ?_
    rintro e w3 ⟨rfl, bb⟩
    have Kw3 : Hid (KB1 w F l S w3) := Lib.hid (Kw2.out.more bb)
    clear bb c0 c1 c2
    go_wp2
    go_ret2
    exact ⟨by rw [H0.out.1, H0.out.2]; exact rfl, Kw3.out.down⟩

set_option maxHeartbeats 2000000 in
theorem implAreSignals_any (w : World) (n : Int) (a : Option Addr) (len cap : Nat) (ps : List RSignal) (_wn : (Lit.int .i64 n).wf = true) (hl : len ≤ 1048576) (hc : CameSignal w a len ps) :
    Calls Try.prog 16 #[.int .i64 n, .slice a len cap] w fun e w' => e = .returned (.bool (outAreSignals_0 n ps)) ∧ Below w.heap.size w w' := by
  clear _wn
  have HOG : Hid (outAreSignals_0 n ps = listB n ps) := rfl
  have HZ : Hid (ps.length = len) := Lib.hid hc.1
  have HC := Lib.hid hc
  clear hc
  by_cases hs1 : len < 1
  · have HE := Lib.hid (list_no1 (n := n) (ps := ps) (by rw [HZ.out]; exact inB_no (by omega)))
    go_enter Try.func16, Try.ntmps16
    go_wp2
    go_ret
    exact ⟨ret_bool (by rw [HOG.out, HE.out]), Below.refl _ _⟩
  by_cases hs2 : 10 < len
  · have HE := Lib.hid (list_no1 (n := n) (ps := ps) (by rw [HZ.out]; exact inB_no (by omega)))
    go_enter Try.func16, Try.ntmps16
    go_wp2
    go_ret
    exact ⟨ret_bool (by rw [HOG.out, HE.out]), Below.refl _ _⟩
  have HY : Hid ((∀ k, k < ps.length → sigB n (ps.getD k zSignal) = true) → listB n ps = true) := Lib.hid (list_yes (by rw [HZ.out]; exact inB_of (by omega)))
  go_enter Try.func16, Try.ntmps16
  go_wp2
  go_loopw [17] (fun i wr => ∃ k : Nat, k ≤ len ∧ i = .int .i64 (k : Int) ∧ Hid (∀ j, j < k → sigB n (ps.getD j zSignal) = true) ∧ Hid (Below w.heap.size w wr)) (fun i _ => len - (intOf i).toNat)
  case atStart => exact ⟨0, Nat.zero_le _, rfl, Lib.hid (fun j h => absurd h (Nat.not_lt_zero _)), Lib.hid (Below.refl _ _)⟩
  case round =>
    obtain ⟨k, hk, rfl, HK, HB⟩ := hrel
    by_cases hlt : k < len
    · obtain ⟨b, off, rfl, hcell⟩ := (HC.out.below HB.out).2 (by omega)
      obtain ⟨e0, e1, e2⟩ := hcell k hlt
      have HNO : Hid (sigB n (ps.getD k zSignal) = false → listB n ps = false) := Lib.hid (list_no2 (by rw [HZ.out]; exact hlt))
      obtain ⟨p, hp⟩ : ∃ p, p = ps.getD k zSignal := ⟨_, rfl⟩
      rw [← hp] at e0 e1 e2 HNO
      obtain ⟨x0, x1, x2⟩ := p
      simp only at e0 e1 e2
      have HP := Lib.hid hp
      have HT := Lib.hid (fun w2 => isIn_any n x0 x2 x1 w2)
      have i1 : (0 : Int) ≤ (k : Int) := by omega
      have i2 : (k : Int) < (len : Int) := by omega
      have HBA : Hid (Below w.heap.size w (wr.alloc (.cells #[.int .i64 x0, .bool x1, .int .i64 x2] 33))) := Lib.hid (HB.out.alloc HB.out.size _)
      clear hcell hp
      rcases hpb : sigB n (x0, x1, x2) with _ | _
      · have HE := Lib.hid (HNO.out hpb)
        rw [hpb] at HT
        clear hpb HNO
        go_wp2_with fail
        go_at_call 42
        refine (HT.out _).mono ?_
        rintro e w2 ⟨rfl, b2⟩
        have HB2 : Hid (Below w.heap.size w w2) := Lib.hid (HBA.out.trans (b2.mono HBA.out.size))
        clear b2
        go_wp2
        go_ret
        exact ⟨ret_bool (by rw [HOG.out, HE.out]), HB2.out⟩
      · have HK2 : Hid (∀ j, j < k + 1 → sigB n (ps.getD j zSignal) = true) := Lib.hid (fun j hj => by
          by_cases e : j = k
          · subst e; rw [← HP.out]; exact hpb
          · exact HK.out j (by omega))
        rw [hpb] at HT
        clear hpb HNO
        go_wp2_with fail
        go_at_call 42
        refine (HT.out _).mono ?_
        rintro e w2 ⟨rfl, b2⟩
        have HB2 : Hid (Below w.heap.size w w2) := Lib.hid (HBA.out.trans (b2.mono HBA.out.size))
        clear b2
        go_wp2
        go_roundw
        case rel => exact ⟨k + 1, by omega, by go_num, HK2, HB2⟩
        case measure => simp [intOf]; omega
    · have HE := Lib.hid (HY.out (fun j hj => HK.out j (by have := HZ.out; omega)))
      go_wp2
      go_ret
      exact ⟨ret_bool (by rw [HOG.out, HE.out]), HB.out⟩

end Go.Proofs.Ytmlamcimncfmcaa
