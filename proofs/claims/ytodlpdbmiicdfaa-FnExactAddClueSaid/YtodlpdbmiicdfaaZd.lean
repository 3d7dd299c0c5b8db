/- Chapter 9, the program: IsClue, IsPuzzle. -/
import Derived.Test.YtodlpdbmiicdfaaZb
import Derived.Test.YtodlpdbmiicdfaaAppC
namespace Go.Proofs.Ytodlpdbmiicdfaa
open Go.ChangeShapes Go.WideShapes Go.ChangeAt Go.RowKit
open Pz

/-- a clue in an array of its own -/
theorem came_one {w : World} (x0 x1 x2 x3 : Int) : CameClue (w.alloc (.cells #[.int .i64 x0, .int .i64 x1, .int .i64 x2, .int .i64 x3] 25)) (some ⟨w.heap.size, 0, none⟩) 1 [(x0, x1, x2, x3)] := by
  obtain ⟨c0, c1, c2, c3⟩ := boxClue_new (t := 25) w x0 x1 x2 x3
  refine ⟨rfl, fun _ => ⟨_, _, rfl, fun k hk => ?_⟩⟩
  obtain rfl : k = 0 := by omega
  exact ⟨c0, c1, c2, c3⟩
set_option maxHeartbeats 2000000 in
theorem implIsClue_any (w : World) (s : Int) (x0 x1 x2 x3 : Int) :
    Calls Try.prog 15 #[.int .i64 s, .agg #[.int .i64 x0, .int .i64 x1, .int .i64 x2, .int .i64 x3]] w fun e w' => e = .returned (.bool (outIsClue_0 s (x0, x1, x2, x3))) ∧ Below w.heap.size w w' := by
  have HB : Hid (Below w.heap.size w (w.alloc (.cells #[.int .i64 x0, .int .i64 x1, .int .i64 x2, .int .i64 x3] 25))) := Lib.hid ((Below.refl _ _).alloc (Nat.le_refl _) _)
  have HI := Lib.hid (fun w2 => isHidden_any s w2)
  rcases hx : inB s 1 8 with _ | _
  · have HE : Hid (outIsClue_0 s (x0, x1, x2, x3) = false) := Lib.hid (by unfold outIsClue_0; rw [hx]; rfl)
    rw [hx] at HI; clear hx
    go_enter Try.func15, Try.ntmps15
    go_wp2_with (go_at_call 44; refine (HI.out _).mono ?_; rintro e w' ⟨rfl, rfl⟩)
    go_ret
    exact ⟨ret_bool (by rw [HE.out]), HB.out⟩
  · obtain ⟨h1, h2⟩ := inB_yes hx
    obtain ⟨n, rfl⟩ : ∃ n : Nat, s = (n : Int) := ⟨s.toNat, by omega⟩
    have HE : Hid (outIsClue_0 (n : Int) (x0, x1, x2, x3) = !!clueB (n : Int) (x0, x1, x2, x3)) := Lib.hid (by unfold outIsClue_0; rw [hx, Bool.not_not]; rfl)
    have HC0 := isAnyNone_any n (by omega) (some ⟨(w.alloc (.cells #[.int .i64 x0, .int .i64 x1, .int .i64 x2, .int .i64 x3] 25)).heap.size, 0, none⟩) 1 1 [(x0, x1, x2, x3)] (by omega) _ (came_one (w := w.alloc (.cells #[.int .i64 x0, .int .i64 x1, .int .i64 x2, .int .i64 x3] 25)) x0 x1 x2 x3)
    rw [show (w.alloc (.cells #[.int .i64 x0, .int .i64 x1, .int .i64 x2, .int .i64 x3] 25)).heap.size = w.heap.size + 1 from Array.size_push _] at HC0
    have HC := Lib.hid HC0
    clear HC0
    rw [hx] at HI; clear hx
    go_enter Try.func15, Try.ntmps15
    go_wp2_with fail
    go_at_call 44
    refine (HI.out _).mono ?_
    rintro e w' ⟨rfl, rfl⟩
    go_wp2_with fail
    go_at_call 45
    refine HC.out.mono ?_
    rintro e w2 ⟨rfl, b2⟩
    have B2 : Hid (Below w.heap.size w w2) := Lib.hid ((HB.out.alloc (by simp) _).trans (b2.mono (by simp; omega)))
    clear b2
    go_wp2
    go_ret
    exact ⟨ret_bool (by rw [HE.out]; simp), B2.out⟩

set_option maxHeartbeats 4000000 in
theorem implIsPuzzle_any (w : World) (s : Int) (a : Option Addr) (len cap : Nat) (cs : List RClue) (hl : len ≤ 1048576) (hc : CameClue w a len cs) :
    Calls Try.prog 19 #[.agg #[.int .i64 s, .slice a len cap]] w fun e w' => e = .returned (.bool (goodP s cs)) ∧ Below w.heap.size w w' := by
  have HI := Lib.hid (fun w2 => isHidden_any s w2)
  have HZ : Hid (cs.length = len) := Lib.hid hc.1
  have HW0 : Hid (Below w.heap.size w (w.alloc (.cells #[.int .i64 s, .slice a len cap] 35))) := Lib.hid ((Below.refl _ _).alloc (Nat.le_refl _) _)
  have HC : Hid (CameClue (w.alloc (.cells #[.int .i64 s, .slice a len cap] 35)) a len cs) := Lib.hid (hc.below HW0.out)
  clear hc
  rcases hb : inB s 1 8 with _ | _
  · have HE := Lib.hid (pz_no1 (cs := cs) hb)
    rw [hb] at HI
    clear hb
    go_enter Try.func19, Try.ntmps19
    go_wp2_with (go_at_call 44; refine (HI.out _).mono ?_; rintro e w' ⟨rfl, rfl⟩)
    go_ret
    exact ⟨ret_bool (by rw [HE.out]), HW0.out⟩
  by_cases h6 : len ≤ 6
  rotate_left
  · have HE := Lib.hid (pz_no2 (s := s) (cs := cs) (by rw [HZ.out]; exact h6))
    have h61 : ¬ (len : Int) ≤ 6 := by omega
    have h62 : decide ((len : Int) ≤ 6) = false := decide_eq_false h61
    rw [hb] at HI
    clear hb
    go_enter Try.func19, Try.ntmps19
    go_wp2_with (go_at_call 44; refine (HI.out _).mono ?_; rintro e w' ⟨rfl, rfl⟩)
    go_ret
    exact ⟨ret_bool (by rw [HE.out]), HW0.out⟩
  obtain ⟨n, hn⟩ : ∃ n : Nat, s = (n : Int) := ⟨s.toNat, by have := inB_yes hb; omega⟩
  have hn8 : 1 ≤ n ∧ n ≤ 8 := by have := inB_yes hb; omega
  have h61 : (len : Int) ≤ 6 := by omega
  have HE : Hid (goodP s cs = !!cs.all (clueB s)) := Lib.hid (by unfold goodP; rw [hb, HZ.out, decide_eq_true h6, Bool.not_not]; rfl)
  rw [hb] at HI
  clear hb
  subst hn
  have HN := Lib.hid (isAnyNone_any n hn8 a len cap cs hl _ HC.out)
  go_enter Try.func19, Try.ntmps19
  go_wp2_with fail
  go_at_call 44
  refine (HI.out _).mono ?_
  rintro e w' ⟨rfl, rfl⟩
  go_wp2_with fail
  go_at_call 45
  refine HN.out.mono ?_
  rintro e w2 ⟨rfl, b2⟩
  have B2 : Hid (Below w.heap.size w w2) := Lib.hid (HW0.out.trans (b2.mono HW0.out.size))
  clear b2
  go_wp2
  go_ret
  exact ⟨ret_bool (by rw [HE.out]; simp), B2.out⟩

end Go.Proofs.Ytodlpdbmiicdfaa
