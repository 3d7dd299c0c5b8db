/- Chapter 9, the program: IsClue, IsPuzzle. -/
import Derived.Test.YtodlpdbmiicdfabDoorZb
import Derived.Test.YtodlpdbmiicdfabDoorAppC
namespace Go.Proofs.YtodlpdbmiicdfabDoor
open Go.ChangeShapes Go.WideShapes Go.ChangeAt Go.RowKit
open Pz


set_option maxHeartbeats 4000000 in
theorem implIsPuzzle_any (w : World) (s : Int) (a : Option Addr) (len cap : Nat) (cs : List RClue) (hl : len ≤ 1048576) (hc : CameClue w a len cs) :
    Calls Tryd.prog 18 #[.agg #[.int .i64 s, .slice a len cap]] w fun e w' => e = .returned (.bool (goodP s cs)) ∧ Below w.heap.size w w' := by
  have HI := Lib.hid (fun w2 => isHidden_any s w2)
  have HZ : Hid (cs.length = len) := Lib.hid hc.1
  have HW0 : Hid (Below w.heap.size w (w.alloc (.cells #[.int .i64 s, .slice a len cap] 30))) := Lib.hid ((Below.refl _ _).alloc (Nat.le_refl _) _)
  have HC : Hid (CameClue (w.alloc (.cells #[.int .i64 s, .slice a len cap] 30)) a len cs) := Lib.hid (hc.below HW0.out)
  clear hc
  rcases hb : inB s 1 8 with _ | _
  · have HE := Lib.hid (pz_no1 (cs := cs) hb)
    rw [hb] at HI
    clear hb
    go_enter Tryd.func18, Tryd.ntmps18
    go_wp2_with (go_at_call 34; refine (HI.out _).mono ?_; rintro e w' ⟨rfl, rfl⟩)
    go_ret
    exact ⟨ret_bool (by rw [HE.out]), HW0.out⟩
  by_cases h6 : len ≤ 6
  rotate_left
  · have HE := Lib.hid (pz_no2 (s := s) (cs := cs) (by rw [HZ.out]; exact h6))
    have h61 : ¬ (len : Int) ≤ 6 := by omega
    have h62 : decide ((len : Int) ≤ 6) = false := decide_eq_false h61
    rw [hb] at HI
    clear hb
    go_enter Tryd.func18, Tryd.ntmps18
    go_wp2_with (go_at_call 34; refine (HI.out _).mono ?_; rintro e w' ⟨rfl, rfl⟩)
    go_ret
    exact ⟨ret_bool (by rw [HE.out]), HW0.out⟩
  obtain ⟨n, hn⟩ : ∃ n : Nat, s = (n : Int) := ⟨s.toNat, by have := inB_yes hb; omega⟩
  have hn8 : 1 ≤ n ∧ n ≤ 8 := by have := inB_yes hb; omega
  have h61 : (len : Int) ≤ 6 := by omega
  have HE : Hid (goodP s cs = !!cs.all (clueB s)) := Lib.hid (by unfold goodP; rw [hb, HZ.out, decide_eq_true h6, Bool.not_not]; rfl)
  rw [hb] at HI
  clear hb
  subst hn
  have HN := Lib.hid (isAnyNone_any n hn8 a len cap cs hl _ HC.out)
  go_enter Tryd.func18, Tryd.ntmps18
  go_wp2_with fail
  go_at_call 34
  refine (HI.out _).mono ?_
  rintro e w' ⟨rfl, rfl⟩
  go_wp2_with fail
  go_at_call 35
  refine HN.out.mono ?_
  rintro e w2 ⟨rfl, b2⟩
  have B2 : Hid (Below w.heap.size w w2) := Lib.hid (HW0.out.trans (b2.mono HW0.out.size))
  clear b2
  go_wp2
  go_ret
  exact ⟨ret_bool (by rw [HE.out]; simp), B2.out⟩

end Go.Proofs.YtodlpdbmiicdfabDoor
