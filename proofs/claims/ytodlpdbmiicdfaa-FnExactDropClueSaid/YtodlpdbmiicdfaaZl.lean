/- Chapter 9, the program: DropClue. -/
import Derived.Test.YtodlpdbmiicdfaaZk
namespace Go.Proofs.Ytodlpdbmiicdfaa
open Go.ChangeShapes Go.WideShapes Go.ChangeAt Go.RowKit
open Pz

theorem lenDropClue_1 (s : Int) (cs : List RClue) (k : Int) : (outDropClue_1 s cs k).length ≤ 1048576 := by
  unfold outDropClue_1
  rcases h : okDropClue s cs k with _ | _
  · exact Nat.zero_le _
  · unfold okDropClue at h
    rw [Bool.and_eq_true] at h
    have := (pz_of h.1).2.1
    simp only [if_true]
    unfold without
    rw [List.length_append, List.length_take, List.length_drop]; omega
set_option maxHeartbeats 4000000 in
theorem implDropClue_any (w : World) (s : Int) (a : Option Addr) (len cap : Nat) (cs : List RClue) (p : Int) (hl : len ≤ 1048576) (hc : CameClue w a len cs) :
    Calls Try.prog 22 #[.agg #[.int .i64 s, .slice a len cap], .int .i64 p] w fun e w' => ∃ v0, e = .returned (.tuple #[.agg #[.int .i64 (outDropClue_0 s cs p), v0], .bool (outDropClue_2 s cs p)]) ∧ OwnClue w' w.heap.size v0 (outDropClue_1 s cs p) ∧ Below w.heap.size w w' := by
  have HC := Lib.hid hc
  have HZ : Hid (cs.length = len) := Lib.hid hc.1
  have HG := Lib.hid (fun w2 (h : Below w.heap.size w w2) => implIsPuzzle_any w2 s a len cap cs hl (HC.out.below h))
  have HST : Hid (KZ2 w s a len cap ((w.alloc (.cells #[.int .i64 s, .slice a len cap] 35)).alloc (.cells #[.int .i64 0, .slice none 0 0] 35))) := Lib.hid (KZ2.start ..)
  have c0 := HST.out.one.c0
  have c1 := HST.out.one.c1
  clear hc
  by_cases hok : okDropClue s cs p = true
  rotate_left
  · have HE : Hid (outDropClue_0 s cs p = 0 ∧ outDropClue_1 s cs p = [] ∧ outDropClue_2 s cs p = false) := Lib.hid (by
      have h : okDropClue s cs p = false := by simpa using hok
      unfold outDropClue_0 outDropClue_1 outDropClue_2; rw [h]; exact ⟨rfl, rfl, rfl⟩)
    have HOK := Lib.hid hok
    clear hok
    rcases hb : goodP s cs with _ | _
    · rw [hb] at HG
      clear hb
      go_enter Try.func22, Try.ntmps22
      go_wp2_with fail
      go_at_call 19
      refine (HG.out _ HST.out.one.down).mono ?_
      rintro e w2 ⟨rfl, b2⟩
      have K2 : Hid (KZ2 w s a len cap w2) := Lib.hid b2
      clear b2 c0 c1
      have r0 := K2.out.r0
      have r1 := K2.out.r1
      have f0 := K2.out.f0
      have f1 := K2.out.f1
      go_wp2
      (try simp only [Exit.inBlock, Exit.then])
      refine bodyPost_ret (results_cellZ rfl _ _ (w.heap.size + 1) 0 (.slice none 0 0) rfl rfl (setZ0 r0 r1) (setZ1 r0 r1)) rfl ?_
      exact ⟨_, by rw [HE.out.1, HE.out.2.2]; exact rfl, by rw [HE.out.2.1]; exact ownClue_nil _ _, K2.out.one.down.setCell (Nat.le_succ _) _ |>.setCell (Nat.le_succ _) _⟩
    have HNB : Hid (inB p 0 ((cs.length : Int) - 1) = false) := Lib.hid (by
      have h : okDropClue s cs p = false := by simpa using HOK.out
      unfold okDropClue at h; rw [hb] at h; exact h)
    rw [hb] at HG
    clear hb
    have hno := inB_not HNB.out
    rw [HZ.out] at hno
    by_cases hneg : p < 0
    · clear hno
      go_enter Try.func22, Try.ntmps22
      go_wp2_with fail
      go_at_call 19
      refine (HG.out _ HST.out.one.down).mono ?_
      rintro e w2 ⟨rfl, b2⟩
      have K2 : Hid (KZ2 w s a len cap w2) := Lib.hid b2
      clear b2 c0 c1
      have r0 := K2.out.r0
      have r1 := K2.out.r1
      have f0 := K2.out.f0
      have f1 := K2.out.f1
      go_wp2
      (try simp only [Exit.inBlock, Exit.then])
      refine bodyPost_ret (results_cellZ rfl _ _ (w.heap.size + 1) 0 (.slice none 0 0) rfl rfl (setZ0 r0 r1) (setZ1 r0 r1)) rfl ?_
      exact ⟨_, by rw [HE.out.1, HE.out.2.2]; exact rfl, by rw [HE.out.2.1]; exact ownClue_nil _ _, K2.out.one.down.setCell (Nat.le_succ _) _ |>.setCell (Nat.le_succ _) _⟩
    · have hbig : (len : Int) ≤ p := by omega
      have hd : decide (p < 0) = false := decide_eq_false hneg
      clear hno
      go_enter Try.func22, Try.ntmps22
      go_wp2_with fail
      go_at_call 19
      refine (HG.out _ HST.out.one.down).mono ?_
      rintro e w2 ⟨rfl, b2⟩
      have K2 : Hid (KZ2 w s a len cap w2) := Lib.hid b2
      clear b2 c0 c1
      have c0 := K2.out.one.c0
      have c1 := K2.out.one.c1
      have r0 := K2.out.r0
      have r1 := K2.out.r1
      have f0 := K2.out.f0
      have f1 := K2.out.f1
      go_wp2
      (try simp only [Exit.inBlock, Exit.then])
      refine bodyPost_ret (results_cellZ rfl _ _ (w.heap.size + 1) 0 (.slice none 0 0) rfl rfl (setZ0 r0 r1) (setZ1 r0 r1)) rfl ?_
      exact ⟨_, by rw [HE.out.1, HE.out.2.2]; exact rfl, by rw [HE.out.2.1]; exact ownClue_nil _ _, K2.out.one.down.setCell (Nat.le_succ _) _ |>.setCell (Nat.le_succ _) _⟩
  have hok2 := hok
  unfold okDropClue at hok2
  rw [Bool.and_eq_true] at hok2
  obtain ⟨hb, hb1⟩ := hok2
  rw [HZ.out] at hb1
  obtain ⟨p1, p2⟩ := inB_yes hb1
  obtain ⟨T, rfl⟩ : ∃ T : Nat, p = (T : Int) := ⟨p.toNat, by omega⟩
  have hl6' : len ≤ 6 := by have := HZ.out; have := (pz_of hb).2.1; omega
  have HE : Hid (outDropClue_0 s cs T = s ∧ outDropClue_1 s cs T = without cs T ∧ outDropClue_2 s cs T = true) := Lib.hid (by
    unfold outDropClue_0 outDropClue_1 outDropClue_2; rw [hok]; exact ⟨rfl, rfl, rfl⟩)
  have hTl : T < len := by omega
  have HWO := Lib.hid (fun w2 (h : Below w.heap.size w w2) => without_any w2 s a len cap cs T hTl hl6' (HC.out.below h))
  have hT2 : (T : Int) < (len : Int) := by omega
  have hT3 : ¬ (len : Int) ≤ (T : Int) := by omega
  rw [hb] at HG
  clear hb hb1 hok p2
  go_enter Try.func22, Try.ntmps22
  go_wp2_with fail
  go_at_call 19
  refine (HG.out _ HST.out.one.down).mono ?_
  rintro e w2 ⟨rfl, b2⟩
  have K2 : Hid (KZ2 w s a len cap w2) := Lib.hid b2
  clear b2 c0 c1
  have c0 := K2.out.one.c0
  have c1 := K2.out.one.c1
  go_wp2_with fail
  go_at_call 52
  refine (HWO.out _ K2.out.one.down).mono ?_
  rintro e w5 ⟨v5, rfl, o5, b5⟩
  have HK5 : Hid (KZ2 w s a len cap w5) := Lib.hid (K2.out.more b5)
  have HO5 : Hid (OwnClue w5 (w.heap.size + 2) v5 (without cs T)) := Lib.hid (o5.mono K2.out.big)
  clear o5 b5 c0 c1
  have s0 := HK5.out.r0
  have s1 := HK5.out.r1
  have g0 := HK5.out.f0
  have g1 := HK5.out.f1
  obtain ⟨ao5, cp5, rfl⟩ := HO5.out.any
  go_wp2
  (try simp only [Exit.inBlock, Exit.then])
  refine bodyPost_ret (results_cellZ rfl _ _ (w.heap.size + 1) s (.slice ao5 (without cs T).length cp5) rfl rfl (setZ0 s0 s1) (setZ1 s0 s1)) rfl ?_
  refine ⟨.slice ao5 (without cs T).length cp5, by rw [HE.out.1, HE.out.2.2]; exact rfl, ?_, HK5.out.one.down.setCell (Nat.le_succ _) _ |>.setCell (Nat.le_succ _) _⟩
  rw [HE.out.2.1]
  exact (ownZ_set (ownZ_set HO5.out (by omega) 0 _) (by omega) 1 _).mono (by omega)

end Go.Proofs.Ytodlpdbmiicdfaa
