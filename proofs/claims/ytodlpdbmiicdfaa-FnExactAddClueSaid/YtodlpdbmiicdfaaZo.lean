/- Chapter 9, the program: AddClue. -/
import Derived.Test.YtodlpdbmiicdfaaZn
namespace Go.Proofs.Ytodlpdbmiicdfaa
open Go.ChangeShapes Go.WideShapes Go.ChangeAt Go.RowKit
open Pz

theorem lenAddClue_1 (s : Int) (cs : List RClue) (c : RClue) : (outAddClue_1 s cs c).length ≤ 1048576 := by
  unfold outAddClue_1
  rcases h : okAddClue s cs c with _ | _
  · exact Nat.zero_le _
  · unfold okAddClue at h
    rw [Bool.and_eq_true] at h
    have := (pz_of h.1).2.1
    simp only [if_true]
    rw [List.length_append]; simp; omega
set_option maxHeartbeats 8000000 in
set_option maxRecDepth 20000 in
theorem implAddClue_any (w : World) (s : Int) (a : Option Addr) (len cap : Nat) (cs : List RClue) (x0 x1 x2 x3 : Int) (hl : len ≤ 1048576) (hc : CameClue w a len cs) (hcp : len ≤ cap ∧ cap ≤ 9223372036854775807) :
    Calls Try.prog 26 #[.agg #[.int .i64 s, .slice a len cap], .agg #[.int .i64 x0, .int .i64 x1, .int .i64 x2, .int .i64 x3]] w fun e w' => ∃ v0, e = .returned (.tuple #[.agg #[.int .i64 (outAddClue_0 s cs (x0, x1, x2, x3)), v0], .bool (outAddClue_2 s cs (x0, x1, x2, x3))]) ∧ OwnClue w' w.heap.size v0 (outAddClue_1 s cs (x0, x1, x2, x3)) ∧ Below w.heap.size w w' := by
  have HC := Lib.hid hc
  have HZ : Hid (cs.length = len) := Lib.hid hc.1
  have HG := Lib.hid (fun w2 (h : Below w.heap.size w w2) => implIsPuzzle_any w2 s a len cap cs hl (HC.out.below h))
  have HCU := Lib.hid (fun w2 => implIsClue_any w2 s x0 x1 x2 x3)
  have HST : Hid (KZ3 w s a len cap x0 x1 x2 x3 (((w.alloc (.cells #[.int .i64 s, .slice a len cap] 35)).alloc (.cells #[.int .i64 x0, .int .i64 x1, .int .i64 x2, .int .i64 x3] 25)).alloc (.cells #[.int .i64 0, .slice none 0 0] 35))) := Lib.hid (Below.refl _ _)
  obtain ⟨c0, c1, d0, d1, d2, d3⟩ := HST.out.held
  have HF : okAddClue s cs (x0, x1, x2, x3) = false → Hid (outAddClue_0 s cs (x0, x1, x2, x3) = 0 ∧ outAddClue_1 s cs (x0, x1, x2, x3) = [] ∧ outAddClue_2 s cs (x0, x1, x2, x3) = false) := fun h => Lib.hid (by unfold outAddClue_0 outAddClue_1 outAddClue_2; rw [h]; exact ⟨rfl, rfl, rfl⟩)
  clear hc
  rcases hb : goodP s cs with _ | _
  · have HE := HF (by unfold okAddClue; rw [hb]; rfl)
    rw [hb] at HG
    clear hb HF
    go_enter Try.func26, Try.ntmps26
    go_wp2_with fail
    go_at_call 19
    refine (HG.out _ HST.out.one.down).mono ?_
    rintro e w2 ⟨rfl, b2⟩
    have K2 : Hid (KZ3 w s a len cap x0 x1 x2 x3 w2) := Lib.hid (HST.out.more b2)
    clear b2 c0 c1 d0 d1 d2 d3
    obtain ⟨r0, r1, f0, f1⟩ := K2.out.ress
    go_wp2
    (try simp only [Exit.inBlock, Exit.then])
    refine bodyPost_ret (results_cellZ rfl _ _ (w.heap.size + 2) 0 (.slice none 0 0) rfl rfl (setZ0 r0 r1) (setZ1 r0 r1)) rfl ?_
    exact ⟨.slice none 0 0, by rw [HE.out.1, HE.out.2.2]; exact rfl, by rw [HE.out.2.1]; exact ownClue_nil _ _, K2.out.one.down.setCell (by show w.heap.size ≤ w.heap.size + 2; omega) _ |>.setCell (by show w.heap.size ≤ w.heap.size + 2; omega) _⟩
  obtain ⟨⟨n, rfl, hn1, hn8⟩, hl6, _⟩ := pz_of hb
  have hcu : outIsClue_0 (n : Int) (x0, x1, x2, x3) = clueB (n : Int) (x0, x1, x2, x3) := by unfold outIsClue_0; rw [inB_of (by omega)]; rfl
  rw [hcu] at HCU
  rcases hb1 : clueB (n : Int) (x0, x1, x2, x3) with _ | _
  · have HE := HF (by unfold okAddClue; rw [hb, hb1]; rfl)
    rw [hb] at HG
    rw [hb1] at HCU
    clear hb hb1 HF hl6 hcu
    go_enter Try.func26, Try.ntmps26
    go_wp2_with fail
    go_at_call 19
    refine (HG.out _ HST.out.one.down).mono ?_
    rintro e w2 ⟨rfl, b2⟩
    have K2 : Hid (KZ3 w n a len cap x0 x1 x2 x3 w2) := Lib.hid (HST.out.more b2)
    clear b2 c0 c1 d0 d1 d2 d3
    obtain ⟨c0, c1, d0, d1, d2, d3⟩ := K2.out.held
    go_wp2_with fail
    go_at_call 15
    refine (HCU.out _).mono ?_
    rintro e w3 ⟨rfl, b3⟩
    have K3 := Lib.hid (K2.out.more b3)
    clear b3 c0 c1 d0 d1 d2 d3
    obtain ⟨r0, r1, f0, f1⟩ := K3.out.ress
    go_wp2
    (try simp only [Exit.inBlock, Exit.then])
    refine bodyPost_ret (results_cellZ rfl _ _ (w.heap.size + 2) 0 (.slice none 0 0) rfl rfl (setZ0 r0 r1) (setZ1 r0 r1)) rfl ?_
    exact ⟨.slice none 0 0, by rw [HE.out.1, HE.out.2.2]; exact rfl, by rw [HE.out.2.1]; exact ownClue_nil _ _, K3.out.one.down.setCell (by show w.heap.size ≤ w.heap.size + 2; omega) _ |>.setCell (by show w.heap.size ≤ w.heap.size + 2; omega) _⟩
  by_cases hl66 : len = 6
  · have HE := HF (by unfold okAddClue; rw [hb, hb1, HZ.out, decide_eq_true hl66]; rfl)
    have hq : ((len : Int) == 6) = true := by rw [beq_iff_eq]; omega
    rw [hb] at HG
    rw [hb1] at HCU
    clear hb hb1 HF hl6 hcu hl66
    go_enter Try.func26, Try.ntmps26
    go_wp2_with fail
    go_at_call 19
    refine (HG.out _ HST.out.one.down).mono ?_
    rintro e w2 ⟨rfl, b2⟩
    have K2 : Hid (KZ3 w n a len cap x0 x1 x2 x3 w2) := Lib.hid (HST.out.more b2)
    clear b2 c0 c1 d0 d1 d2 d3
    obtain ⟨c0, c1, d0, d1, d2, d3⟩ := K2.out.held
    go_wp2_with fail
    go_at_call 15
    refine (HCU.out _).mono ?_
    rintro e w3 ⟨rfl, b3⟩
    have K3 := Lib.hid (K2.out.more b3)
    clear b3 c0 c1 d0 d1 d2 d3
    obtain ⟨c0, c1, d0, d1, d2, d3⟩ := K3.out.held
    obtain ⟨r0, r1, f0, f1⟩ := K3.out.ress
    go_wp2
    (try simp only [Exit.inBlock, Exit.then])
    refine bodyPost_ret (results_cellZ rfl _ _ (w.heap.size + 2) 0 (.slice none 0 0) rfl rfl (setZ0 r0 r1) (setZ1 r0 r1)) rfl ?_
    exact ⟨.slice none 0 0, by rw [HE.out.1, HE.out.2.2]; exact rfl, by rw [HE.out.2.1]; exact ownClue_nil _ _, K3.out.one.down.setCell (by show w.heap.size ≤ w.heap.size + 2; omega) _ |>.setCell (by show w.heap.size ≤ w.heap.size + 2; omega) _⟩
  have hq : ((len : Int) == 6) = false := by rw [beq_eq_false_iff_ne]; omega
  have HE : Hid (outAddClue_0 (n : Int) cs (x0, x1, x2, x3) = n ∧ outAddClue_1 (n : Int) cs (x0, x1, x2, x3) = cs ++ [(x0, x1, x2, x3)] ∧ outAddClue_2 (n : Int) cs (x0, x1, x2, x3) = true) := Lib.hid (by
    have h : okAddClue (n : Int) cs (x0, x1, x2, x3) = true := by unfold okAddClue; rw [HZ.out, hb, hb1, decide_eq_false hl66]; rfl
    unfold outAddClue_0 outAddClue_1 outAddClue_2; rw [h]; exact ⟨rfl, rfl, rfl⟩)
  have HWT := Lib.hid (fun w2 (h : Below w.heap.size w w2) => with_any w2 (n : Int) a len cap cs x0 x1 x2 x3 (by have := HZ.out; omega) (HC.out.below h) hcp.1)
  rw [hb] at HG
  rw [hb1] at HCU
  clear hb hb1 HF hl6 hcu hl66
  go_enter Try.func26, Try.ntmps26
  go_wp2_with fail
  go_at_call 19
  refine (HG.out _ HST.out.one.down).mono ?_
  rintro e w2 ⟨rfl, b2⟩
  have K2 : Hid (KZ3 w n a len cap x0 x1 x2 x3 w2) := Lib.hid (HST.out.more b2)
  clear b2 c0 c1 d0 d1 d2 d3
  obtain ⟨c0, c1, d0, d1, d2, d3⟩ := K2.out.held
  go_wp2_with fail
  go_at_call 15
  refine (HCU.out _).mono ?_
  rintro e w3 ⟨rfl, b3⟩
  have K3 := Lib.hid (K2.out.more b3)
  clear b3 c0 c1 d0 d1 d2 d3
  obtain ⟨c0, c1, d0, d1, d2, d3⟩ := K3.out.held
  go_wp2_with fail
  go_at_call 55
  refine (HWT.out _ K3.out.one.down).mono ?_
  rintro e w5 ⟨v5, rfl, o5, b5⟩
  have K5 := Lib.hid (K3.out.more b5)
  have HO5 : Hid (OwnClue w5 (w.heap.size + 3) v5 (cs ++ [(x0, x1, x2, x3)])) := Lib.hid (o5.mono K3.out.big)
  clear o5 b5 c0 c1 d0 d1 d2 d3
  obtain ⟨r0, r1, f0, f1⟩ := K5.out.ress
  obtain ⟨va, vc, rfl⟩ := HO5.out.any
  have hcl : (cs ++ [(x0, x1, x2, x3)]).length = cs.length + 1 := by simp
  rw [hcl] at HO5 ⊢
  clear hcl
  go_wp2
  (try simp only [Exit.inBlock, Exit.then])
  refine bodyPost_ret (results_cellZ rfl _ _ (w.heap.size + 2) (n : Int) (.slice va (cs.length + 1) vc) rfl rfl (setZ0 r0 r1) (setZ1 r0 r1)) rfl ?_
  refine ⟨.slice va (cs.length + 1) vc, by rw [HE.out.1, HE.out.2.2]; exact rfl, ?_, K5.out.one.down.setCell (by show w.heap.size ≤ w.heap.size + 2; omega) _ |>.setCell (by show w.heap.size ≤ w.heap.size + 2; omega) _⟩
  rw [HE.out.2.1]
  exact (ownZ_set (ownZ_set HO5.out (by omega) 0 _) (by omega) 1 _).mono (by omega)

end Go.Proofs.Ytodlpdbmiicdfaa
