/- Chapter 9, the program: HarderPuzzle. -/
import Derived.Test.YtodlpdbmiicdfabZr
namespace Go.Proofs.Ytodlpdbmiicdfab
open Go.ChangeShapes Go.WideShapes Go.ChangeAt Go.RowKit
open Pz

theorem solL_none (n : Nat) (h : 1 ≤ n) : (solL n []).length ≠ 1 := by
  have e : (solL n []).length = 2 ^ n := by
    unfold solL solTo solN
    rw [List.length_map, show List.filter (fitK n []) (List.range (2 ^ n)) = List.range (2 ^ n) from List.filter_eq_self.2 (fun k _ => rfl), List.length_range]
  rw [e]
  have h2 : 2 ^ 1 ≤ 2 ^ n := Nat.pow_le_pow_right (by omega) h
  omega
set_option maxHeartbeats 4000000 in
theorem implHarderPuzzle_any (w : World) (s : Int) (a : Option Addr) (len cap : Nat) (cs : List RClue) (hl : len ≤ 1048576) (hc : CameClue w a len cs) :
    Calls Try.prog 22 #[.agg #[.int .i64 s, .slice a len cap]] w fun e w' => ∃ v0, e = .returned (.tuple #[.agg #[.int .i64 (outHarderPuzzle_0 s cs), v0], .bool (outHarderPuzzle_2 s cs)]) ∧ OwnClue w' w.heap.size v0 (outHarderPuzzle_1 s cs) ∧ Below w.heap.size w w' := by
  have HC := Lib.hid hc
  have HZ : Hid (cs.length = len) := Lib.hid hc.1
  have HIS := Lib.hid (fun w2 (h : Below w.heap.size w w2) => implIsSolved_any w2 s a len cap cs hl (HC.out.below h))
  have HST : Hid (KZ2 w s a len cap ((w.alloc (.cells #[.int .i64 s, .slice a len cap] 31)).alloc (.cells #[.int .i64 0, .slice none 0 0] 31))) := Lib.hid (KZ2.start ..)
  have hok : okHarderPuzzle s cs = outIsSolved_0 s cs := rfl
  have c0 := HST.out.one.c0
  have c1 := HST.out.one.c1
  clear hc
  rcases hb : outIsSolved_0 s cs with _ | _
  · have HE : Hid (outHarderPuzzle_0 s cs = 0 ∧ outHarderPuzzle_1 s cs = [] ∧ outHarderPuzzle_2 s cs = false) := Lib.hid (by
      unfold outHarderPuzzle_0 outHarderPuzzle_1 outHarderPuzzle_2; rw [hok, hb]; exact ⟨rfl, rfl, rfl⟩)
    rw [hb] at HIS
    clear hb hok
    go_enter Try.func22, Try.ntmps22
    go_wp2_with fail
    go_at_call 40
    refine (HIS.out _ HST.out.one.down).mono ?_
    rintro e w2 ⟨rfl, b2⟩
    have K2 : Hid (KZ2 w s a len cap w2) := Lib.hid (HST.out.more b2)
    clear b2 c0 c1
    have r0 := K2.out.r0
    have r1 := K2.out.r1
    have f0 := K2.out.f0
    have f1 := K2.out.f1
    go_wp2
    (try simp only [Exit.inBlock, Exit.then])
    refine bodyPost_ret (results_cellZ rfl _ _ (w.heap.size + 1) 0 (.slice none 0 0) rfl rfl (setZ0 r0 r1) (setZ1 r0 r1)) rfl ?_
    exact ⟨_, by rw [HE.out.1, HE.out.2.2]; exact rfl, by rw [HE.out.2.1]; exact ownClue_nil _ _, K2.out.one.down.setCell (Nat.le_succ _) _ |>.setCell (Nat.le_succ _) _⟩
  have hb2 := hb
  unfold outIsSolved_0 at hb2
  rw [Bool.and_eq_true, decide_eq_true_eq] at hb2
  obtain ⟨hg, h1⟩ := hb2
  obtain ⟨⟨n, rfl, hn1, hn8⟩, hl6, hcl⟩ := pz_of hg
  rw [Int.toNat_natCast] at h1
  have hl6' : len ≤ 6 := by have := HZ.out; omega
  have h0 : 0 < len := by
    rcases Nat.eq_zero_or_pos len with h | h
    · exfalso
      have hnil : cs = [] := List.eq_nil_of_length_eq_zero (by rw [HZ.out, h])
      rw [hnil] at h1
      exact solL_none n hn1 h1
    · exact h
  have HE : Hid (outHarderPuzzle_0 (n : Int) cs = n ∧ outHarderPuzzle_1 (n : Int) cs = hardL n cs ∧ outHarderPuzzle_2 (n : Int) cs = true) := Lib.hid (by
    unfold outHarderPuzzle_0 outHarderPuzzle_1 outHarderPuzzle_2; rw [hok, hb]; exact ⟨rfl, rfl, rfl⟩)
  have HH := Lib.hid (fun w2 (h : Below w.heap.size w w2) => harder_any w2 n hn1 hn8 a len cap cs h0 hl6' hcl (HC.out.below h))
  rw [hb] at HIS
  clear hb hok hg h1 hl6 hcl
  go_enter Try.func22, Try.ntmps22
  go_wp2_with fail
  go_at_call 40
  refine (HIS.out _ HST.out.one.down).mono ?_
  rintro e w2 ⟨rfl, b2⟩
  have K2 : Hid (KZ2 w n a len cap w2) := Lib.hid (HST.out.more b2)
  clear b2 c0 c1
  have c0 := K2.out.one.c0
  have c1 := K2.out.one.c1
  go_wp2_with fail
  go_at_call 41
  refine (HH.out _ K2.out.one.down).mono ?_
  rintro e w5 ⟨v5, rfl, o5, b5⟩
  have HK5 : Hid (KZ2 w n a len cap w5) := Lib.hid (K2.out.more b5)
  have HO5 : Hid (OwnClue w5 (w.heap.size + 2) v5 (hardL n cs)) := Lib.hid (o5.mono K2.out.big)
  clear o5 b5 c0 c1
  have s0 := HK5.out.r0
  have s1 := HK5.out.r1
  have g0 := HK5.out.f0
  have g1 := HK5.out.f1
  obtain ⟨ao5, cp5, rfl⟩ := HO5.out.any
  go_wp2
  (try simp only [Exit.inBlock, Exit.then])
  refine bodyPost_ret (results_cellZ rfl _ _ (w.heap.size + 1) (n : Int) (.slice ao5 (hardL n cs).length cp5) rfl rfl (setZ0 s0 s1) (setZ1 s0 s1)) rfl ?_
  refine ⟨.slice ao5 (hardL n cs).length cp5, by rw [HE.out.1, HE.out.2.2]; exact rfl, ?_, HK5.out.one.down.setCell (Nat.le_succ _) _ |>.setCell (Nat.le_succ _) _⟩
  rw [HE.out.2.1]
  exact (ownZ_set (ownZ_set HO5.out (by omega) 0 _) (by omega) 1 _).mono (by omega)

end Go.Proofs.Ytodlpdbmiicdfab
