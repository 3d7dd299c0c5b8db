/- Chapter 9, the program: with, AddClue. -/
import Derived.Test.YtodlpdbmiicdfaaZm
import Derived.Test.YtodlpdbmiicdfaaPzl
import Derived.ArgAppend
namespace Go.Proofs.Ytodlpdbmiicdfaa
open Go.ChangeShapes Go.WideShapes Go.ChangeAt Go.RowKit
open Pz

theorem src_any {w : World} {ao : Option Addr} {n : Nat} {cs : List RClue} (h : CameClue w ao n cs) : ∀ b, ao = some b → ∀ j u, (cs.flatMap cClue)[j]? = some u → w.cell? (b.add j) = some u := by
  intro b hb j u hj
  rcases Nat.eq_zero_or_pos n with h0 | h0
  · have hnil : cs = [] := List.eq_nil_of_length_eq_zero (by rw [h.1, h0])
    rw [hnil] at hj; simp at hj
  · obtain ⟨b', off, he, _⟩ := h.2 h0
    rw [hb] at he
    injection he with he
    subst he hb
    exact src_cameC h j u hj
theorem one_cells (cs : List RClue) : ∀ u ∈ cs.flatMap cClue, u.oneCell' = true := by
  intro u hu
  obtain ⟨p, _, hp⟩ := List.mem_flatMap.1 hu
  unfold cClue at hp
  simp only [List.mem_cons, List.not_mem_nil, or_false] at hp
  rcases hp with rfl | rfl | rfl | rfl <;> rfl
/-- a store into the second cell of a box, seen from this box and another one -/
theorem put_facts {w5 : World} {G R : Nat} {s : Int} {u V : Value} (hG : Blk w5 G 35 [.int .i64 s, u]) (hR : Blk w5 R 35 [.int .i64 0, .slice none 0 0]) (hne : R ≠ G) :
    (w5.cell? ⟨G, 0, none⟩ = some (.int .i64 s) ∧ w5.cell? ⟨G, 1, none⟩ = some u ∧ w5.frozen? ⟨G, 1, none⟩ = false) ∧
    (w5.setCell ⟨G, 1, none⟩ V).cell? ⟨G, 0, none⟩ = some (.int .i64 s) ∧ (w5.setCell ⟨G, 1, none⟩ V).cell? ⟨G, 1, none⟩ = some V ∧ (w5.setCell ⟨G, 1, none⟩ V).cell? ⟨R, 0, none⟩ = some (.int .i64 0) ∧ (w5.setCell ⟨G, 1, none⟩ V).cell? ⟨R, 1, none⟩ = some (.slice none 0 0) ∧
    (w5.setCell ⟨G, 1, none⟩ V).frozen? ⟨R, 0, none⟩ = false ∧ (w5.setCell ⟨G, 1, none⟩ V).frozen? ⟨R, 1, none⟩ = false := by
  have h6 : Blk (w5.setCell ⟨G, 1, none⟩ V) G 35 [.int .i64 s, V] := hG.set 1 V
  have hr : Blk (w5.setCell ⟨G, 1, none⟩ V) R 35 [.int .i64 0, .slice none 0 0] := hR.grown (set_grown w5 G 1 V) (fun e => hne (Option.some.inj e).symm)
  exact ⟨⟨hG.cell 0, hG.cell 1, hG.free 1⟩, h6.cell 0, h6.cell 1, hr.cell 0, hr.cell 1, hr.free 0, hr.free 1⟩
set_option maxHeartbeats 8000000 in
set_option maxRecDepth 20000 in
theorem with_any (w : World) (s : Int) (a : Option Addr) (len cap : Nat) (cs : List RClue) (x0 x1 x2 x3 : Int) (hl : len ≤ 6) (hc : CameClue w a len cs) (hcp : len ≤ cap) :
    Calls Try.prog 55 #[.agg #[.int .i64 s, .slice a len cap], .agg #[.int .i64 x0, .int .i64 x1, .int .i64 x2, .int .i64 x3]] w fun e w' => ∃ v, e = .returned (.agg #[.int .i64 s, v]) ∧ OwnClue w' w.heap.size v (cs ++ [(x0, x1, x2, x3)]) ∧ Below w.heap.size w w' := by
  obtain ⟨i0, hi, hz0, hz1, hz2⟩ := info_parts Try.info_Clue
  have HC := Lib.hid hc
  have HZ : Hid (cs.length = len) := Lib.hid hc.1
  have HST : Hid (KZ3 w s a len cap x0 x1 x2 x3 (((w.alloc (.cells #[.int .i64 s, .slice a len cap] 35)).alloc (.cells #[.int .i64 x0, .int .i64 x1, .int .i64 x2, .int .i64 x3] 25)).alloc (.cells #[.int .i64 0, .slice none 0 0] 35))) := Lib.hid (Below.refl _ _)
  have HCU := Lib.hid (fun w2 (h : Below w.heap.size w w2) => cut_any w2 s a len cap cs 0 len (Nat.zero_le _) (Nat.le_refl _) hcp (HC.out.below h))
  simp only [Nat.sub_zero, List.drop_zero, Int.natCast_zero] at HCU
  obtain ⟨c0, c1, d0, d1, d2, d3⟩ := HST.out.held
  clear hc
  go_enter Try.func55, Try.ntmps55
  go_wp2_with fail
  go_at_call 75
  refine (HCU.out _ HST.out.one.down).mono ?_
  rintro e w2 ⟨ao, rfl, hca, hno, b2⟩
  rw [List.take_of_length_le (by rw [HZ.out]; exact Nat.le_refl _)] at hca
  have HK2 : Hid (KZ3 w s a len cap x0 x1 x2 x3 w2) := Lib.hid (HST.out.more b2)
  have HCA := Lib.hid hca
  have HNO := Lib.hid hno
  clear b2 hca hno c0 c1 d0 d1 d2 d3
  obtain ⟨c0, c1, d0, d1, d2, d3⟩ := HK2.out.held
  -- the longer one lies in a box of its own
  obtain ⟨G, hG⟩ : ∃ G, G = w2.heap.size := ⟨_, rfl⟩
  obtain ⟨w3, hw3⟩ : ∃ w3, w3 = w2.alloc (.cells #[.int .i64 s, .slice ao len len] 35) := ⟨_, rfl⟩
  have HK3 : Hid (KZ3 w s a len cap x0 x1 x2 x3 w3) := Lib.hid (by rw [hw3]; exact HK2.out.more ((Below.refl _ _).alloc (Nat.le_refl _) _))
  have HB3 : Hid (Blk w3 G 35 [.int .i64 s, .slice ao len len]) := Lib.hid (by rw [hw3, hG]; exact blk_new w2 _ [_, _])
  have HC3 : Hid (CameClue w3 ao len cs) := Lib.hid (by rw [hw3]; exact HCA.out.below ((Below.refl _ _).alloc (Nat.le_refl _) _))
  have HGB : Hid (w.heap.size + 3 ≤ G ∧ G < w3.heap.size) := Lib.hid (by have := HK2.out.big; exact ⟨by omega, HB3.out.lt⟩)
  clear c0 c1 d0 d1 d2 d3
  obtain ⟨c0, c1, d0, d1, d2, d3⟩ := HK3.out.held
  have e0 : w3.cell? ⟨G, 0, none⟩ = some (.int .i64 s) := HB3.out.cell 0
  have e1 : w3.cell? ⟨G, 1, none⟩ = some (.slice ao len len) := HB3.out.cell 1
  -- the array of the one that is appended
  have HB4 : Hid (Blk (w3.alloc (.cells #[.int .i64 x0, .int .i64 x1, .int .i64 x2, .int .i64 x3] 25)) G 35 [.int .i64 s, .slice ao len len]) := Lib.hid (HB3.out.alloc _)
  have HK4 : Hid (KZ3 w s a len cap x0 x1 x2 x3 (w3.alloc (.cells #[.int .i64 x0, .int .i64 x1, .int .i64 x2, .int .i64 x3] 25))) := Lib.hid (HK3.out.more ((Below.refl _ _).alloc (Nat.le_refl _) _))
  have HC4 := Lib.hid (HC3.out.below ((Below.refl _ _).alloc (Nat.le_refl _) (.cells #[.int .i64 x0, .int .i64 x1, .int .i64 x2, .int .i64 x3] 25)))
  have HS4 := Lib.hid (src_oneC (w := w3) x0 x1 x2 x3 rfl)
  have HLO : Hid ((cs.flatMap cClue).length = len * 4) := Lib.hid (by rw [flat_len cClue_len, HZ.out])
  have HON : Hid (ao = none → len = 0 ∧ len = 0) := Lib.hid (fun h => ⟨HNO.out h, HNO.out h⟩)
  subst hw3 hG
  rw [pz_size1] at HS4
  go_wp2_with (
    at_builtin
    refine wpList_append_grows _ rfl _ _ 33 rfl 25 i0 _ 4 32 Try.underlying33 hi hz0 hz1 hz2 rfl (by decide) ao len len (cs.flatMap cClue) rfl HON.out HLO.out (src_any HC4.out) ⟨w2.heap.size + 1, 0, none⟩ 1 1 ([(x0, x1, x2, x3)].flatMap cClue) rfl rfl HS4.out (one_cells _) (by omega) (by unfold maxLen; omega) (by omega) ?_
    intro v5 w5 hO hG5
    have HO5 : Hid (OwnClue w5 (w2.heap.size + 1) v5 (cs ++ [(x0, x1, x2, x3)])) := Lib.hid (by
      have h : OwnClue w5 ((w2.alloc (.cells #[.int .i64 s, .slice ao len len] 35)).alloc (.cells #[.int .i64 x0, .int .i64 x1, .int .i64 x2, .int .i64 x3] 25)).heap.size v5 (cs ++ [(x0, x1, x2, x3)]) := by
        unfold OwnClue
        rw [List.length_append, List.flatMap_append, HZ.out]
        exact hO
      exact h.mono (by rw [pz_size1, pz_size1]; omega))
    have b5 := below_made hG5
    have HB5 := Lib.hid (HB4.out.below b5 HB4.out.lt)
    have HK5 := Lib.hid (HK4.out.more b5)
    obtain ⟨va, vc, hv5⟩ := HO5.out.any
    rw [List.length_append, HZ.out] at hv5
    subst hv5
    clear hO hG5 b5 e0 e1 c0 c1 d0 d1 d2 d3 HC4 HS4 HC3 HK3 HB3 HCA HB4 HK4
    obtain ⟨⟨g0, g1, f1⟩, e0, e1, r0, r1, q0, q1⟩ := put_facts (V := .slice va (len + 1) vc) HB5.out HK5.out.res (by have := HGB.out; omega))
  (try simp only [Exit.inBlock, Exit.then])
  have HO6 : Hid (OwnClue (w5.setCell ⟨w2.heap.size, 1, none⟩ (.slice va (len + 1) vc)) (w2.heap.size + 1) (.slice va (len + 1) vc) (cs ++ [(x0, x1, x2, x3)])) := Lib.hid (ownZ_set HO5.out (by omega) 1 _)
  have HW6 : Hid (Below w.heap.size w (w5.setCell ⟨w2.heap.size, 1, none⟩ (.slice va (len + 1) vc))) := Lib.hid (HK5.out.one.down.setCell (p := ⟨w2.heap.size, 1, none⟩) (by show w.heap.size ≤ w2.heap.size; have := HGB.out; omega) _)
  refine bodyPost_ret (results_oneZ rfl _ _ (w.heap.size + 2) s (.slice va (len + 1) vc) rfl rfl (setZ0 r0 r1) (setZ1 r0 r1)) rfl ?_
  exact ⟨_, rfl, (ownZ_set (ownZ_set HO6.out (by have := HGB.out; omega) 0 _) (by have := HGB.out; omega) 1 _).mono (by have := HGB.out; omega), HW6.out.setCell (by show w.heap.size ≤ w.heap.size + 2; omega) _ |>.setCell (by show w.heap.size ≤ w.heap.size + 2; omega) _⟩

end Go.Proofs.Ytodlpdbmiicdfaa
