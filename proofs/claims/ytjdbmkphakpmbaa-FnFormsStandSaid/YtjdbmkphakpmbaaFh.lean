/- Chapter 3, the program's HollowsOf: slices.Reverse at rows, the rows that are kept. -/
import Derived.Test.YtjdbmkphakpmbaaFr
import Derived.Test.YtjdbmkphakpmbaaRev
import Derived.Test.YtjdbmkphakpmbaaAppS
import Derived.Test.YtjdbmkphakpmbaaAppD
import Derived.RegionTactic
import Derived.BigRegion
import Derived.ChangeAlike
import Derived.BigQuiet
namespace Go.Proofs.Ytjdbmkphakpmbaa
open Go.ChangeShapes Go.WideShapes Go.ChangeAt Go.RowKit
open Fo

theorem SS.reverse {w w' : World} {lo hi g n cap : Nat} {vs : List Value} {zss : List (List Int)} (h : SS w lo hi (.slice (some ⟨g, 0, none⟩) n cap) vs zss) (hg : w.grownBy w' (some g))
    (ho : w'.ownsRow lo 30 1 (.slice (some ⟨g, 0, none⟩) n cap) n vs.reverse) (hn : vs.length = n) : SS w' lo hi (.slice (some ⟨g, 0, none⟩) n cap) vs.reverse zss.reverse := by
  have hl := h.len
  have hget : ∀ i, i < vs.length → vs.reverse.getD i undef = vs.getD (vs.length - 1 - i) undef := fun i hi => by
    simp only [List.getD_eq_getElem?_getD]; rw [List.getElem?_reverse hi]
  have hget2 : ∀ i, i < zss.length → zss.reverse.getD i [] = zss.getD (zss.length - 1 - i) [] := fun i hi => by
    simp only [List.getD_eq_getElem?_getD]; rw [List.getElem?_reverse hi]
  refine ⟨by rw [List.length_reverse, hn]; exact ho, by simp [hl], fun i hi => ?_, h.lid, fun i j hi hj hij k hk => ?_⟩
  · rw [List.length_reverse] at hi
    rw [hget i hi, hget2 i (by omega), ← hl]
    have hr := h.row (vs.length - 1 - i) (by omega)
    refine ⟨hr.1.grown hg (fun k hk => .inr ?_), hr.2⟩
    cases hk
    exact h.outer rfl _ (by omega)
  · rw [List.length_reverse] at hi hj
    rw [hget i hi] at hk
    rw [hget j hj]
    exact h.apart _ _ (by omega) (by omega) (by omega) k hk
set_option maxRecDepth 20000 in
set_option maxHeartbeats 2000000 in
theorem reverseVs_any (w : World) (lo g n cap : Nat) (vs : List Value) (hsl : ∀ i, i < n → ∃ a l c, vs.getD i undef = .slice a l c) (hn : vs.length = n) (hb : n ≤ 1000000000) (ho : w.ownsRow lo 30 1 (.slice (some ⟨g, 0, none⟩) n cap) n vs) :
    Calls Try.prog 64 #[.slice (some ⟨g, 0, none⟩) n cap] w fun e w' => e = .returned (.tuple #[]) ∧ w'.ownsRow lo 30 1 (.slice (some ⟨g, 0, none⟩) n cap) n vs.reverse ∧ w.grownBy w' (some g) := by
  have HB0 : Hid (w.ownsRow lo 30 1 (.slice (some ⟨g, 0, none⟩) n cap) n (revTo undef vs 0)) := by rw [revTo_zero]; exact ho
  have HZ := Lib.hid hn
  have HSL : Hid (∀ k i, i < n → ∃ a l c, (revTo undef vs k).getD i undef = .slice a l c) := Lib.hid (fun k i hi => by
    rw [getD_revTo undef vs k i (by omega)]
    split
    · exact hsl _ (by omega)
    · exact hsl i hi)
  clear ho hn hsl
  go_enter Try.func64, Try.ntmps64
  go_wp2
  go_loopw [2, 3] (fun i j wr => ∃ k : Nat, 2 * k ≤ n + 1 ∧ i = .int .i64 k ∧ j = .int .i64 ((n : Int) - 1 - k) ∧ Hid (wr.ownsRow lo 30 1 (.slice (some ⟨g, 0, none⟩) n cap) n (revTo undef vs k)) ∧ Hid (w.grownBy wr (some g))) (fun i _ _ => n + 1 - (intOf i).toNat)
  case atStart => exact ⟨0, by omega, rfl, by simp, HB0, Lib.hid (World.grownBy.refl _ _)⟩
  case round =>
    obtain ⟨k, hk, rfl, rfl, HTr, HG⟩ := hrel
    have hlen : (revTo undef vs k).length = n := by rw [length_revTo]; exact HZ.out
    by_cases hlt : 2 * k + 1 < n
    · obtain ⟨j, hj⟩ : ∃ j, j + k + 1 = n := ⟨n - 1 - k, by omega⟩
      have ej : ((n : Int) - 1 - k) = (j : Int) := by omega
      rw [ej]
      have hkj : k < j := by omega
      have hjn : j < n := by omega
      have e1 : wr.cell? ⟨g, k, none⟩ = some ((revTo undef vs k).getD k undef) := by
        rw [HTr.out.cellAt k (by omega), List.getD_eq_getElem?_getD, List.getElem?_eq_getElem (by omega)]; rfl
      have e2 : wr.cell? ⟨g, j, none⟩ = some ((revTo undef vs k).getD j undef) := by
        rw [HTr.out.cellAt j (by omega), List.getD_eq_getElem?_getD, List.getElem?_eq_getElem (by omega)]; rfl
      have R1 := revTo_succ undef vs k j (by have := HZ.out; omega) hkj
      obtain ⟨x1, hx1⟩ : ∃ b, b = (revTo undef vs k).getD k undef := ⟨_, rfl⟩
      obtain ⟨x2, hx2⟩ : ∃ b, b = (revTo undef vs k).getD j undef := ⟨_, rfl⟩
      rw [← hx1] at e1 R1
      rw [← hx2] at e2 R1
      obtain ⟨a1, l1, c1, f1⟩ := HSL.out k k (by omega)
      obtain ⟨a2, l2, c2, f2⟩ := HSL.out k j hjn
      rw [← hx1] at f1
      rw [← hx2] at f2
      clear hx1 hx2
      subst f1 f2
      have z1 := HTr.out.frozenAt k
      have z2 := HTr.out.frozenAt j
      have i1 : (0 : Int) ≤ (k : Int) := by omega
      have i2 : (k : Int) < (n : Int) := by omega
      have i3 : (0 : Int) ≤ (j : Int) := by omega
      have i4 : (j : Int) < (n : Int) := by omega
      have HTr2 : Hid (((wr.setCell ⟨g, k, none⟩ (.slice a2 l2 c2)).setCell ⟨g, j, none⟩ (.slice a1 l1 c1)).ownsRow lo 30 1 (.slice (some ⟨g, 0, none⟩) n cap) n (revTo undef vs (k + 1))) := Lib.hid (by
        rw [← R1]; exact (((HTr.out.stored k _).1).stored j _).1)
      have HG2 : Hid (w.grownBy ((wr.setCell ⟨g, k, none⟩ (.slice a2 l2 c2)).setCell ⟨g, j, none⟩ (.slice a1 l1 c1)) (some g)) := Lib.hid (grownBy_trans HG.out (grownBy_trans (set_grown _ _ _ _) (set_grown _ _ _ _)))
      have HJ := Lib.hid hj
      clear ej hj HTr HG hlen R1
      go_wp2_with fail
      go_region
      go_wp2
      go_roundw
      case rel => exact ⟨k + 1, by have := HJ.out; omega, by go_num, int_eq (by have := HJ.out; omega), HTr2, Lib.hid ⟨HG2.out.os, HG2.out.tape, HG2.out.output, HG2.out.size, HG2.out.block⟩⟩
      case measure => simp [intOf]; have := HJ.out; omega
    · have H1 : Hid (wr.ownsRow lo 30 1 (.slice (some ⟨g, 0, none⟩) n cap) n vs.reverse) := Lib.hid (by rw [← revTo_all undef vs k (by have := HZ.out; omega)]; exact HTr.out)
      clear HTr hlen
      go_wp2
      go_end0
      exact ⟨rfl, H1.out, HG.out⟩
set_option maxRecDepth 20000 in
set_option maxHeartbeats 1000000 in
theorem reverseSS_any (w : World) (B : Nat) (v : Value) (zss : List (List Int)) (hb : zss.length ≤ 1000000000) (ho : OwnSS w B v zss) :
    Calls Try.prog 64 #[v] w fun e w' => e = .returned (.tuple #[]) ∧ OwnSS w' B v zss.reverse ∧ Below B w w' := by
  obtain ⟨vs, s⟩ := ho
  rcases Nat.eq_zero_or_pos zss.length with h0 | h0
  · obtain ⟨a1, c1, rfl⟩ := s.any
    obtain rfl : zss = [] := List.eq_nil_of_length_eq_zero h0
    have HS := Lib.hid s
    clear s h0 hb
    go_enter Try.func64, Try.ntmps64
    go_wp2
    go_loop [2, 3] (fun i j => i = .int .i64 0 ∧ j = .int .i64 (-1)) (fun _ _ => 0)
    case atStart => exact ⟨rfl, rfl⟩
    case round =>
      obtain ⟨rfl, rfl⟩ := hrel
      go_wp2
      go_end0
      exact ⟨rfl, ⟨vs, HS.out⟩, Below.refl _ _⟩
  · obtain ⟨g, cap, rfl, hB, hlt⟩ := s.point h0
    have hvl := s.len
    refine (reverseVs_any w B g zss.length cap vs (fun i hi => by obtain ⟨a, c, e⟩ := (s.row i (by omega)).1.any; exact ⟨a, _, c, e⟩) hvl hb (by rw [← hvl]; have := s.own; rw [← hvl] at this; exact this)).mono ?_
    rintro e w' ⟨rfl, h1, h2⟩
    refine ⟨rfl, OwnJ.mono ⟨vs.reverse, s.reverse h2 h1 hvl⟩ (Nat.le_refl _) h2.size, ⟨h2.os, h2.tape, h2.output, h2.size, fun k hk => h2.block k (by omega) (fun e => by cases e; omega)⟩⟩

theorem wrap64_of {z : Int} (h1 : -9223372036854775808 ≤ z) (h2 : z ≤ 9223372036854775807) : IntKind.i64.wrap z = z := by
  rw [IntKind.wrap_i64]; omega
namespace Fo
def holF (z : List Int) : Option (List Int) := if z.getD 0 0 < z.getD 1 0 then some [z.getD 0 0 + z.getD 1 0, z.getD 0 0] else none
/-- what is kept of the first k rectangles -/
def holTo (q k : Nat) : List (List Int) := ((rectL q).take k).filterMap holF
theorem filterMap_coll {p p' : Nat → Bool} {g g' : Nat → List Int} {f : List Int → Option (List Int)} : ∀ k, (∀ i, 1 ≤ i → i ≤ k → p' i = (p i && (f (g i)).isSome) ∧ (p' i = true → f (g i) = some (g' i))) → (collTo p g k).filterMap f = collTo p' g' k
  | 0, _ => rfl
  | k + 1, h => by
    have ih := filterMap_coll k (fun i h1 h2 => h i h1 (by omega))
    obtain ⟨h1, h2⟩ := h (k + 1) (by omega) (Nat.le_refl _)
    rw [collTo, collTo]
    rcases hp : p (k + 1) with _ | _
    · rw [h1, hp, if_neg (by simp), if_neg (by simp), ih]
    · rw [if_pos rfl, List.filterMap_append, ih]
      rcases hp2 : p' (k + 1) with _ | _
      · rw [hp2, hp, Bool.true_and] at h1
        rw [if_neg (by simp)]
        rcases hf : f (g (k + 1)) with _ | z
        · simp [hf]
        · rw [hf] at h1; simp at h1
      · rw [if_pos rfl]
        simp [h2 hp2]
theorem hol_all {m q : Nat} (h4 : m % 4 = 0) (hq : q = m / 4) : (holTo q (rectL q).length).reverse = hollowL m := by
  unfold holTo hollowL
  rw [List.take_length, downTo_rev, ← hq]
  congr 1
  refine filterMap_coll q fun i h1 h2 => ?_
  have hf : holF (rectG q i) = if i < q / i then some (hollowG m i) else none := by
    unfold holF rectG hollowG
    simp only [List.getD_eq_getElem?_getD, List.getElem?_cons_zero, List.getElem?_cons_succ, Option.getD_some]
    rw [← hq]
    by_cases h : i < q / i
    · rw [if_pos (by omega), if_pos h]
      congr 2
      omega
    · rw [if_neg (by omega), if_neg h]
  have hP : hollowP m i = (decide (q % i = 0) && decide (i < q / i)) := by
    unfold hollowP
    rw [← hq, decide_eq_true h4, Bool.true_and]
    congr 1
    rw [decide_eq_decide]; omega
  rw [hf, hP]
  by_cases hlt : i < q / i
  · have hsq : i * i ≤ q := by
      have := Nat.div_mul_le_self q i
      have h5 := Nat.mul_le_mul_right i (Nat.le_of_lt hlt)
      omega
    rw [if_pos hlt, decide_eq_true hlt, Bool.and_true]
    unfold rectP
    rw [decide_eq_true hsq, Bool.true_and]
    exact ⟨by simp, fun _ => rfl⟩
  · rw [if_neg hlt, decide_eq_false hlt, Bool.and_false]
    exact ⟨by simp, fun h => by cases h⟩
theorem holTo_succ_yes {q k : Nat} {x y : Int} (hk : k < (rectL q).length) (hz : (rectL q).getD k [] = [x, y]) (h : x < y) : holTo q (k + 1) = holTo q k ++ [[x + y, x]] := by
  have e : (rectL q)[k] = [x, y] := by rw [← hz, List.getD_eq_getElem?_getD, List.getElem?_eq_getElem hk]; rfl
  have hf : holF [x, y] = some [x + y, x] := by
    unfold holF
    simp only [List.getD_eq_getElem?_getD, List.getElem?_cons_zero, List.getElem?_cons_succ, Option.getD_some]
    rw [if_pos h]
  unfold holTo
  rw [List.take_succ_eq_append_getElem hk, List.filterMap_append, e]
  simp [hf]
theorem holTo_succ_no {q k : Nat} {x y : Int} (hk : k < (rectL q).length) (hz : (rectL q).getD k [] = [x, y]) (h : ¬ x < y) : holTo q (k + 1) = holTo q k := by
  have e : (rectL q)[k] = [x, y] := by rw [← hz, List.getD_eq_getElem?_getD, List.getElem?_eq_getElem hk]; rfl
  have hf : holF [x, y] = none := by
    unfold holF
    simp only [List.getD_eq_getElem?_getD, List.getElem?_cons_zero, List.getElem?_cons_succ, Option.getD_some]
    rw [if_neg h]
  unfold holTo
  rw [List.take_succ_eq_append_getElem hk, List.filterMap_append, e]
  simp [hf]
theorem length_holTo (q k : Nat) : (holTo q k).length ≤ q := by
  unfold holTo
  refine Nat.le_trans (List.length_filterMap_le _ _) ?_
  rw [List.length_take]
  have := collTo_len (rectP q) (rectG q) q
  unfold rectL
  omega
theorem rectL_row {q k : Nat} (hk : k < (rectL q).length) : ∃ t : Nat, 1 ≤ t ∧ t ≤ q ∧ (rectL q).getD k [] = [(t : Int), ((q / t : Nat) : Int)] := by
  obtain ⟨t, h1, h2, _, h4⟩ := collTo_mem q ((rectL q)[k]) (List.getElem_mem hk)
  exact ⟨t, h1, h2, by rw [List.getD_eq_getElem?_getD, List.getElem?_eq_getElem hk, Option.getD_some, h4]; rfl⟩
end Fo
set_option maxRecDepth 20000 in
set_option maxHeartbeats 2000000 in
theorem implHollowsOf_any (w : World) (n : Int) (_wn : (Lit.int .i64 n).wf = true) :
    Calls Try.prog 11 #[.int .i64 n] w fun e w' => ∃ v0, e = .returned (.tuple #[v0, .bool (outHollowsOf_1 n)]) ∧ OwnSS w' w.heap.size v0 (outHollowsOf_0 n) ∧ Below w.heap.size w w' := by
  have HH := Lib.hid (areSoldiers_any n w)
  clear _wn
  rcases hb : soldB n with _ | _
  · have H0 : Hid (outHollowsOf_0 n = [] ∧ outHollowsOf_1 n = false) := Lib.hid (by unfold outHollowsOf_0 outHollowsOf_1; rw [hb]; exact ⟨rfl, rfl⟩)
    rw [show inB n 1 1000000 = false from hb] at HH
    clear hb
    go_enter Try.func11, Try.ntmps11
    go_wp2_with (go_at_call 61; refine HH.out.mono ?_; rintro e w' ⟨rfl, rfl⟩)
    go_ret2
    exact ⟨_, by rw [H0.out.2]; exact rfl, by rw [H0.out.1]; exact ownSS_nil _ _, Below.refl _ _⟩
  · obtain ⟨m, rfl, h1, h2⟩ := sold_nat hb
    have H0 : Hid (outHollowsOf_0 m = hollowL m ∧ outHollowsOf_1 m = true) := Lib.hid (by unfold outHollowsOf_0 outHollowsOf_1; rw [hb]; exact ⟨rfl, rfl⟩)
    rw [show inB m 1 1000000 = true from hb] at HH
    clear hb
    rcases h4 : decide (m % 4 = 0) with _ | _
    · have H5 : Hid (hollowL m = []) := Lib.hid (by
        unfold hollowL
        rw [downTo_rev, coll_end (k := 0) (Nat.zero_le _) fun i _ => by unfold hollowP; rw [h4, Bool.false_and]]
        rfl)
      have h6 := of_decide_eq_false h4
      have h7 : ((m : Int) % 4 != 0) = true := by rw [bne_iff_ne]; omega
      clear h4 h6
      go_enter Try.func11, Try.ntmps11
      go_wp2_with (go_at_call 61; refine HH.out.mono ?_; rintro e w' ⟨rfl, rfl⟩)
      go_ret2
      exact ⟨_, by rw [H0.out.2]; exact rfl, by rw [H0.out.1, H5.out]; exact ownSS_nil _ _, Below.refl _ _⟩
    · have h6 := of_decide_eq_true h4
      have h7 : ((m : Int) % 4 != 0) = false := by rw [bne_eq_false_iff_eq]; omega
      obtain ⟨q, hq⟩ : ∃ q, q = m / 4 := ⟨_, rfl⟩
      have HR := Lib.hid (rectangles_any w q (by omega))
      have HALL := Lib.hid (hol_all h6 hq)
      have eq4 : (m : Int) / 4 = (q : Int) := by omega
      have hq2 : q ≤ 250000 := by omega
      obtain ⟨L, hL⟩ : ∃ L, L = (rectL q).length := ⟨_, rfl⟩
      have hLb : L ≤ q := by rw [hL]; exact collTo_len _ _ _
      have HLN := Lib.hid hL
      rw [← hL] at HALL
      clear h4 h6 hq hL
      go_enter Try.func11, Try.ntmps11
      go_wp2_with fail
      go_at_call 61
      refine HH.out.mono ?_
      rintro e w' ⟨rfl, rfl⟩
      go_wp2_with fail
      go_at_call 62
      refine HR.out.mono ?_
      rintro e w2 ⟨v, rfl, o2, b2⟩
      obtain ⟨vs, s2⟩ := o2
      obtain ⟨ao, co, rfl⟩ := s2.any
      have S2 := Lib.hid s2
      have B2 := Lib.hid b2
      have HVL : Hid (vs.length = L) := Lib.hid (by rw [s2.len, HLN.out])
      have HLL := HLN.out
      rw [← HLL] at S2 ⊢
      clear s2 b2 HLL
      go_wp2
      go_loopw [4, 17] (fun v i wr => ∃ k : Nat, k ≤ L ∧ i = .int .i64 (k : Int) ∧ Hid (OwnSS wr w2.heap.size v (holTo q k)) ∧ Hid (Below w2.heap.size w2 wr)) (fun _ i _ => L - (intOf i).toNat)
      case atStart => exact ⟨0, Nat.zero_le _, rfl, Lib.hid (ownSS_nil _ _), Lib.hid (Below.refl _ _)⟩
      case round =>
        obtain ⟨k, hk, rfl, HO, HB2⟩ := hrel
        have hz := HB2.out.size
        by_cases hlt : k < L
        · obtain ⟨g, cap, hgv, _, _⟩ := S2.out.point (by rw [← HLN.out]; omega)
          injection hgv with hg1 hg2 hg3
          subst hg1 hg3
          clear hg2
          have hkl : k < (rectL q).length := by rw [← HLN.out]; exact hlt
          have ec := (HB2.out.cell (World.block_lt_of_cell? w2 _ (S2.out.cell k hkl))).trans (S2.out.cell k hkl)
          have hrow := (S2.out.row k (by rw [HVL.out]; exact hlt)).1
          obtain ⟨t, ht1, ht2, hrl⟩ := rectL_row hkl
          rw [hrl] at hrow
          have hdb := Nat.div_le_self q t
          have HRL := Lib.hid hrl
          have HKL := Lib.hid hkl
          obtain ⟨d, hd⟩ : ∃ d, d = q / t := ⟨_, rfl⟩
          rw [← hd] at hrow HRL hdb
          have hro := hrow.below HB2.out (Nat.le_refl _)
          obtain ⟨g3, c3, hr3, _, _⟩ := hro.point (by simp)
          have hg3l : g3 < w2.heap.size := by have := (S2.out.row k (by rw [HVL.out]; exact hlt)).2 g3 (by rw [hr3]; rfl); exact this
          rw [hr3] at ec hro
          have e1 := hro.cell rfl 0 (by simp)
          have e2 := hro.cell rfl 1 (by simp)
          simp only [List.length_cons, List.length_nil, Nat.zero_add, Nat.reduceAdd, List.getD_eq_getElem?_getD, List.getElem?_cons_zero, List.getElem?_cons_succ, Option.getD_some] at e1 e2 ec
          have HSC : Hid (∀ w5, Below wr.heap.size wr w5 → w5.cell? ⟨g3, 0, none⟩ = some (.int .i64 (t : Int)) ∧ w5.cell? ⟨g3, 1, none⟩ = some (.int .i64 (d : Int))) := Lib.hid (fun w5 h5 => ⟨(h5.cell (World.block_lt_of_cell? wr _ e1)).trans e1, (h5.cell (World.block_lt_of_cell? wr _ e2)).trans e2⟩)
          have hg3 : Hid (g3 < w2.heap.size) := Lib.hid hg3l
          have i1 : (0 : Int) ≤ (k : Int) := by omega
          have i2 : (k : Int) < (L : Int) := by omega
          clear hd hrow hro hr3 hrl hkl hg3l
          have hbl := length_holTo q k
          have hbl2 : (holTo q k).length ≤ 1000000000 := by omega
          by_cases hpq : t < d
          · have HSD : Hid (∀ wx w5, Below wr.heap.size wr wx → Below w2.heap.size wx w5 → w5.cell? ⟨g3, 0, none⟩ = some (.int .i64 (t : Int)) ∧ w5.cell? ⟨g3, 1, none⟩ = some (.int .i64 (d : Int))) := Lib.hid (fun wx w5 hx h5 => ⟨(h5.cell hg3.out).trans (HSC.out wx hx).1, (h5.cell hg3.out).trans (HSC.out wx hx).2⟩)
            have ew : IntKind.i64.wrap ((t : Int) + (d : Int)) = (t : Int) + (d : Int) := wrap64_of (by omega) (by omega)
            have HS := Lib.hid (holTo_succ_yes HKL.out HRL.out (by omega))
            have hdec : ((t : Int) < (d : Int)) := by omega
            go_wp2_with fail
            go_quiet (fail)
            go_wp2_with fail
            go_region_held_law (fun w' => w'.cell? ⟨g3, 0, none⟩ = some (.int .i64 (t : Int)) ∧ w'.cell? ⟨g3, 1, none⟩ = some (.int .i64 (d : Int))) (first | go_keep | (exact HSD.out _ _ (((drewN_below wr _)).alloc (Nat.le_refl _) _) hB5))
              ((refine step_appRow rfl _ _ rfl _ wr _ _ _ _ _ _ rfl rfl (by simp) HO.out (((drewN_below wr _)).alloc (Nat.le_refl _) _) (own_two (wr.drewN _) _ _) hz hbl2 ?_; intro v' w5 hO hB5))
            try rw [ew] at hO
            have HO5 : Hid (OwnSS w5 w2.heap.size v' (holTo q (k + 1))) := Lib.hid (by rw [HS.out]; exact hO)
            have HB5 : Hid (Below w2.heap.size w2 w5) := Lib.hid (HB2.out.trans (((((drewN_below wr _)).alloc (Nat.le_refl _) _).mono HB2.out.size).trans hB5))
            clear hO hB5 ew
            go_wp2
            go_roundw
            case rel => exact ⟨k + 1, by omega, by go_num, HO5, HB5⟩
            case measure => simp [intOf]; omega
          · have HS := Lib.hid (holTo_succ_no HKL.out HRL.out (by omega))
            have hdec : ¬ ((t : Int) < (d : Int)) := by omega
            go_wp2_with fail
            go_quiet (fail)
            go_wp2
            go_roundw
            case rel => exact ⟨k + 1, by omega, by go_num, Lib.hid (by rw [HS.out]; exact HO.out.drewN _), Lib.hid ⟨HB2.out.os, HB2.out.tape, HB2.out.output, HB2.out.size, HB2.out.block⟩⟩
            case measure => simp [intOf]; omega
        · have HRV := Lib.hid (reverseSS_any wr w2.heap.size _ (holTo q k) (by have := length_holTo q k; omega) HO.out)
          have HE : Hid ((holTo q k).reverse = hollowL m) := Lib.hid (by rw [show k = L by omega]; exact HALL.out)
          go_wp2_with fail
          go_at_call 64
          refine HRV.out.mono ?_
          rintro e w5 ⟨rfl, o5, b5⟩
          have O5 : Hid (OwnSS w5 w.heap.size _ (hollowL m)) := Lib.hid (by rw [← HE.out]; exact o5.mono B2.out.size)
          have B5 : Hid (Below w.heap.size w w5) := Lib.hid (B2.out.trans ((HB2.out.trans b5).mono B2.out.size))
          clear o5 b5
          go_wp2
          go_ret2
          exact ⟨_, by rw [H0.out.2]; exact rfl, by rw [H0.out.1]; exact O5.out, B5.out⟩

end Go.Proofs.Ytjdbmkphakpmbaa
