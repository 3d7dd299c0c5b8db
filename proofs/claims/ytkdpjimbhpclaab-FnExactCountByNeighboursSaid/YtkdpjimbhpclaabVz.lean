/- Chapter 7, the program: CanByNeighbours, NeighboursTo, CountByNeighbours, IdleOrders. -/
import Derived.Test.YtkdpjimbhpclaabVy
namespace Go.Proofs.Ytkdpjimbhpclaab
open Go.ChangeShapes Go.WideShapes Go.ChangeAt Go.RowKit
open Rx Od Ed

theorem byLength_p (w : World) (a1 a2 : Option Addr) (n1 c1 n2 c2 : Nat) : Calls Try.prog 39 #[.slice a1 n1 c1, .slice a2 n2 c2] w fun e w' => e = .returned (.int .i64 (Lib.compareInt (n1 : Int) (n2 : Int))) ∧ w = w' := by
  have HC := Lib.hid (cmp_p (n1 : Int) (n2 : Int) w)
  go_enter Try.func39, Try.ntmps39
  go_wp2_with (go_at_call 65; refine HC.out.mono ?_; rintro e w' ⟨rfl, rfl⟩)
  go_ret
  exact ⟨rfl, rfl⟩
/-- the first one of the shortest -/
def minL : List (List Int) → List Int
  | [] => []
  | [x] => x
  | x :: y :: _ => if y.length < x.length then y else x
theorem minL_two (x y : List Int) : minL [x, y] = if y.length < x.length then y else x := rfl
theorem minFunc_p (w : World) (B : Nat) (v : Value) (zss : List (List Int)) (h : OwnSS w B v zss) (h1 : 1 ≤ zss.length) (h2 : zss.length ≤ 2) :
    Calls Try.prog 38 #[v, .func (.func 39) #[] #[]] w fun e w' => ∃ r, e = .returned r ∧ Own w B r (minL zss) ∧ w = w' := by
  obtain ⟨vs, S⟩ := h
  obtain ⟨g, cap, rfl, _, _⟩ := S.point (by omega)
  have hl := S.len
  have e0 := S.cell 0 (by omega)
  have o0 := (S.row 0 (by omega)).1
  obtain ⟨a0, c0, q0⟩ := o0.any
  rw [q0] at e0 o0
  rcases zss with _ | ⟨x, _ | ⟨y, t⟩⟩
  · simp at h1
  · have HO := Lib.hid (show Own w B (.slice a0 x.length c0) (minL [x]) from o0)
    rw [show [x].getD 0 [] = x from rfl] at e0
    rw [show [x].length = 1 from rfl]
    obtain ⟨n, hn⟩ : ∃ n, n = x.length := ⟨_, rfl⟩
    rw [← hn] at e0 HO
    clear S hl o0 q0 h1 h2 hn
    go_enter Try.func38, Try.ntmps38
    go_wp2
    refine wp_loop_rounds 1 ?_
    rw [rounds_succ]
    go_wp2
    go_ret
    exact ⟨_, rfl, HO.out, rfl⟩
  · obtain rfl : t = [] := by rcases t with _ | ⟨z, t⟩; rfl; simp at h2
    have e1 := S.cell 1 (by simp)
    have o1 := (S.row 1 (by rw [hl]; simp)).1
    obtain ⟨a1, c1, q1⟩ := o1.any
    rw [q1] at e1 o1
    rw [show [x, y].getD 0 [] = x from rfl] at e0 o0
    rw [show [x, y].getD 1 [] = y from rfl] at e1 o1
    rw [show [x, y].length = 2 from rfl]
    have HC := Lib.hid (byLength_p w a1 a0 y.length c1 x.length c0)
    by_cases hxy : y.length < x.length
    · have HO : Hid (Own w B (.slice a1 y.length c1) (minL [x, y])) := Lib.hid (by rw [minL_two, if_pos hxy]; exact o1)
      rw [show Lib.compareInt (y.length : Int) (x.length : Int) = -1 from by unfold Lib.compareInt; rw [if_pos (by omega)]] at HC
      obtain ⟨n, hn⟩ : ∃ n, n = x.length := ⟨_, rfl⟩
      obtain ⟨p, hp⟩ : ∃ n, n = y.length := ⟨_, rfl⟩
      rw [← hn] at e0 HC
      rw [← hp] at e1 HC HO
      clear S hl o0 o1 q0 q1 h1 h2 hn hp hxy
      go_enter Try.func38, Try.ntmps38
      go_wp2
      refine wp_loop_rounds 2 ?_
      rw [rounds_succ]
      go_wp2_with (go_at_call 39; refine HC.out.mono ?_; rintro e w' ⟨rfl, rfl⟩)
      rw [rounds_succ]
      go_wp2
      go_ret
      exact ⟨_, rfl, HO.out, rfl⟩
    · have HO : Hid (Own w B (.slice a0 x.length c0) (minL [x, y])) := Lib.hid (by rw [minL_two, if_neg hxy]; exact o0)
      obtain ⟨cc, hcc⟩ : ∃ c, c = Lib.compareInt (y.length : Int) (x.length : Int) := ⟨_, rfl⟩
      have hc0 : ¬ cc < 0 := by
        rw [hcc]
        unfold Lib.compareInt
        rw [if_neg (by omega)]
        split <;> decide
      rw [← hcc] at HC
      obtain ⟨n, hn⟩ : ∃ n, n = x.length := ⟨_, rfl⟩
      obtain ⟨p, hp⟩ : ∃ n, n = y.length := ⟨_, rfl⟩
      rw [← hn] at e0 HC HO
      rw [← hp] at e1 HC
      clear S hl o0 o1 q0 q1 h1 h2 hn hp hxy hcc
      go_enter Try.func38, Try.ntmps38
      go_wp2
      refine wp_loop_rounds 2 ?_
      rw [rounds_succ]
      go_wp2_with (go_at_call 39; refine HC.out.mono ?_; rintro e w' ⟨rfl, rfl⟩)
      rw [rounds_succ]
      go_wp2
      go_ret
      exact ⟨_, rfl, HO.out, rfl⟩

theorem cand_two (l m : List Bool) : candTo l m 2 = if chB l m false then (if chB l m true then [chL l m true] else []) ++ [chL l m false] else (if chB l m true then [chL l m true] else []) := by
  rw [candTo, candTo]
  rfl
theorem ord_best (l m : List Bool) (h1 : 1 ≤ l.length) (hm : m.length = l.length) : (ordL l m).length ≤ 2 ∧ (bestB l m = decide (1 ≤ (ordL l m).length)) ∧ (1 ≤ (ordL l m).length → minL (ordL l m) = bestL l m) ∧ (bestB l m = false → bestL l m = []) := by
  obtain ⟨st, _, hx, _, _⟩ := ch_rep l m true hm h1
  have hx2 : chL l m true = 0 :: upL st := hx
  have hlen : 1 ≤ (chL l m true).length := by rw [hx2]; simp
  unfold ordL bestB bestL
  rw [cand_two]
  rcases hb : chB l m true with _ | _ <;> rcases hc : chB l m false with _ | _
  · simp
  · simp [minL]
  · simp [minL]
  · by_cases e : chL l m false = []
    · rw [e, decide_eq_true rfl]
      simp [minL]
    · rw [decide_eq_false e]
      refine ⟨by simp, by simp, fun _ => ?_, by simp⟩
      show minL [chL l m true, chL l m false] = _
      rw [minL_two]
      by_cases hlt : (chL l m false).length < (chL l m true).length
      · rw [if_pos hlt, decide_eq_false (by omega)]; simp
      · rw [if_neg hlt, decide_eq_true (by omega)]; simp

set_option maxHeartbeats 1000000 in
theorem implNeighboursTo_any (w : World) (a b : ByteArray) (_wa : a.size ≤ maxLen) (_wb : b.size ≤ maxLen) (hla : a.size ≤ 1048576) (hlb : b.size ≤ 1048576) :
    Calls Try.prog 14 #[.string a, .string b] w fun e w' => ∃ v, e = .returned (.tuple #[v, .bool (outNeighboursTo_1 a b)]) ∧ Own w' w.heap.size v (outNeighboursTo_0 a b) ∧ Below w.heap.size w w' := by
  have HG := Lib.hid (areOrdered_p a b w hla hlb)
  clear _wa _wb
  rcases h1 : twoB a b with _ | _
  · have H0 : Hid (outNeighboursTo_0 a b = [] ∧ outNeighboursTo_1 a b = false) := Lib.hid (by unfold outNeighboursTo_0 outNeighboursTo_1 nbB; rw [h1]; exact ⟨rfl, rfl⟩)
    rw [h1] at HG
    clear h1
    go_enter Try.func14, Try.ntmps14
    go_wp2_with (go_at_call 36; refine HG.out.mono ?_; rintro e w' ⟨rfl, rfl⟩)
    go_ret2
    exact ⟨_, by rw [H0.out.2]; exact rfl, by rw [H0.out.1]; exact own_nil _ _, Below.refl _ _⟩
  · obtain ⟨l, m, rfl, rfl, l1, l2, hm⟩ := two_rows h1
    obtain ⟨b1, b2, b3, b4⟩ := ord_best l m l1 hm
    have H0 : Hid (outNeighboursTo_0 (Rw.str l) (Rw.str m) = bestL l m ∧ outNeighboursTo_1 (Rw.str l) (Rw.str m) = bestB l m) := Lib.hid (by unfold outNeighboursTo_0 outNeighboursTo_1 nbB; rw [h1, rowOf_str, rowOf_str, if_pos rfl]; exact ⟨rfl, rfl⟩)
    rw [h1] at HG
    have HN := Lib.hid (neighboursTo_p w l m l1 l2 hm)
    have HM := Lib.hid (fun w2 v (o : OwnSS w2 w.heap.size v (ordL l m)) (h : 1 ≤ (ordL l m).length) => minFunc_p w2 w.heap.size v _ o h b1)
    have HB3 := Lib.hid b3
    have HB4 := Lib.hid b4
    obtain ⟨L, hL⟩ : ∃ L, L = ordL l m := ⟨_, rfl⟩
    rw [← hL] at HN HM HB3 b2 b1
    have HB2 := Lib.hid b2
    obtain ⟨s, hs⟩ : ∃ s, s = Rw.str l := ⟨_, rfl⟩
    obtain ⟨t, ht⟩ : ∃ t, t = Rw.str m := ⟨_, rfl⟩
    rw [← hs, ← ht] at HG H0 HN ⊢
    clear h1 hs ht hm hL b2 b3 b4
    go_enter Try.func14, Try.ntmps14
    go_wp2_with fail
    go_at_call 36
    refine HG.out.mono ?_
    rintro e w' ⟨rfl, rfl⟩
    go_wp2_with fail
    go_at_call 37
    refine HN.out.mono ?_
    rintro e w2 ⟨v, rfl, O2, B2⟩
    have HO2 := Lib.hid O2
    have HW2 := Lib.hid B2
    obtain ⟨ao, cap, rfl, _⟩ := O2.cameC
    clear O2 B2
    by_cases hL0 : L.length = 0
    · have HE : Hid (bestB l m = false) := Lib.hid (by rw [HB2.out]; exact decide_eq_false (by omega))
      have HE2 := Lib.hid (HB4.out HE.out)
      have bq : ((L.length : Int) == 0) = true := by rw [beq_iff_eq]; omega
      obtain ⟨q, hq⟩ : ∃ q, q = L.length := ⟨_, rfl⟩
      rw [← hq] at bq ⊢
      clear hL0 hq b1
      go_wp2
      go_ret2
      exact ⟨_, by rw [H0.out.2, HE.out]; exact rfl, by rw [H0.out.1, HE2.out]; exact own_nil _ _, HW2.out⟩
    · have HE : Hid (bestB l m = true) := Lib.hid (by rw [HB2.out]; exact decide_eq_true (by omega))
      have HE2 := Lib.hid (HB3.out (by omega))
      have HC := Lib.hid (HM.out w2 _ HO2.out (by omega))
      have bq : ((L.length : Int) == 0) = false := by rw [beq_eq_false_iff_ne]; omega
      obtain ⟨q, hq⟩ : ∃ q, q = L.length := ⟨_, rfl⟩
      rw [← hq] at bq HC ⊢
      clear hL0 hq b1
      go_wp2_with fail
      go_at_call 38
      refine HC.out.mono ?_
      rintro e w3 ⟨r, rfl, O3, rfl⟩
      have HO3 := Lib.hid O3
      clear O3
      go_wp2
      go_ret2
      exact ⟨_, by rw [H0.out.2, HE.out]; exact rfl, by rw [H0.out.1, ← HE2.out]; exact HO3.out, HW2.out⟩

set_option maxHeartbeats 1000000 in
theorem implCanByNeighbours_any (w : World) (a b : ByteArray) (_wa : a.size ≤ maxLen) (_wb : b.size ≤ maxLen) (hla : a.size ≤ 1048576) (hlb : b.size ≤ 1048576) :
    Calls Try.prog 12 #[.string a, .string b] w fun e w' => e = .returned (.tuple #[.bool (outCanByNeighbours_0 a b), .bool (outCanByNeighbours_1 a b)]) ∧ Below w.heap.size w w' := by
  have HR := Lib.hid (implNeighboursTo_any w a b _wa _wb hla hlb)
  rw [show outNeighboursTo_1 a b = outCanByNeighbours_0 a b from rfl] at HR
  have HG := Lib.hid (fun w2 => areOrdered_p a b w2 hla hlb)
  rw [show twoB a b = outCanByNeighbours_1 a b from rfl] at HG
  obtain ⟨o, ho⟩ : ∃ z, z = outCanByNeighbours_0 a b := ⟨_, rfl⟩
  obtain ⟨o1, ho1⟩ : ∃ z, z = outCanByNeighbours_1 a b := ⟨_, rfl⟩
  rw [← ho] at HR ⊢
  rw [← ho1] at HG ⊢
  clear _wa _wb ho ho1
  go_enter Try.func12, Try.ntmps12
  go_wp2_with fail
  go_at_call 14
  refine HR.out.mono ?_
  rintro e w2 ⟨v, rfl, O2, B2⟩
  have HB2 := Lib.hid B2
  clear O2 B2
  go_wp2_with (go_at_call 36; refine (HG.out _).mono ?_; rintro e w' ⟨rfl, rfl⟩)
  go_ret2
  exact ⟨rfl, HB2.out⟩

/-- no order at all leaves each row as it is -/
theorem idle_base (l : List Bool) (h1 : 1 ≤ l.length) : chB l l false = true ∧ chL l l false = [] := by
  obtain ⟨sts, hr, hc, _, _⟩ := ch_rep l l false rfl h1
  have hz : dif (stL l false) l = zeros l.length := (dif_same l l rfl).2 rfl
  rw [hz, rep_none (rnN l.length) (zeros l.length) [] l.length 0 (fun i _ _ => zeros_get _ _)] at hr
  rcases hb : chB l l false with _ | _
  · rw [hb] at hr; cases hr
  · rw [hb, if_pos rfl] at hr
    have h2 : [] = sts := Option.some.inj hr
    refine ⟨rfl, ?_⟩
    rw [hc, ← h2]; rfl
theorem idle_ord (n : Nat) (h1 : 1 ≤ n) : ordL (zeroL n) (zeroL n) = if idleB n then [[], idleL n] else [[]] := by
  obtain ⟨h2, h3⟩ := idle_base (zeroL n) (by rw [length_zeroL]; exact h1)
  unfold ordL
  rw [cand_two, h2, h3, decide_eq_true rfl]
  unfold idleB idleL
  rcases chB (zeroL n) (zeroL n) true with _ | _ <;> rfl
set_option maxHeartbeats 1000000 in
theorem idle_p (w : World) (n : Nat) (h1 : 1 ≤ n) (h40 : n ≤ 40) :
    Calls Try.prog 44 #[.int .i64 (n : Int)] w fun e w' => ∃ v, e = .returned v ∧ OwnSS w' w.heap.size v (if idleB n then [[], idleL n] else [[]]) ∧ Below w.heap.size w w' := by
  have HT := Lib.hid (Tp.troopOf_any n 0 h1 (by omega) (by omega) w)
  have hz := length_zeroL n
  have HX := Lib.hid (fun w2 c2 h => Tp.text_any w.heap.size (zeroL n) c2 (by rw [hz]; exact h1) (by rw [hz]; omega) w2 h)
  rw [hz] at HX
  have HN := Lib.hid (fun w2 => neighboursTo_p w2 (zeroL n) (zeroL n) (by rw [hz]; exact h1) (by rw [hz]; exact h40) rfl)
  rw [idle_ord n h1] at HN
  obtain ⟨L, hL⟩ : ∃ L, L = (if idleB n then [[], idleL n] else [[]]) := ⟨_, rfl⟩
  rw [← hL] at HN ⊢
  rw [show Rw.make n 0 = zeroL n from rfl] at HT
  obtain ⟨s, hs⟩ : ∃ s, s = Rw.str (zeroL n) := ⟨_, rfl⟩
  rw [← hs] at HX HN
  clear hs hL hz
  go_enter Try.func44, Try.ntmps44
  go_wp2_with fail
  go_at_call 67
  refine HT.out.mono ?_
  rintro e w2 ⟨rfl, T2, B2⟩
  have HC := Lib.hid (HX.out w2 _ T2)
  have HB2 := Lib.hid B2
  clear T2 B2
  go_wp2_with fail
  go_at_call 68
  refine HC.out.mono ?_
  rintro e w3 ⟨rfl, B3⟩
  have HB3 := Lib.hid (HB2.out.trans (B3.mono HB2.out.size))
  clear B3
  go_wp2_with fail
  go_at_call 37
  refine (HN.out w3).mono ?_
  rintro e w4 ⟨v, rfl, O4, B4⟩
  have HO4 := Lib.hid (O4.mono HB3.out.size)
  have HB4 := Lib.hid (HB3.out.trans (B4.mono HB3.out.size))
  clear O4 B4
  go_wp2
  go_ret
  exact ⟨_, rfl, HO4.out, HB4.out⟩

set_option maxHeartbeats 1000000 in
theorem implIdleOrders_any (w : World) (n : Int) (_wn : (Lit.int .i64 n).wf = true) :
    Calls Try.prog 21 #[.int .i64 n] w fun e w' => ∃ v, e = .returned (.tuple #[v, .bool (outIdleOrders_1 n)]) ∧ Own w' w.heap.size v (outIdleOrders_0 n) ∧ Below w.heap.size w w' := by
  have HG := Lib.hid (isOrderedCount_p n w)
  clear _wn
  rcases hb : inB n 1 40 with _ | _
  · have H0 : Hid (outIdleOrders_0 n = [] ∧ outIdleOrders_1 n = false) := Lib.hid (by unfold outIdleOrders_0 outIdleOrders_1; rw [hb]; exact ⟨rfl, rfl⟩)
    rw [hb] at HG
    clear hb
    go_enter Try.func21, Try.ntmps21
    go_wp2_with (go_at_call 42; refine HG.out.mono ?_; rintro e w' ⟨rfl, rfl⟩)
    go_ret2
    exact ⟨_, by rw [H0.out.2]; exact rfl, by rw [H0.out.1]; exact own_nil _ _, Below.refl _ _⟩
  · obtain ⟨h1, h2⟩ := inB_yes hb
    obtain ⟨N, rfl⟩ : ∃ N : Nat, n = (N : Int) := ⟨n.toNat, by omega⟩
    have HI := Lib.hid (idle_p w N (by omega) (by omega))
    rcases hi : idleB N with _ | _
    · have H0 : Hid (outIdleOrders_0 N = [] ∧ outIdleOrders_1 N = false) := Lib.hid (by unfold outIdleOrders_0 outIdleOrders_1; rw [hb, Int.toNat_natCast, hi]; exact ⟨rfl, rfl⟩)
      rw [hb] at HG
      rw [hi] at HI
      clear hb hi
      go_enter Try.func21, Try.ntmps21
      go_wp2_with fail
      go_at_call 42
      refine HG.out.mono ?_
      rintro e w' ⟨rfl, rfl⟩
      go_wp2_with fail
      go_at_call 44
      refine HI.out.mono ?_
      rintro e w2 ⟨v, rfl, O2, B2⟩
      have HB2 := Lib.hid B2
      obtain ⟨ao, cap, rfl, _⟩ := O2.cameC
      rw [show (if false = true then [[], idleL N] else [[]]).length = 1 from rfl]
      clear O2 B2
      go_wp2
      go_ret2
      exact ⟨_, by rw [H0.out.2]; exact rfl, by rw [H0.out.1]; exact own_nil _ _, HB2.out⟩
    · have H0 : Hid (outIdleOrders_0 N = idleL N ∧ outIdleOrders_1 N = true) := Lib.hid (by unfold outIdleOrders_0 outIdleOrders_1; rw [hb, Int.toNat_natCast, hi]; exact ⟨rfl, rfl⟩)
      rw [hb] at HG
      rw [hi, if_pos rfl] at HI
      clear hb hi
      go_enter Try.func21, Try.ntmps21
      go_wp2_with fail
      go_at_call 42
      refine HG.out.mono ?_
      rintro e w' ⟨rfl, rfl⟩
      go_wp2_with fail
      go_at_call 44
      refine HI.out.mono ?_
      rintro e w2 ⟨v, rfl, ⟨vs, S2⟩, B2⟩
      have HB2 := Lib.hid B2
      obtain ⟨g, cap, rfl, _, _⟩ := S2.point (by simp)
      have e1 := S2.cell 1 (by simp)
      have o1 := (S2.row 1 (by rw [S2.len]; simp)).1
      rw [show [[], idleL N].getD 1 [] = idleL N from rfl] at o1
      have HO1 := Lib.hid o1
      obtain ⟨r, hr⟩ : ∃ r, r = vs.getD 1 undef := ⟨_, rfl⟩
      rw [← hr] at e1 HO1
      obtain ⟨ar, cr, rfl⟩ := HO1.out.any
      rw [show ([[], idleL N] : List (List Int)).length = 2 from rfl]
      clear S2 B2 o1 hr
      go_wp2
      go_ret2
      exact ⟨_, by rw [H0.out.2]; exact rfl, by rw [H0.out.1]; exact HO1.out, HB2.out⟩

set_option maxHeartbeats 1000000 in
theorem implCountByNeighbours_any (w : World) (n : Int) (_wn : (Lit.int .i64 n).wf = true) :
    Calls Try.prog 19 #[.int .i64 n] w fun e w' => e = .returned (.tuple #[.int .i64 (outCountByNeighbours_0 n), .bool (outCountByNeighbours_1 n)]) ∧ Below w.heap.size w w' := by
  have HG := Lib.hid (isOrderedCount_p n w)
  clear _wn
  rcases hb : inB n 1 40 with _ | _
  · have H0 : Hid (outCountByNeighbours_0 n = 0 ∧ outCountByNeighbours_1 n = false) := Lib.hid (by unfold outCountByNeighbours_0 outCountByNeighbours_1; rw [hb]; exact ⟨rfl, rfl⟩)
    rw [hb] at HG
    clear hb
    go_enter Try.func19, Try.ntmps19
    go_wp2_with (go_at_call 42; refine HG.out.mono ?_; rintro e w' ⟨rfl, rfl⟩)
    go_ret2
    exact ⟨by rw [H0.out.1, H0.out.2]; exact rfl, Below.refl _ _⟩
  · obtain ⟨h1, h2⟩ := inB_yes hb
    obtain ⟨N, rfl⟩ : ∃ N : Nat, n = (N : Int) := ⟨n.toNat, by omega⟩
    have HI := Lib.hid (idle_p w N (by omega) (by omega))
    have HR := Lib.hid (Tp.countRows_any N (by omega) w)
    have hp := p2w_le N (by omega)
    have HP : Hid (p2w N = 2 * p2w (N - 1)) := Lib.hid (by
      unfold p2w
      obtain ⟨M, rfl⟩ : ∃ M, N = M + 1 := ⟨N - 1, by omega⟩
      rw [Nat.add_sub_cancel, Nat.pow_succ]; omega)
    rw [hb] at HG
    rcases hi : idleB N with _ | _
    · have H0 : Hid (outCountByNeighbours_0 N = (p2w N : Nat) ∧ outCountByNeighbours_1 N = true) := Lib.hid (by unfold outCountByNeighbours_0 outCountByNeighbours_1; rw [hb, Int.toNat_natCast, hi]; exact ⟨rfl, rfl⟩)
      rw [hi] at HI
      obtain ⟨P, hP⟩ : ∃ P, P = p2w N := ⟨_, rfl⟩
      rw [← hP] at HR hp H0
      have ed : (P : Int) / 1 = (P : Int) := Int.ediv_one _
      clear hb hi hP HP
      go_enter Try.func19, Try.ntmps19
      go_wp2_with fail
      go_at_call 42
      refine HG.out.mono ?_
      rintro e w' ⟨rfl, rfl⟩
      go_wp2_with fail
      go_at_call 43
      refine HR.out.mono ?_
      rintro e w' ⟨rfl, rfl⟩
      go_wp2_with fail
      go_at_call 44
      refine HI.out.mono ?_
      rintro e w2 ⟨v, rfl, O2, B2⟩
      have HB2 := Lib.hid B2
      obtain ⟨ao, cap, rfl, _⟩ := O2.cameC
      rw [show (if false = true then [[], idleL N] else [[]]).length = 1 from rfl]
      clear O2 B2
      go_wp2
      go_ret2
      exact ⟨by rw [H0.out.1, H0.out.2]; simp, HB2.out⟩
    · have H0 : Hid (outCountByNeighbours_0 N = (p2w (N - 1) : Nat) ∧ outCountByNeighbours_1 N = true) := Lib.hid (by unfold outCountByNeighbours_0 outCountByNeighbours_1; rw [hb, Int.toNat_natCast, hi]; exact ⟨rfl, rfl⟩)
      rw [hi, if_pos rfl] at HI
      obtain ⟨Q, hQ⟩ : ∃ P, P = p2w (N - 1) := ⟨_, rfl⟩
      rw [HP.out, ← hQ] at HR hp
      rw [← hQ] at H0
      have ed : ((2 * Q : Nat) : Int) / 2 = (Q : Int) := by omega
      obtain ⟨P, hP⟩ : ∃ P, P = 2 * Q := ⟨_, rfl⟩
      rw [← hP] at HR hp ed
      clear hb hi hQ hP HP
      go_enter Try.func19, Try.ntmps19
      go_wp2_with fail
      go_at_call 42
      refine HG.out.mono ?_
      rintro e w' ⟨rfl, rfl⟩
      go_wp2_with fail
      go_at_call 43
      refine HR.out.mono ?_
      rintro e w' ⟨rfl, rfl⟩
      go_wp2_with fail
      go_at_call 44
      refine HI.out.mono ?_
      rintro e w2 ⟨v, rfl, O2, B2⟩
      have HB2 := Lib.hid B2
      obtain ⟨ao, cap, rfl, _⟩ := O2.cameC
      rw [show ([[], idleL N] : List (List Int)).length = 2 from rfl]
      clear O2 B2
      go_wp2
      go_ret2
      exact ⟨by rw [H0.out.1, H0.out.2, ← ed]; exact rfl, HB2.out⟩

end Go.Proofs.Ytkdpjimbhpclaab
