/- Chapter 3, the program's lists: rectangles, RectanglesOf, TwoSquares, SquareTriangles. -/
import Derived.Test.YtjdbmkphakpmbaaFq
import Derived.Test.YtjdbmkphakpmbaaFoC
namespace Go.Proofs.Ytjdbmkphakpmbaa
open Go.ChangeShapes Go.WideShapes Go.ChangeAt Go.RowKit
open Fo

set_option maxRecDepth 20000 in
set_option maxHeartbeats 1000000 in
theorem rectangles_any (w : World) (m : Nat) (h2 : m ≤ 1000000) :
    Calls Try.prog 62 #[.int .i64 m] w fun e w' => ∃ v, e = .returned v ∧ OwnSS w' w.heap.size v (rectL m) ∧ Below w.heap.size w w' := by
  go_enter Try.func62, Try.ntmps62
  go_wp2
  go_loopw [3, 4] (fun v r wr => ∃ k : Nat, k ≤ 1000 ∧ r = .int .i64 ((k : Int) + 1) ∧ Hid (k * k ≤ m) ∧ Hid (OwnSS wr w.heap.size v (collTo (rectP m) (rectG m) k)) ∧ Hid (Below w.heap.size w wr)) (fun _ r _ => 1002 - (intOf r).toNat)
  case atStart => exact ⟨0, by omega, rfl, Lib.hid (Nat.zero_le _), ownSS_nil _ _, Below.refl _ _⟩
  case round =>
    obtain ⟨k, hk, rfl, HK, HO, HB⟩ := hrel
    have hb := sq_bd (show k + 1 ≤ 1001 by omega)
    obtain ⟨p, hp⟩ : ∃ p, p = (k + 1) * (k + 1) := ⟨_, rfl⟩
    have e1 : ((k : Int) + 1) * ((k : Int) + 1) = (p : Int) := by rw [hp]; simp
    rw [← hp] at hb
    have HP := Lib.hid hp
    clear hp
    have hz := HB.out.size
    by_cases hlt : p ≤ m
    · have hk2 : k + 1 ≤ 1000 := by
        rcases Nat.lt_or_ge 1000 (k + 1) with h | h
        · have := sq_bd (show 1001 ≤ k + 1 from h); rw [← HP.out] at this; omega
        · exact h
      have HK2 : Hid ((k + 1) * (k + 1) ≤ m) := Lib.hid (by rw [← HP.out]; exact hlt)
      have hk0 : ¬ (k : Int) + 1 = 0 := by omega
      obtain ⟨t, ht⟩ : ∃ t, t = m % (k + 1) := ⟨_, rfl⟩
      have et : (m : Int) % ((k : Int) + 1) = (t : Int) := by rw [ht]; simp
      obtain ⟨d, hd⟩ : ∃ d, d = m / (k + 1) := ⟨_, rfl⟩
      have ed : (m : Int) / ((k : Int) + 1) = (d : Int) := by rw [hd]; simp
      have hd2 : d ≤ m := by rw [hd]; exact Nat.div_le_self _ _
      rcases hr : decide (m % (k + 1) = 0) with _ | _
      · have HS := Lib.hid (collTo_no (p := rectP m) (g := rectG m) (k := k) (by unfold rectP; rw [hr, Bool.and_false]))
        have hr2 := of_decide_eq_false hr
        rw [← ht] at hr2
        have hr3 : ((t : Int) == 0) = false := by rw [beq_eq_false_iff_ne]; omega
        clear hr hr2 ht hd
        go_wp2
        go_roundw
        case rel => exact ⟨k + 1, hk2, by go_num, HK2, Lib.hid (by rw [HS.out]; exact HO.out), HB⟩
        case measure => simp [intOf]; omega
      · have HS := Lib.hid (collTo_yes (p := rectP m) (g := rectG m) (k := k) (by unfold rectP; rw [hr, Bool.and_true]; exact decide_eq_true HK2.out))
        have hr2 := of_decide_eq_true hr
        obtain rfl : t = 0 := by rw [ht]; exact hr2
        have hbl : (collTo (rectP m) (rectG m) k).length ≤ 1000000000 := by have := collTo_len (rectP m) (rectG m) k; omega
        have HQ : Hid (rectG m (k + 1) = [(k : Int) + 1, (d : Int)]) := Lib.hid (by unfold rectG; rw [← hd]; simp)
        clear hr hr2 ht hd
        go_wp2_with (at_builtin; refine wpList_appRow rfl _ _ rfl _ wr _ _ _ _ _ _ rfl rfl (by simp) HO.out ((Below.refl _ _).alloc (Nat.le_refl _) _) (own_two wr _ _) hz hbl ?_; intro v' w5 hO hB5)
        have HO5 : Hid (OwnSS w5 w.heap.size v' (collTo (rectP m) (rectG m) (k + 1))) := Lib.hid (by rw [HS.out, HQ.out]; exact hO)
        have HB5 : Hid (Below w.heap.size w w5) := Lib.hid ((HB.out.alloc hz _).trans hB5)
        clear hO hB5
        go_wp2
        go_roundw
        case rel => exact ⟨k + 1, hk2, by go_num, HK2, HO5, HB5⟩
        case measure => simp [intOf]; omega
    · have HO3 : Hid (OwnSS wr w.heap.size _ (rectL m)) := Lib.hid (by
        unfold rectL
        rw [coll_end (k := k) (Nat.le_trans (le_sq k) HK.out) fun i hi => by unfold rectP; rw [decide_eq_false (sq_big (by rw [← HP.out]; omega) hi), Bool.false_and]]
        exact HO.out)
      clear HO
      go_wp2
      go_ret
      exact ⟨_, rfl, HO3.out, HB.out⟩

set_option maxRecDepth 20000 in
set_option maxHeartbeats 1000000 in
theorem implRectanglesOf_any (w : World) (n : Int) (_wn : (Lit.int .i64 n).wf = true) :
    Calls Try.prog 9 #[.int .i64 n] w fun e w' => ∃ v0, e = .returned (.tuple #[v0, .bool (outRectanglesOf_1 n)]) ∧ OwnSS w' w.heap.size v0 (outRectanglesOf_0 n) ∧ Below w.heap.size w w' := by
  have HH := Lib.hid (areSoldiers_any n w)
  clear _wn
  rcases hb : soldB n with _ | _
  · have H0 : Hid (outRectanglesOf_0 n = [] ∧ outRectanglesOf_1 n = false) := Lib.hid (by unfold outRectanglesOf_0 outRectanglesOf_1; rw [hb]; exact ⟨rfl, rfl⟩)
    rw [show inB n 1 1000000 = false from hb] at HH
    clear hb
    go_enter Try.func9, Try.ntmps9
    go_wp2_with (go_at_call 61; refine HH.out.mono ?_; rintro e w' ⟨rfl, rfl⟩)
    go_ret2
    exact ⟨_, by rw [H0.out.2]; exact rfl, by rw [H0.out.1]; exact ownSS_nil _ _, Below.refl _ _⟩
  · obtain ⟨m, rfl, h1, h2⟩ := sold_nat hb
    have H0 : Hid (outRectanglesOf_0 m = rectL m ∧ outRectanglesOf_1 m = true) := Lib.hid (by unfold outRectanglesOf_0 outRectanglesOf_1; rw [hb]; exact ⟨rfl, rfl⟩)
    rw [show inB m 1 1000000 = true from hb] at HH
    have HR := Lib.hid (rectangles_any w m h2)
    clear hb
    go_enter Try.func9, Try.ntmps9
    go_wp2_with fail
    go_at_call 61
    refine HH.out.mono ?_
    rintro e w' ⟨rfl, rfl⟩
    go_wp2_with fail
    go_at_call 62
    refine HR.out.mono ?_
    rintro e w2 ⟨v, rfl, o2, b2⟩
    have O2 := Lib.hid o2
    have B2 := Lib.hid b2
    clear o2 b2
    go_wp2
    go_ret2
    exact ⟨_, by rw [H0.out.2]; exact rfl, by rw [H0.out.1]; exact O2.out, B2.out⟩

set_option maxRecDepth 20000 in
set_option maxHeartbeats 1000000 in
theorem implTwoSquares_any (w : World) (n : Int) (_wn : (Lit.int .i64 n).wf = true) :
    Calls Try.prog 17 #[.int .i64 n] w fun e w' => ∃ v0, e = .returned (.tuple #[v0, .bool (outTwoSquares_1 n)]) ∧ OwnSS w' w.heap.size v0 (outTwoSquares_0 n) ∧ Below w.heap.size w w' := by
  have HH := Lib.hid (areSoldiers_any n w)
  clear _wn
  rcases hb : soldB n with _ | _
  · have H0 : Hid (outTwoSquares_0 n = [] ∧ outTwoSquares_1 n = false) := Lib.hid (by unfold outTwoSquares_0 outTwoSquares_1; rw [hb]; exact ⟨rfl, rfl⟩)
    rw [show inB n 1 1000000 = false from hb] at HH
    clear hb
    go_enter Try.func17, Try.ntmps17
    go_wp2_with (go_at_call 61; refine HH.out.mono ?_; rintro e w' ⟨rfl, rfl⟩)
    go_ret2
    exact ⟨_, by rw [H0.out.2]; exact rfl, by rw [H0.out.1]; exact ownSS_nil _ _, Below.refl _ _⟩
  · obtain ⟨m, rfl, h1, h2⟩ := sold_nat hb
    have H0 : Hid (outTwoSquares_0 m = twoL m ∧ outTwoSquares_1 m = true) := Lib.hid (by unfold outTwoSquares_0 outTwoSquares_1; rw [hb]; exact ⟨rfl, rfl⟩)
    rw [show inB m 1 1000000 = true from hb] at HH
    clear hb
    go_enter Try.func17, Try.ntmps17
    go_wp2_with (go_at_call 61; refine HH.out.mono ?_; rintro e w' ⟨rfl, rfl⟩)
    go_loopw [4, 5] (fun v r wr => ∃ k : Nat, k ≤ 1000 ∧ r = .int .i64 ((k : Int) + 1) ∧ Hid (k * k ≤ m) ∧ Hid (OwnSS wr w.heap.size v (collTo (twoP m) (twoG m) k)) ∧ Hid (Below w.heap.size w wr)) (fun _ r _ => 1002 - (intOf r).toNat)
    case atStart => exact ⟨0, by omega, rfl, Lib.hid (Nat.zero_le _), ownSS_nil _ _, Below.refl _ _⟩
    case round =>
      obtain ⟨k, hk, rfl, HK, HO, HB⟩ := hrel
      have hb := sq_bd (show k + 1 ≤ 1001 by omega)
      obtain ⟨p, hp⟩ : ∃ p, p = (k + 1) * (k + 1) := ⟨_, rfl⟩
      rw [← hp] at hb
      have HS : Hid (∀ w2 : World, Calls Try.prog 66 #[.int .i64 ((k : Int) + 1)] w2 fun e w' => e = .returned (.int .i64 (p : Int)) ∧ w2 = w') := Lib.hid (fun w2 => by
        have := squareNat_any (k + 1) p hp.symm (by omega) w2
        rw [show (((k + 1 : Nat) : Int)) = (k : Int) + 1 by omega] at this
        exact this)
      have HP := Lib.hid hp
      have HP2 : Hid (2 * (k + 1) * (k + 1) = 2 * p) := Lib.hid (by rw [hp, Nat.mul_assoc])
      clear hp
      have hz := HB.out.size
      by_cases hlt : 2 * p ≤ m
      · have hk2 : k + 1 ≤ 1000 := by
          rcases Nat.lt_or_ge 1000 (k + 1) with h | h
          · have := sq_bd (show 1001 ≤ k + 1 from h); rw [← HP.out] at this; omega
          · exact h
        have HK2 : Hid ((k + 1) * (k + 1) ≤ m) := Lib.hid (by rw [← HP.out]; omega)
        have hle : 2 * (p : Int) ≤ (m : Int) := by omega
        obtain ⟨d, hd⟩ : ∃ d, d = m - p := ⟨_, rfl⟩
        have e3 : (m : Int) - (p : Int) = (d : Int) := by omega
        have hrb := root_bd (show d ≤ 1000000 by omega)
        have hrs := (root_spec d).1
        have HR := Lib.hid (fun w2 => greatestSq_any d (by omega) w2)
        obtain ⟨b, hbb⟩ : ∃ b, b = root d := ⟨_, rfl⟩
        rw [← hbb] at HR hrb hrs
        obtain ⟨s, hs⟩ : ∃ s, s = b * b := ⟨_, rfl⟩
        rw [← hs] at hrs HR
        have HG : Hid (twoG m (k + 1) = [(k : Int) + 1, (b : Int)]) := Lib.hid (by unfold twoG; rw [← HP.out, ← hd, ← hbb]; simp)
        have HT : Hid (twoP m (k + 1) = decide (p + s = m)) := Lib.hid (by unfold twoP; rw [HP2.out, ← HP.out, ← hd, ← hbb, ← hs, decide_eq_true hlt, Bool.true_and])
        obtain ⟨l, hl⟩ : ∃ l : Int, l = (d : Int) - (s : Int) := ⟨_, rfl⟩
        rw [← hl] at HR
        have HL := Lib.hid hl
        have HD := Lib.hid hd
        by_cases hq : p + s = m
        · have HSS := Lib.hid (collTo_yes (p := twoP m) (g := twoG m) (k := k) (by rw [HT.out, decide_eq_true hq]))
          have hbl : (collTo (twoP m) (twoG m) k).length ≤ 1000000000 := by have := collTo_len (twoP m) (twoG m) k; omega
          have hl0 : l = 0 := by omega
          subst hl0
          clear hq hbb hs hl hd
          go_wp2_with fail
          go_at_call 66
          refine (HS.out _).mono ?_
          rintro e w' ⟨rfl, rfl⟩
          go_wp2_with fail
          go_at_call 66
          refine (HS.out _).mono ?_
          rintro e w' ⟨rfl, rfl⟩
          go_wp2_with fail
          go_at_call 65
          refine (HR.out _).mono ?_
          rintro e w' ⟨rfl, rfl⟩
          clear e3
          go_wp2_with (at_builtin; refine wpList_appRow rfl _ _ rfl _ wr _ _ _ _ _ _ rfl rfl (by simp) HO.out ((Below.refl _ _).alloc (Nat.le_refl _) _) (own_two wr _ _) hz hbl ?_; intro v' w5 hO hB5)
          have HO5 : Hid (OwnSS w5 w.heap.size v' (collTo (twoP m) (twoG m) (k + 1))) := Lib.hid (by rw [HSS.out, HG.out]; exact hO)
          have HB5 : Hid (Below w.heap.size w w5) := Lib.hid ((HB.out.alloc hz _).trans hB5)
          clear hO hB5
          go_wp2
          go_roundw
          case rel => exact ⟨k + 1, hk2, by go_num, HK2, HO5, HB5⟩
          case measure => simp [intOf]; omega
        · have HSS := Lib.hid (collTo_no (p := twoP m) (g := twoG m) (k := k) (by rw [HT.out, decide_eq_false hq]))
          have hl0 : (l == 0) = false := by rw [beq_eq_false_iff_ne]; omega
          clear hq hbb hs hl hd
          go_wp2_with fail
          go_at_call 66
          refine (HS.out _).mono ?_
          rintro e w' ⟨rfl, rfl⟩
          go_wp2_with fail
          go_at_call 66
          refine (HS.out _).mono ?_
          rintro e w' ⟨rfl, rfl⟩
          go_wp2_with fail
          go_at_call 65
          refine (HR.out _).mono ?_
          rintro e w' ⟨rfl, rfl⟩
          clear e3
          go_wp2
          go_roundw
          case rel => exact ⟨k + 1, hk2, by go_num, HK2, Lib.hid (by rw [HSS.out]; exact HO.out), HB⟩
          case measure => simp [intOf]; omega
      · have HO3 : Hid (OwnSS wr w.heap.size _ (twoL m)) := Lib.hid (by
          unfold twoL
          rw [coll_end (k := k) (Nat.le_trans (le_sq k) HK.out) fun i hi => by
            unfold twoP
            have := Nat.mul_self_le_mul_self (show k + 1 ≤ i from hi)
            rw [← HP.out] at this
            rw [decide_eq_false (by rw [Nat.mul_assoc]; omega), Bool.false_and]]
          exact HO.out)
        have hle : ¬ 2 * (p : Int) ≤ (m : Int) := by omega
        clear HO
        go_wp2_with fail
        go_at_call 66
        refine (HS.out _).mono ?_
        rintro e w' ⟨rfl, rfl⟩
        go_wp2
        go_ret2
        exact ⟨_, by rw [H0.out.2]; exact rfl, by rw [H0.out.1]; exact HO3.out, HB.out⟩

namespace Fo
def triN (r : Nat) : Nat := r * (r + 1) / 2
theorem triN_two (r : Nat) : 2 * triN r = r * (r + 1) := by unfold triN; have := tri_even r; omega
theorem triN_succ (r : Nat) : triN (r + 1) = triN r + (r + 1) := by
  have h1 := triN_two r
  have h2 := triN_two (r + 1)
  have h3 := tri_succ r
  rw [show r + 1 + 1 = r + 2 from rfl] at h2
  omega
theorem triN_lt : ∀ {a b : Nat}, a < b → triN a < triN b
  | a, 0, h => absurd h (Nat.not_lt_zero _)
  | a, b + 1, h => by
    have h2 := triN_succ b
    by_cases e : a = b
    · subst e; omega
    · have := triN_lt (show a < b by omega); omega
theorem le_triN : ∀ r, r ≤ triN r
  | 0 => Nat.zero_le _
  | r + 1 => by have := triN_succ r; have := le_triN r; omega
def triSqP (m r : Nat) : Bool := decide (triN r ≤ m) && decide (root (triN r) * root (triN r) = triN r)
def triSqG (r : Nat) : Int := (triN r : Nat)
theorem coll_sorted {p : Nat → Bool} {g : Nat → Int} (hg : ∀ a b, a < b → g a < g b) : ∀ k, (collTo p g k).Pairwise (· < ·)
  | 0 => List.Pairwise.nil
  | k + 1 => by
    rw [collTo]
    split
    · rw [List.pairwise_append]
      refine ⟨coll_sorted hg k, List.pairwise_singleton _ _, fun a ha b hb => ?_⟩
      simp at hb
      obtain ⟨i, _, h2, _, rfl⟩ := collTo_mem k a ha
      rw [hb]; exact hg i (k + 1) (by omega)
    · exact coll_sorted hg k
theorem coll_has {p : Nat → Bool} {g : Nat → Int} : ∀ {k i : Nat}, 1 ≤ i → i ≤ k → p i = true → g i ∈ collTo p g k
  | 0, i, h1, h2, _ => absurd h2 (by omega)
  | k + 1, i, h1, h2, h3 => by
    rw [collTo]
    by_cases e : i = k + 1
    · subst e; rw [if_pos h3]; simp
    · have := coll_has (g := g) h1 (show i ≤ k by omega) h3
      split
      · exact List.mem_append_left _ this
      · exact this
theorem sorted_ext : ∀ {l1 l2 : List Int}, l1.Pairwise (· < ·) → l2.Pairwise (· < ·) → (∀ x, x ∈ l1 ↔ x ∈ l2) → l1 = l2
  | [], [], _, _, _ => rfl
  | [], b :: t, _, _, h => absurd ((h b).2 (by simp)) (by simp)
  | a :: t, [], _, _, h => absurd ((h a).1 (by simp)) (by simp)
  | a :: t, b :: u, h1, h2, h => by
    rw [List.pairwise_cons] at h1 h2
    have e : a = b := by
      rcases List.mem_cons.1 ((h a).1 (by simp)) with e | e
      · exact e
      · rcases List.mem_cons.1 ((h b).2 (by simp)) with f | f
        · exact f.symm
        · have := h2.1 a e; have := h1.1 b f; omega
    subst e
    congr 1
    refine sorted_ext h1.2 h2.2 fun x => ⟨fun hx => ?_, fun hx => ?_⟩
    · rcases List.mem_cons.1 ((h x).1 (List.mem_cons_of_mem _ hx)) with e | e
      · have := h1.1 x hx; omega
      · exact e
    · rcases List.mem_cons.1 ((h x).2 (List.mem_cons_of_mem _ hx)) with e | e
      · have := h2.1 x hx; omega
      · exact e
theorem sqTri_same (m : Nat) : collTo (triSqP m) triSqG m = sqTriL m := by
  unfold sqTriL
  refine sorted_ext (coll_sorted (fun a b h => by unfold triSqG; have := triN_lt h; omega) _) (coll_sorted (fun a b h => by
    unfold sqTriG
    have h1 := Nat.mul_self_lt_mul_self h
    omega) _) fun x => ⟨fun hx => ?_, fun hx => ?_⟩
  · obtain ⟨r, h1, h2, h3, rfl⟩ := collTo_mem _ x hx
    unfold triSqP at h3
    rw [Bool.and_eq_true, decide_eq_true_eq, decide_eq_true_eq] at h3
    obtain ⟨h4, h5⟩ := h3
    have e : triSqG r = sqTriG (root (triN r)) := by unfold triSqG sqTriG; rw [h5]
    have hr := le_triN r
    have h6 : 1 ≤ root (triN r) := by
      rcases Nat.eq_zero_or_pos (root (triN r)) with h | h
      · rw [h] at h5; omega
      · exact h
    rw [e]
    refine coll_has h6 (by have := le_sq (root (triN r)); omega) ?_
    unfold sqTriP
    rw [h5, decide_eq_true h4, Bool.true_and, decide_eq_true_eq, triLeft_zero]
    have h7 : r = tri (triN r) := tri_unique (by rw [triN_two]; exact Nat.le_refl _) (by rw [triN_two]; have := tri_succ r; omega)
    rw [← h7, triN_two]
  · obtain ⟨s, h1, h2, h3, rfl⟩ := collTo_mem _ x hx
    unfold sqTriP at h3
    rw [Bool.and_eq_true, decide_eq_true_eq, decide_eq_true_eq, triLeft_zero] at h3
    obtain ⟨h4, h5⟩ := h3
    have h6 : triN (tri (s * s)) = s * s := by unfold triN; omega
    have e : sqTriG s = triSqG (tri (s * s)) := by unfold triSqG sqTriG; rw [h6]
    have h7 := le_sq s
    have h8 : 1 ≤ tri (s * s) := by
      rcases Nat.eq_zero_or_pos (tri (s * s)) with h | h
      · rw [h] at h6; unfold triN at h6; simp at h6; rw [← h6] at h7; omega
      · exact h
    rw [e]
    refine coll_has h8 (by have := le_triN (tri (s * s)); omega) ?_
    unfold triSqP
    rw [h6, decide_eq_true h4, Bool.true_and, decide_eq_true_eq]
    rw [← root_unique (n := s * s) (r := s) (Nat.le_refl _) (by rw [sq_succ]; omega)]
end Fo
set_option maxRecDepth 20000 in
set_option maxHeartbeats 1000000 in
theorem fillSquare_any (n : Nat) (hn : n ≤ 1000000) (w : World) :
    Calls Try.prog 70 #[.int .i64 n] w fun e w' => e = .returned (.bool (decide (root n * root n = n))) ∧ w = w' := by
  have HR := greatestSq_any n hn w
  have hrs := (root_spec n).1
  obtain ⟨r, hr⟩ : ∃ r, r = root n := ⟨_, rfl⟩
  rw [← hr] at HR hrs ⊢
  obtain ⟨s, hs⟩ : ∃ s, s = r * r := ⟨_, rfl⟩
  rw [← hs] at HR hrs ⊢
  obtain ⟨l, hl⟩ : ∃ l : Int, l = (n : Int) - (s : Int) := ⟨_, rfl⟩
  rw [← hl] at HR
  have HR := Lib.hid HR
  by_cases h : s = n
  · have HE : Hid (decide (s = n) = true) := Lib.hid (decide_eq_true h)
    have hl0 : l = 0 := by omega
    subst hl0
    clear hl hr hs h
    go_enter Try.func70, Try.ntmps70
    go_wp2_with (go_at_call 65; refine HR.out.mono ?_; rintro e w' ⟨rfl, rfl⟩)
    go_ret
    exact ⟨ret_bool (by rw [HE.out]), rfl⟩
  · have HE : Hid (decide (s = n) = false) := Lib.hid (decide_eq_false h)
    have hl0 : (l == 0) = false := by rw [beq_eq_false_iff_ne]; omega
    clear hl hr hs h
    go_enter Try.func70, Try.ntmps70
    go_wp2_with (go_at_call 65; refine HR.out.mono ?_; rintro e w' ⟨rfl, rfl⟩)
    go_ret
    exact ⟨ret_bool (by rw [HE.out]), rfl⟩
set_option maxRecDepth 20000 in
set_option maxHeartbeats 1000000 in
theorem implSquareTriangles_any (w : World) (n : Int) (_wn : (Lit.int .i64 n).wf = true) :
    Calls Try.prog 19 #[.int .i64 n] w fun e w' => ∃ v0, e = .returned (.tuple #[v0, .bool (outSquareTriangles_1 n)]) ∧ Own w' w.heap.size v0 (outSquareTriangles_0 n) ∧ Below w.heap.size w w' := by
  have HH := Lib.hid (areSoldiers_any n w)
  clear _wn
  rcases hb : soldB n with _ | _
  · have H0 : Hid (outSquareTriangles_0 n = [] ∧ outSquareTriangles_1 n = false) := Lib.hid (by unfold outSquareTriangles_0 outSquareTriangles_1; rw [hb]; exact ⟨rfl, rfl⟩)
    rw [show inB n 1 1000000 = false from hb] at HH
    clear hb
    go_enter Try.func19, Try.ntmps19
    go_wp2_with (go_at_call 61; refine HH.out.mono ?_; rintro e w' ⟨rfl, rfl⟩)
    go_ret2
    exact ⟨_, by rw [H0.out.2]; exact rfl, by rw [H0.out.1]; exact own_nil _ _, Below.refl _ _⟩
  · obtain ⟨m, rfl, h1, h2⟩ := sold_nat hb
    have H0 : Hid (outSquareTriangles_0 m = sqTriL m ∧ outSquareTriangles_1 m = true) := Lib.hid (by unfold outSquareTriangles_0 outSquareTriangles_1; rw [hb]; exact ⟨rfl, rfl⟩)
    rw [show inB m 1 1000000 = true from hb] at HH
    clear hb
    go_enter Try.func19, Try.ntmps19
    go_wp2_with (go_at_call 61; refine HH.out.mono ?_; rintro e w' ⟨rfl, rfl⟩)
    go_loopw [4, 5] (fun v r wr => ∃ k : Nat, k ≤ 2000 ∧ r = .int .i64 ((k : Int) + 1) ∧ Hid (triN k ≤ m) ∧ Hid (Own wr w.heap.size v (collTo (triSqP m) triSqG k)) ∧ Hid (Below w.heap.size w wr)) (fun _ r _ => 2002 - (intOf r).toNat)
    case atStart => exact ⟨0, by omega, rfl, Lib.hid (Nat.zero_le _), own_nil _ _, Below.refl _ _⟩
    case round =>
      obtain ⟨k, hk, rfl, HK, HO, HB⟩ := hrel
      have hb := tri_prod_bd (show k + 1 ≤ 2001 by omega)
      have h2t := triN_two (k + 1)
      obtain ⟨q, hq⟩ : ∃ q, q = triN (k + 1) := ⟨_, rfl⟩
      have hqb : q ≤ 3000000 := by omega
      have HS : Hid (∀ w2 : World, Calls Try.prog 68 #[.int .i64 ((k : Int) + 1)] w2 fun e w' => e = .returned (.int .i64 (q : Int)) ∧ w2 = w') := Lib.hid (fun w2 => by
        have := triangleSize_any (k + 1) _ rfl (by omega) (by omega) w2
        rw [show (((k + 1 : Nat) : Int)) = (k : Int) + 1 by omega, show (k + 1) * (k + 1 + 1) / 2 = q from hq.symm] at this
        exact this)
      have HQ := Lib.hid hq
      clear hq h2t hb
      have hz := HB.out.size
      by_cases hlt : q ≤ m
      · have hk2 : k + 1 ≤ 2000 := by
          rcases Nat.lt_or_ge 2000 (k + 1) with h | h
          · have := triN_two (k + 1); rw [← HQ.out] at this
            have := tri_prod_bd (show 2001 ≤ k + 1 from h); omega
          · exact h
        have HK2 : Hid (triN (k + 1) ≤ m) := Lib.hid (by rw [← HQ.out]; exact hlt)
        have HF := Lib.hid (fun w2 => fillSquare_any q (by omega) w2)
        have HT : Hid (triSqP m (k + 1) = decide (root q * root q = q)) := Lib.hid (by unfold triSqP; rw [← HQ.out, decide_eq_true hlt, Bool.true_and])
        have HG : Hid (triSqG (k + 1) = (q : Int)) := Lib.hid (by unfold triSqG; rw [← HQ.out])
        by_cases hsq : root q * root q = q
        · rw [decide_eq_true hsq] at HT HF
          have HSS := Lib.hid (collTo_yes (p := triSqP m) (g := triSqG) (k := k) HT.out)
          have hbl : (collTo (triSqP m) triSqG k).length ≤ 1000000000 := by have := collTo_len (triSqP m) triSqG k; omega
          clear hsq
          go_wp2_with fail
          go_at_call 68
          refine (HS.out _).mono ?_
          rintro e w' ⟨rfl, rfl⟩
          go_wp2_with fail
          go_at_call 68
          refine (HS.out _).mono ?_
          rintro e w' ⟨rfl, rfl⟩
          go_wp2_with fail
          go_at_call 70
          refine (HF.out _).mono ?_
          rintro e w' ⟨rfl, rfl⟩
          go_wp2_with fail
          go_at_call 68
          refine (HS.out _).mono ?_
          rintro e w' ⟨rfl, rfl⟩
          go_wp2_with (at_builtin; refine wpList_app rfl _ _ rfl _ _ _ _ _ rfl rfl HO.out hz hbl ?_; intro v' w5 hO hB5)
          have HO5 : Hid (Own w5 w.heap.size v' (collTo (triSqP m) triSqG (k + 1))) := Lib.hid (by rw [HSS.out, HG.out]; exact hO)
          have HB5 : Hid (Below w.heap.size w w5) := Lib.hid (HB.out.trans hB5)
          clear hO hB5
          go_wp2
          go_roundw
          case rel => exact ⟨k + 1, hk2, by go_num, HK2, HO5, HB5⟩
          case measure => simp [intOf]; omega
        · rw [decide_eq_false hsq] at HT HF
          have HSS := Lib.hid (collTo_no (p := triSqP m) (g := triSqG) (k := k) HT.out)
          clear hsq
          go_wp2_with fail
          go_at_call 68
          refine (HS.out _).mono ?_
          rintro e w' ⟨rfl, rfl⟩
          go_wp2_with fail
          go_at_call 68
          refine (HS.out _).mono ?_
          rintro e w' ⟨rfl, rfl⟩
          go_wp2_with fail
          go_at_call 70
          refine (HF.out _).mono ?_
          rintro e w' ⟨rfl, rfl⟩
          go_wp2
          go_roundw
          case rel => exact ⟨k + 1, hk2, by go_num, HK2, Lib.hid (by rw [HSS.out]; exact HO.out), HB⟩
          case measure => simp [intOf]; omega
      · have HO3 : Hid (Own wr w.heap.size _ (sqTriL m)) := Lib.hid (by
          rw [← sqTri_same m, coll_end (k := k) (Nat.le_trans (le_triN k) HK.out) fun i hi => by
            unfold triSqP
            have : triN (k + 1) ≤ triN i := by
              rcases Nat.lt_or_ge (k + 1) i with h | h
              · exact Nat.le_of_lt (triN_lt h)
              · rw [show i = k + 1 by omega]; exact Nat.le_refl _
            rw [← HQ.out] at this
            rw [decide_eq_false (by omega), Bool.false_and]]
          exact HO.out)
        clear HO
        go_wp2_with fail
        go_at_call 68
        refine (HS.out _).mono ?_
        rintro e w' ⟨rfl, rfl⟩
        go_wp2
        go_ret2
        exact ⟨_, by rw [H0.out.2]; exact rfl, by rw [H0.out.1]; exact HO3.out, HB.out⟩

end Go.Proofs.Ytjdbmkphakpmbaa
