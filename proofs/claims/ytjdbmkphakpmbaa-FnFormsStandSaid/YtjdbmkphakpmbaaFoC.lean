/- Chapter 3, lists that are collected: the model's RectanglesOf, HollowsOf, TwoSquares, SquareTriangles. -/
import Derived.Test.YtjdbmkphakpmbaaFoR
import Derived.Test.YtjdbmkphakpmbaaOwnSS
namespace Go.Proofs.Ytjdbmkphakpmbaa
open Go.ChangeShapes Go.WideShapes Go.ChangeAt Go.RowKit
open Fo

namespace Fo
def rectP (n r : Nat) : Bool := decide (r * r ≤ n) && decide (n % r = 0)
def rectG (n r : Nat) : List Int := [(r : Int), ((n / r : Nat) : Int)]
def rectL (n : Nat) : List (List Int) := collTo (rectP n) (rectG n) n
def hollowP (n t : Nat) : Bool := decide (n % 4 = 0) && (decide (n / 4 % t = 0) && decide (2 * t < n / 4 / t + t))
def hollowG (n t : Nat) : List Int := [((n / 4 / t + t : Nat) : Int), (t : Int)]
def hollowL (n : Nat) : List (List Int) := downTo (hollowP n) (hollowG n) (n / 4)
def twoP (n a : Nat) : Bool := decide (2 * a * a ≤ n) && decide (a * a + root (n - a * a) * root (n - a * a) = n)
def twoG (n a : Nat) : List Int := [(a : Int), ((root (n - a * a) : Nat) : Int)]
def twoL (n : Nat) : List (List Int) := collTo (twoP n) (twoG n) n
def sqTriP (m s : Nat) : Bool := decide (s * s ≤ m) && decide (triLeft (s * s) = 0)
def sqTriG (s : Nat) : Int := ((s * s : Nat) : Int)
def sqTriL (m : Nat) : List Int := collTo (sqTriP m) sqTriG m
theorem le_sq (k : Nat) : k ≤ k * k := by
  rcases k with _ | k
  · exact Nat.le_refl _
  · exact Nat.le_mul_of_pos_left _ (by omega)
theorem coll_end {α : Type} {p : Nat → Bool} {g : Nat → α} {n k : Nat} (hk : k ≤ n) (h : ∀ i, k < i → p i = false) : collTo p g n = collTo p g k := by
  have := collTo_stop (g := g) h (n - k)
  rw [show k + (n - k) = n from by omega] at this
  exact this
theorem sq_big {n k i : Nat} (h : n < (k + 1) * (k + 1)) (hi : k < i) : ¬ i * i ≤ n := by
  have := Nat.mul_self_le_mul_self (show k + 1 ≤ i from hi); omega
end Fo

def outRectanglesOf_0 (n : Int) : List (List Int) := if soldB n then rectL n.toNat else []
def outRectanglesOf_1 (n : Int) : Bool := soldB n
def outHollowsOf_0 (n : Int) : List (List Int) := if soldB n then hollowL n.toNat else []
def outHollowsOf_1 (n : Int) : Bool := soldB n
def outTwoSquares_0 (n : Int) : List (List Int) := if soldB n then twoL n.toNat else []
def outTwoSquares_1 (n : Int) : Bool := soldB n
def outSquareTriangles_0 (n : Int) : List Int := if soldB n then sqTriL n.toNat else []
def outSquareTriangles_1 (n : Int) : Bool := soldB n
theorem fits_nil : ([] : List (List Int)).length ≤ 1000000000 ∧ total [] ≤ 1000000000 := ⟨by simp, by simp [total, tot]⟩
theorem lenRectanglesOf_0 (n : Int) : (outRectanglesOf_0 n).length ≤ 1000000000 ∧ total (outRectanglesOf_0 n) ≤ 1000000000 := by
  unfold outRectanglesOf_0
  split
  · rename_i h
    obtain ⟨m, rfl, h1, h2⟩ := sold_nat h
    exact fits_twos (Nat.le_trans (collTo_len _ _ _) (by omega)) fun x hx => by obtain ⟨i, _, _, _, rfl⟩ := collTo_mem _ x hx; rfl
  · exact fits_nil
theorem lenHollowsOf_0 (n : Int) : (outHollowsOf_0 n).length ≤ 1000000000 ∧ total (outHollowsOf_0 n) ≤ 1000000000 := by
  unfold outHollowsOf_0
  split
  · rename_i h
    obtain ⟨m, rfl, h1, h2⟩ := sold_nat h
    exact fits_twos (Nat.le_trans (downTo_len _ _ _) (by omega)) fun x hx => by
      unfold hollowL at hx
      rw [downTo_rev, List.mem_reverse] at hx
      obtain ⟨i, _, _, _, rfl⟩ := collTo_mem _ x hx; rfl
  · exact fits_nil
theorem lenTwoSquares_0 (n : Int) : (outTwoSquares_0 n).length ≤ 1000000000 ∧ total (outTwoSquares_0 n) ≤ 1000000000 := by
  unfold outTwoSquares_0
  split
  · rename_i h
    obtain ⟨m, rfl, h1, h2⟩ := sold_nat h
    exact fits_twos (Nat.le_trans (collTo_len _ _ _) (by omega)) fun x hx => by obtain ⟨i, _, _, _, rfl⟩ := collTo_mem _ x hx; rfl
  · exact fits_nil
theorem lenSquareTriangles_0 (n : Int) : (outSquareTriangles_0 n).length ≤ 4611686018427387904 := by
  unfold outSquareTriangles_0
  split
  · rename_i h
    obtain ⟨m, rfl, h1, h2⟩ := sold_nat h
    exact Nat.le_trans (collTo_len _ _ _) (by omega)
  · simp

set_option maxRecDepth 20000 in
set_option maxHeartbeats 1000000 in
theorem specRectanglesOf_any (w : World) (n : Int) (_wn : (Lit.int .i64 n).wf = true) :
    Calls Try.prog 10 #[.int .i64 n] w fun e w' => ∃ v0, e = .returned (.tuple #[v0, .bool (outRectanglesOf_1 n)]) ∧ OwnSS w' w.heap.size v0 (outRectanglesOf_0 n) ∧ Below w.heap.size w w' := by
  have HH := Lib.hid (foSoldiers_any n w)
  clear _wn
  rcases hb : soldB n with _ | _
  · have H0 : Hid (outRectanglesOf_0 n = [] ∧ outRectanglesOf_1 n = false) := Lib.hid (by unfold outRectanglesOf_0 outRectanglesOf_1; rw [hb]; exact ⟨rfl, rfl⟩)
    rw [show inB n 1 1000000 = false from hb] at HH
    clear hb
    go_enter Try.func10, Try.ntmps10
    go_wp2_with (go_at_call 63; refine HH.out.mono ?_; rintro e w' ⟨rfl, rfl⟩)
    go_ret2
    exact ⟨_, by rw [H0.out.2]; exact rfl, by rw [H0.out.1]; exact ownSS_nil _ _, Below.refl _ _⟩
  · obtain ⟨m, rfl, h1, h2⟩ := sold_nat hb
    have H0 : Hid (outRectanglesOf_0 m = rectL m ∧ outRectanglesOf_1 m = true) := Lib.hid (by unfold outRectanglesOf_0 outRectanglesOf_1; rw [hb]; exact ⟨rfl, rfl⟩)
    rw [show inB m 1 1000000 = true from hb] at HH
    clear hb
    go_enter Try.func10, Try.ntmps10
    go_wp2_with (go_at_call 63; refine HH.out.mono ?_; rintro e w' ⟨rfl, rfl⟩)
    go_loopw [4, 5] (fun v r wr => ∃ k : Nat, k ≤ 1000 ∧ r = .int .i64 ((k : Int) + 1) ∧ Hid (k * k ≤ m) ∧ Hid (OwnSS wr w.heap.size v (collTo (rectP m) (rectG m) k)) ∧ Hid (Below w.heap.size w wr)) (fun _ r _ => 1002 - (intOf r).toNat)
    case atStart => exact ⟨0, by omega, rfl, Lib.hid (Nat.zero_le _), ownSS_nil _ _, Below.refl _ _⟩
    case round =>
      obtain ⟨k, hk, rfl, HK, HO, HB⟩ := hrel
      have hb := sq_bd (show k + 1 ≤ 1001 by omega)
      obtain ⟨p, hp⟩ : ∃ p, p = (k + 1) * (k + 1) := ⟨_, rfl⟩
      have e1 : ((k : Int) + 1) * ((k : Int) + 1) = (p : Int) := by rw [hp]; simp
      rw [← hp] at hb
      have HP := Lib.hid hp
      clear hp
      have hz := HB.out.size
      by_cases hlt : p ≤ m
      · have hk2 : k + 1 ≤ 1000 := by
          rcases Nat.lt_or_ge 1000 (k + 1) with h | h
          · have := sq_bd (show 1001 ≤ k + 1 from h); rw [← HP.out] at this; omega
          · exact h
        have HK2 : Hid ((k + 1) * (k + 1) ≤ m) := Lib.hid (by rw [← HP.out]; exact hlt)
        have hk0 : ¬ (k : Int) + 1 = 0 := by omega
        obtain ⟨t, ht⟩ : ∃ t, t = m % (k + 1) := ⟨_, rfl⟩
        have et : (m : Int) % ((k : Int) + 1) = (t : Int) := by rw [ht]; simp
        obtain ⟨d, hd⟩ : ∃ d, d = m / (k + 1) := ⟨_, rfl⟩
        have ed : (m : Int) / ((k : Int) + 1) = (d : Int) := by rw [hd]; simp
        have hd2 : d ≤ m := by rw [hd]; exact Nat.div_le_self _ _
        have HD := Lib.hid hd
        rcases hr : decide (m % (k + 1) = 0) with _ | _
        · have HS := Lib.hid (collTo_no (p := rectP m) (g := rectG m) (k := k) (by unfold rectP; rw [hr, Bool.and_false]))
          have hr2 := of_decide_eq_false hr
          rw [← ht] at hr2
          have hr3 : ((t : Int) == 0) = false := by rw [beq_eq_false_iff_ne]; omega
          clear hr hr2 ht hd
          go_wp2
          go_roundw
          case rel => exact ⟨k + 1, hk2, by go_num, HK2, Lib.hid (by rw [HS.out]; exact HO.out), HB⟩
          case measure => simp [intOf]; omega
        · have HS := Lib.hid (collTo_yes (p := rectP m) (g := rectG m) (k := k) (by unfold rectP; rw [hr, Bool.and_true]; exact decide_eq_true HK2.out))
          have hr2 := of_decide_eq_true hr
          obtain rfl : t = 0 := by rw [ht]; exact hr2
          have hbl : (collTo (rectP m) (rectG m) k).length ≤ 1000000000 := by have := collTo_len (rectP m) (rectG m) k; omega
          have HQ : Hid (rectG m (k + 1) = [(k : Int) + 1, (d : Int)]) := Lib.hid (by unfold rectG; rw [← hd]; simp)
          clear hr hr2 ht hd
          go_wp2_with (at_builtin; refine wpList_appRow rfl _ _ rfl _ wr _ _ _ _ _ _ rfl rfl (by simp) HO.out ((Below.refl _ _).alloc (Nat.le_refl _) _) (own_two wr _ _) hz hbl ?_; intro v' w5 hO hB5)
          have HO5 : Hid (OwnSS w5 w.heap.size v' (collTo (rectP m) (rectG m) (k + 1))) := Lib.hid (by rw [HS.out, HQ.out]; exact hO)
          have HB5 : Hid (Below w.heap.size w w5) := Lib.hid ((HB.out.alloc hz _).trans hB5)
          clear hO hB5
          go_wp2
          go_roundw
          case rel => exact ⟨k + 1, hk2, by go_num, HK2, HO5, HB5⟩
          case measure => simp [intOf]; omega
      · have HO3 : Hid (OwnSS wr w.heap.size _ (rectL m)) := Lib.hid (by
          unfold rectL
          rw [coll_end (k := k) (Nat.le_trans (le_sq k) HK.out) fun i hi => by unfold rectP; rw [decide_eq_false (sq_big (by rw [← HP.out]; omega) hi), Bool.false_and]]
          exact HO.out)
        clear HO
        go_wp2
        go_ret2
        exact ⟨_, by rw [H0.out.2]; exact rfl, by rw [H0.out.1]; exact HO3.out, HB.out⟩

set_option maxRecDepth 20000 in
set_option maxHeartbeats 1000000 in
theorem specHollowsOf_any (w : World) (n : Int) (_wn : (Lit.int .i64 n).wf = true) :
    Calls Try.prog 12 #[.int .i64 n] w fun e w' => ∃ v0, e = .returned (.tuple #[v0, .bool (outHollowsOf_1 n)]) ∧ OwnSS w' w.heap.size v0 (outHollowsOf_0 n) ∧ Below w.heap.size w w' := by
  have HH := Lib.hid (foSoldiers_any n w)
  clear _wn
  rcases hb : soldB n with _ | _
  · have H0 : Hid (outHollowsOf_0 n = [] ∧ outHollowsOf_1 n = false) := Lib.hid (by unfold outHollowsOf_0 outHollowsOf_1; rw [hb]; exact ⟨rfl, rfl⟩)
    rw [show inB n 1 1000000 = false from hb] at HH
    clear hb
    go_enter Try.func12, Try.ntmps12
    go_wp2_with (go_at_call 63; refine HH.out.mono ?_; rintro e w' ⟨rfl, rfl⟩)
    go_ret2
    exact ⟨_, by rw [H0.out.2]; exact rfl, by rw [H0.out.1]; exact ownSS_nil _ _, Below.refl _ _⟩
  · obtain ⟨m, rfl, h1, h2⟩ := sold_nat hb
    have H0 : Hid (outHollowsOf_0 m = hollowL m ∧ outHollowsOf_1 m = true) := Lib.hid (by unfold outHollowsOf_0 outHollowsOf_1; rw [hb]; exact ⟨rfl, rfl⟩)
    rw [show inB m 1 1000000 = true from hb] at HH
    clear hb
    rcases h4 : decide (m % 4 = 0) with _ | _
    · have H5 : Hid (hollowL m = []) := Lib.hid (by
        unfold hollowL
        rw [downTo_rev, coll_end (k := 0) (Nat.zero_le _) fun i _ => by unfold hollowP; rw [h4, Bool.false_and]]
        rfl)
      have h6 := of_decide_eq_false h4
      have h7 : ((m : Int) % 4 != 0) = true := by rw [bne_iff_ne]; omega
      clear h4 h6
      go_enter Try.func12, Try.ntmps12
      go_wp2_with (go_at_call 63; refine HH.out.mono ?_; rintro e w' ⟨rfl, rfl⟩)
      go_ret2
      exact ⟨_, by rw [H0.out.2]; exact rfl, by rw [H0.out.1, H5.out]; exact ownSS_nil _ _, Below.refl _ _⟩
    · have h6 := of_decide_eq_true h4
      have h7 : ((m : Int) % 4 != 0) = false := by rw [bne_eq_false_iff_eq]; omega
      have H4 := Lib.hid h4
      obtain ⟨q, hq⟩ : ∃ q, q = m / 4 := ⟨_, rfl⟩
      have HQ := Lib.hid hq
      have eq4 : (m : Int) / 4 = (q : Int) := by omega
      have hq2 : q ≤ 250000 := by omega
      clear h4 h6 hq
      go_enter Try.func12, Try.ntmps12
      go_wp2_with (go_at_call 63; refine HH.out.mono ?_; rintro e w' ⟨rfl, rfl⟩)
      go_loopw [4, 5] (fun v r wr => ∃ k : Nat, k ≤ q ∧ r = .int .i64 (k : Int) ∧ Hid (∃ l, l.length ≤ q - k ∧ l ++ downTo (hollowP m) (hollowG m) k = hollowL m ∧ OwnSS wr w.heap.size v l) ∧ Hid (Below w.heap.size w wr)) (fun _ r _ => (intOf r).toNat)
      case atStart => exact ⟨q, Nat.le_refl _, rfl, Lib.hid ⟨[], by simp, by unfold hollowL; rw [← HQ.out]; rfl, ownSS_nil _ _⟩, Below.refl _ _⟩
      case round =>
        obtain ⟨k, hk, rfl, HL, HB⟩ := hrel
        obtain ⟨l, hl1, hl2, hl3⟩ := HL.out
        have HL2 := Lib.hid hl2
        have HO := Lib.hid hl3
        have hz := HB.out.size
        clear HL hl2 hl3
        rcases k with _ | k
        · have HE : Hid (l = hollowL m) := Lib.hid (by have := HL2.out; rw [downTo, List.append_nil] at this; exact this)
          go_wp2
          go_ret2
          exact ⟨_, by rw [H0.out.2]; exact rfl, by rw [H0.out.1, ← HE.out]; exact HO.out, HB.out⟩
        · obtain ⟨d, hd⟩ : ∃ d, d = q / (k + 1) := ⟨_, rfl⟩
          have ed : (q : Int) / ((k : Int) + 1) = (d : Int) := by rw [hd]; simp
          have hd2 : d ≤ q := by rw [hd]; exact Nat.div_le_self _ _
          obtain ⟨t, ht⟩ : ∃ t, t = q % (k + 1) := ⟨_, rfl⟩
          have et : (q : Int) % ((k : Int) + 1) = (t : Int) := by rw [ht]; simp
          have hk0 : ¬ (k : Int) + 1 = 0 := by omega
          have HD := Lib.hid hd
          have HT := Lib.hid ht
          clear hd ht
          have ek : ((k + 1 : Nat) : Int) = (k : Int) + 1 := by simp
          by_cases hok : t = 0 ∧ 2 * (k + 1) < d + (k + 1)
          · obtain ⟨ht0, hlt⟩ := hok
            have HS : Hid (downTo (hollowP m) (hollowG m) (k + 1) = [((d : Int) + ((k : Int) + 1)), ((k : Int) + 1)] :: downTo (hollowP m) (hollowG m) k) := Lib.hid (by
              rw [downTo_yes (by unfold hollowP; rw [H4.out, ← HQ.out, ← HD.out, ← HT.out, decide_eq_true ht0, decide_eq_true hlt]; rfl)]
              unfold hollowG
              rw [← HQ.out, ← HD.out]
              simp)
            subst ht0
            have hbl : l.length ≤ 1000000000 := by omega
            go_wp2_with (at_builtin; refine wpList_appRow rfl _ _ rfl _ wr _ _ _ _ _ _ rfl rfl (by simp) HO.out ((Below.refl _ _).alloc (Nat.le_refl _) _) (own_two wr _ _) hz hbl ?_; intro v' w5 hO hB5)
            have HO5 : Hid (∃ l', l'.length ≤ q - k ∧ l' ++ downTo (hollowP m) (hollowG m) k = hollowL m ∧ OwnSS w5 w.heap.size v' l') := Lib.hid ⟨_, by rw [List.length_append, List.length_singleton]; omega, by rw [List.append_assoc, List.singleton_append, ← HS.out]; exact HL2.out, hO⟩
            have HB5 : Hid (Below w.heap.size w w5) := Lib.hid ((HB.out.alloc hz _).trans hB5)
            clear hO hB5
            go_wp2
            go_roundw
            case rel => exact ⟨k, by omega, int_eq (by omega), HO5, HB5⟩
            case measure => first | (simp [intOf]; done) | (simp [intOf]; omega)
          · have HS : Hid (downTo (hollowP m) (hollowG m) (k + 1) = downTo (hollowP m) (hollowG m) k) := Lib.hid (by
              rw [downTo_no]
              unfold hollowP
              rw [H4.out, ← HQ.out, ← HD.out, ← HT.out, Bool.true_and]
              by_cases h : t = 0
              · rw [decide_eq_true h, decide_eq_false (fun h2 => hok ⟨h, h2⟩)]; rfl
              · rw [decide_eq_false h]; rfl)
            have HO5 : Hid (∃ l', l'.length ≤ q - k ∧ l' ++ downTo (hollowP m) (hollowG m) k = hollowL m ∧ OwnSS wr w.heap.size _ l') := Lib.hid ⟨l, by omega, by rw [← HS.out]; exact HL2.out, HO.out⟩
            by_cases ht0 : t = 0
            · subst ht0
              have hlt : ¬ 2 * ((k : Int) + 1) < (d : Int) + ((k : Int) + 1) := by omega
              clear hok
              go_wp2
              go_roundw
              case rel => exact ⟨k, by omega, int_eq (by omega), HO5, HB⟩
              case measure => first | (simp [intOf]; done) | (simp [intOf]; omega)
            · have ht2 : ((t : Int) == 0) = false := by rw [beq_eq_false_iff_ne]; omega
              clear hok
              go_wp2
              go_roundw
              case rel => exact ⟨k, by omega, int_eq (by omega), HO5, HB⟩
              case measure => first | (simp [intOf]; done) | (simp [intOf]; omega)

set_option maxRecDepth 20000 in
set_option maxHeartbeats 1000000 in
theorem specTwoSquares_any (w : World) (n : Int) (_wn : (Lit.int .i64 n).wf = true) :
    Calls Try.prog 18 #[.int .i64 n] w fun e w' => ∃ v0, e = .returned (.tuple #[v0, .bool (outTwoSquares_1 n)]) ∧ OwnSS w' w.heap.size v0 (outTwoSquares_0 n) ∧ Below w.heap.size w w' := by
  have HH := Lib.hid (foSoldiers_any n w)
  clear _wn
  rcases hb : soldB n with _ | _
  · have H0 : Hid (outTwoSquares_0 n = [] ∧ outTwoSquares_1 n = false) := Lib.hid (by unfold outTwoSquares_0 outTwoSquares_1; rw [hb]; exact ⟨rfl, rfl⟩)
    rw [show inB n 1 1000000 = false from hb] at HH
    clear hb
    go_enter Try.func18, Try.ntmps18
    go_wp2_with (go_at_call 63; refine HH.out.mono ?_; rintro e w' ⟨rfl, rfl⟩)
    go_ret2
    exact ⟨_, by rw [H0.out.2]; exact rfl, by rw [H0.out.1]; exact ownSS_nil _ _, Below.refl _ _⟩
  · obtain ⟨m, rfl, h1, h2⟩ := sold_nat hb
    have H0 : Hid (outTwoSquares_0 m = twoL m ∧ outTwoSquares_1 m = true) := Lib.hid (by unfold outTwoSquares_0 outTwoSquares_1; rw [hb]; exact ⟨rfl, rfl⟩)
    rw [show inB m 1 1000000 = true from hb] at HH
    clear hb
    go_enter Try.func18, Try.ntmps18
    go_wp2_with (go_at_call 63; refine HH.out.mono ?_; rintro e w' ⟨rfl, rfl⟩)
    go_loopw [4, 5] (fun v r wr => ∃ k : Nat, k ≤ 1000 ∧ r = .int .i64 ((k : Int) + 1) ∧ Hid (k * k ≤ m) ∧ Hid (OwnSS wr w.heap.size v (collTo (twoP m) (twoG m) k)) ∧ Hid (Below w.heap.size w wr)) (fun _ r _ => 1002 - (intOf r).toNat)
    case atStart => exact ⟨0, by omega, rfl, Lib.hid (Nat.zero_le _), ownSS_nil _ _, Below.refl _ _⟩
    case round =>
      obtain ⟨k, hk, rfl, HK, HO, HB⟩ := hrel
      have hb := sq_bd (show k + 1 ≤ 1001 by omega)
      obtain ⟨p, hp⟩ : ∃ p, p = (k + 1) * (k + 1) := ⟨_, rfl⟩
      have e1 : ((k : Int) + 1) * ((k : Int) + 1) = (p : Int) := by rw [hp]; simp
      have e2 : 2 * ((k : Int) + 1) * ((k : Int) + 1) = 2 * (p : Int) := by rw [Int.mul_assoc, e1]
      rw [← hp] at hb
      have HP := Lib.hid hp
      have HP2 : Hid (2 * (k + 1) * (k + 1) = 2 * p) := Lib.hid (by rw [hp, Nat.mul_assoc])
      clear hp
      have hz := HB.out.size
      by_cases hlt : 2 * p ≤ m
      · have hk2 : k + 1 ≤ 1000 := by
          rcases Nat.lt_or_ge 1000 (k + 1) with h | h
          · have := sq_bd (show 1001 ≤ k + 1 from h); rw [← HP.out] at this; omega
          · exact h
        have HK2 : Hid ((k + 1) * (k + 1) ≤ m) := Lib.hid (by rw [← HP.out]; omega)
        have hle : ((2 * p : Nat) : Int) ≤ (m : Int) := by omega
        have hrb := root_bd (show m - p ≤ 1000000 by omega)
        have hrs := (root_spec (m - p)).1
        have HR := Lib.hid (fun w2 => foRoot_any (m - p) (by omega) w2)
        have e3 : (m : Int) - (p : Int) = ((m - p : Nat) : Int) := by omega
        obtain ⟨b, hbb⟩ : ∃ b, b = root (m - p) := ⟨_, rfl⟩
        rw [← hbb] at HR hrb hrs
        obtain ⟨s, hs⟩ : ∃ s, s = b * b := ⟨_, rfl⟩
        have e4 : (b : Int) * (b : Int) = (s : Int) := by rw [hs]; simp
        rw [← hs] at hrs
        have HG : Hid (twoG m (k + 1) = [(k : Int) + 1, (b : Int)]) := Lib.hid (by unfold twoG; rw [← HP.out, ← hbb]; simp)
        have HT : Hid (twoP m (k + 1) = decide (p + s = m)) := Lib.hid (by unfold twoP; rw [HP2.out, ← HP.out, ← hbb, ← hs, decide_eq_true hlt, Bool.true_and])
        clear hbb hs
        by_cases hq : p + s = m
        · have HS := Lib.hid (collTo_yes (p := twoP m) (g := twoG m) (k := k) (by rw [HT.out, decide_eq_true hq]))
          have hbl : (collTo (twoP m) (twoG m) k).length ≤ 1000000000 := by have := collTo_len (twoP m) (twoG m) k; omega
          have hq1 : ((p : Int) + (s : Int) == (m : Int)) = true := by rw [beq_iff_eq]; omega
          clear hq
          go_wp2_with fail
          go_at_call 67
          refine (HR.out _).mono ?_
          rintro e w' ⟨rfl, rfl⟩
          clear e3
          go_wp2_with (at_builtin; refine wpList_appRow rfl _ _ rfl _ wr _ _ _ _ _ _ rfl rfl (by simp) HO.out ((Below.refl _ _).alloc (Nat.le_refl _) _) (own_two wr _ _) hz hbl ?_; intro v' w5 hO hB5)
          have HO5 : Hid (OwnSS w5 w.heap.size v' (collTo (twoP m) (twoG m) (k + 1))) := Lib.hid (by rw [HS.out, HG.out]; exact hO)
          have HB5 : Hid (Below w.heap.size w w5) := Lib.hid ((HB.out.alloc hz _).trans hB5)
          clear hO hB5
          go_wp2
          go_roundw
          case rel => exact ⟨k + 1, hk2, by go_num, HK2, HO5, HB5⟩
          case measure => simp [intOf]; omega
        · have HS := Lib.hid (collTo_no (p := twoP m) (g := twoG m) (k := k) (by rw [HT.out, decide_eq_false hq]))
          have hq1 : ((p : Int) + (s : Int) == (m : Int)) = false := by rw [beq_eq_false_iff_ne]; omega
          clear hq
          go_wp2_with fail
          go_at_call 67
          refine (HR.out _).mono ?_
          rintro e w' ⟨rfl, rfl⟩
          clear e3
          go_wp2
          go_roundw
          case rel => exact ⟨k + 1, hk2, by go_num, HK2, Lib.hid (by rw [HS.out]; exact HO.out), HB⟩
          case measure => simp [intOf]; omega
      · have HO3 : Hid (OwnSS wr w.heap.size _ (twoL m)) := Lib.hid (by
          unfold twoL
          rw [coll_end (k := k) (Nat.le_trans (le_sq k) HK.out) fun i hi => by
            unfold twoP
            have := Nat.mul_self_le_mul_self (show k + 1 ≤ i from hi)
            rw [← HP.out] at this
            rw [decide_eq_false (by rw [Nat.mul_assoc]; omega), Bool.false_and]]
          exact HO.out)
        have hle : ¬ 2 * (p : Int) ≤ (m : Int) := by omega
        clear HO
        go_wp2
        go_ret2
        exact ⟨_, by rw [H0.out.2]; exact rfl, by rw [H0.out.1]; exact HO3.out, HB.out⟩

set_option maxRecDepth 20000 in
set_option maxHeartbeats 1000000 in
theorem specSquareTriangles_any (w : World) (n : Int) (_wn : (Lit.int .i64 n).wf = true) :
    Calls Try.prog 20 #[.int .i64 n] w fun e w' => ∃ v0, e = .returned (.tuple #[v0, .bool (outSquareTriangles_1 n)]) ∧ Own w' w.heap.size v0 (outSquareTriangles_0 n) ∧ Below w.heap.size w w' := by
  have HH := Lib.hid (foSoldiers_any n w)
  clear _wn
  rcases hb : soldB n with _ | _
  · have H0 : Hid (outSquareTriangles_0 n = [] ∧ outSquareTriangles_1 n = false) := Lib.hid (by unfold outSquareTriangles_0 outSquareTriangles_1; rw [hb]; exact ⟨rfl, rfl⟩)
    rw [show inB n 1 1000000 = false from hb] at HH
    clear hb
    go_enter Try.func20, Try.ntmps20
    go_wp2_with (go_at_call 63; refine HH.out.mono ?_; rintro e w' ⟨rfl, rfl⟩)
    go_ret2
    exact ⟨_, by rw [H0.out.2]; exact rfl, by rw [H0.out.1]; exact own_nil _ _, Below.refl _ _⟩
  · obtain ⟨m, rfl, h1, h2⟩ := sold_nat hb
    have H0 : Hid (outSquareTriangles_0 m = sqTriL m ∧ outSquareTriangles_1 m = true) := Lib.hid (by unfold outSquareTriangles_0 outSquareTriangles_1; rw [hb]; exact ⟨rfl, rfl⟩)
    rw [show inB m 1 1000000 = true from hb] at HH
    clear hb
    go_enter Try.func20, Try.ntmps20
    go_wp2_with (go_at_call 63; refine HH.out.mono ?_; rintro e w' ⟨rfl, rfl⟩)
    go_loopw [4, 5] (fun v r wr => ∃ k : Nat, k ≤ 1000 ∧ r = .int .i64 ((k : Int) + 1) ∧ Hid (k * k ≤ m) ∧ Hid (Own wr w.heap.size v (collTo (sqTriP m) sqTriG k)) ∧ Hid (Below w.heap.size w wr)) (fun _ r _ => 1002 - (intOf r).toNat)
    case atStart => exact ⟨0, by omega, rfl, Lib.hid (Nat.zero_le _), own_nil _ _, Below.refl _ _⟩
    case round =>
      obtain ⟨k, hk, rfl, HK, HO, HB⟩ := hrel
      have hb := sq_bd (show k + 1 ≤ 1001 by omega)
      obtain ⟨p, hp⟩ : ∃ p, p = (k + 1) * (k + 1) := ⟨_, rfl⟩
      have e1 : ((k : Int) + 1) * ((k : Int) + 1) = (p : Int) := by rw [hp]; simp
      rw [← hp] at hb
      have HP := Lib.hid hp
      clear hp
      have hz := HB.out.size
      by_cases hlt : p ≤ m
      · have hk2 : k + 1 ≤ 1000 := by
          rcases Nat.lt_or_ge 1000 (k + 1) with h | h
          · have := sq_bd (show 1001 ≤ k + 1 from h); rw [← HP.out] at this; omega
          · exact h
        have HK2 : Hid ((k + 1) * (k + 1) ≤ m) := Lib.hid (by rw [← HP.out]; exact hlt)
        have HR := Lib.hid (fun w2 => foTriangle_any p (by omega) w2)
        have HT : Hid (sqTriP m (k + 1) = decide (triLeft p = 0)) := Lib.hid (by unfold sqTriP; rw [← HP.out, decide_eq_true hlt, Bool.true_and])
        have HG : Hid (sqTriG (k + 1) = (p : Int)) := Lib.hid (by unfold sqTriG; rw [← HP.out])
        obtain ⟨t, ht⟩ : ∃ t, t = tri p := ⟨_, rfl⟩
        obtain ⟨l, hl⟩ : ∃ l, l = triLeft p := ⟨_, rfl⟩
        rw [← ht, ← hl] at HR
        rw [← hl] at HT
        clear ht hl
        by_cases hq : l = 0
        · have HS := Lib.hid (collTo_yes (p := sqTriP m) (g := sqTriG) (k := k) (by rw [HT.out, decide_eq_true hq]))
          have hbl : (collTo (sqTriP m) sqTriG k).length ≤ 1000000000 := by have := collTo_len (sqTriP m) sqTriG k; omega
          subst hq
          go_wp2_with fail
          go_at_call 69
          refine (HR.out _).mono ?_
          rintro e w2 ⟨rfl, b2⟩
          have HO2 := Lib.hid (HO.out.below b2 (Nat.le_refl _))
          have HB2 : Hid (Below w.heap.size w w2) := Lib.hid (HB.out.trans (b2.mono hz))
          have hz2 := HB2.out.size
          clear b2 HO HB
          go_wp2_with (at_builtin; refine wpList_app rfl _ _ rfl _ _ _ _ _ rfl rfl HO2.out hz2 hbl ?_; intro v' w5 hO hB5)
          have HO5 : Hid (Own w5 w.heap.size v' (collTo (sqTriP m) sqTriG (k + 1))) := Lib.hid (by rw [HS.out, HG.out]; exact hO)
          have HB5 : Hid (Below w.heap.size w w5) := Lib.hid (HB2.out.trans hB5)
          clear hO hB5
          go_wp2
          go_roundw
          case rel => exact ⟨k + 1, hk2, by go_num, HK2, HO5, HB5⟩
          case measure => simp [intOf]; omega
        · have HS := Lib.hid (collTo_no (p := sqTriP m) (g := sqTriG) (k := k) (by rw [HT.out, decide_eq_false hq]))
          have hq1 : ((l : Int) == 0) = false := by rw [beq_eq_false_iff_ne]; omega
          go_wp2_with fail
          go_at_call 69
          refine (HR.out _).mono ?_
          rintro e w2 ⟨rfl, b2⟩
          have HO2 : Hid (Own w2 w.heap.size _ (collTo (sqTriP m) sqTriG (k + 1))) := Lib.hid (by rw [HS.out]; exact HO.out.below b2 (Nat.le_refl _))
          have HB2 : Hid (Below w.heap.size w w2) := Lib.hid (HB.out.trans (b2.mono hz))
          clear b2 HO HB
          go_wp2
          go_roundw
          case rel => exact ⟨k + 1, hk2, by go_num, HK2, HO2, HB2⟩
          case measure => simp [intOf]; omega
      · have HO3 : Hid (Own wr w.heap.size _ (sqTriL m)) := Lib.hid (by
          unfold sqTriL
          rw [coll_end (k := k) (Nat.le_trans (le_sq k) HK.out) fun i hi => by unfold sqTriP; rw [decide_eq_false (sq_big (by rw [← HP.out]; omega) hi), Bool.false_and]]
          exact HO.out)
        clear HO
        go_wp2
        go_ret2
        exact ⟨_, by rw [H0.out.2]; exact rfl, by rw [H0.out.1]; exact HO3.out, HB.out⟩

end Go.Proofs.Ytjdbmkphakpmbaa
