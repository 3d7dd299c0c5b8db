/- Chapter 7, the program: at most two lists put in order; the first one of those with the fewest. -/
import Derived.Test.YtkdpjimbhpclaabSw
import Derived.Test.YtkdpjimbhpclaabShl
import Derived.RegionTactic
import Derived.BigRegion
namespace Go.Proofs.Ytkdpjimbhpclaab
open Go.ChangeShapes Go.WideShapes Go.ChangeAt Go.RowKit

namespace Ed
theorem bits_p (x : Int) (w : World) (h0 : 0 ≤ x) (h1 : x ≤ 10) : Calls Try.prog 81 #[.int .u64 x] w fun e w' => (∃ l : Int, e = .returned (.int .i64 l)) ∧ w = w' :=
  (Try.bits_Len x w h0 (by omega)).mono fun _ _ h => ⟨⟨_, h.1⟩, h.2.symm⟩
theorem cmp_p (x y : Int) (w : World) : Calls Try.prog 65 #[.int .i64 x, .int .i64 y] w fun e w' => e = .returned (.int .i64 (Lib.compareInt x y)) ∧ w = w' :=
  (Try.cmp_Compare_int x y w).mono fun _ _ h => ⟨h.1, h.2.symm⟩
end Ed
open Ed

/-- nothing ahead of something -/
theorem compare_less (w : World) (a1 a2 : Option Addr) (c1 n2 c2 : Nat) (h2 : 0 < n2) :
    Calls Try.prog 64 #[.slice a1 0 c1, .slice a2 n2 c2] w fun e w' => e = .returned (.int .i64 (-1)) ∧ w = w' := by
  have i1 : (0 : Int) < (n2 : Int) := by omega
  go_enter Try.func64, Try.ntmps64
  go_wp2
  refine wp_loop_rounds 1 ?_
  rw [rounds_succ]
  go_wp2
  go_ret
  exact ⟨rfl, rfl⟩
/-- more at the first place -/
theorem compare_more (w : World) (g1 g2 n1 c1 n2 c2 : Nat) (x : Int) (h1 : 0 < n1) (h2 : 0 < n2) (hx : 0 < x) (e1 : w.cell? ⟨g1, 0, none⟩ = some (.int .i64 x)) (e2 : w.cell? ⟨g2, 0, none⟩ = some (.int .i64 0)) :
    Calls Try.prog 64 #[.slice (some ⟨g1, 0, none⟩) n1 c1, .slice (some ⟨g2, 0, none⟩) n2 c2] w fun e w' => e = .returned (.int .i64 1) ∧ w = w' := by
  have i1 : (0 : Int) < (n1 : Int) := by omega
  have i2 : (0 : Int) < (n2 : Int) := by omega
  have HC : Hid (Calls Try.prog 65 #[.int .i64 x, .int .i64 0] w fun e w' => e = .returned (.int .i64 1) ∧ w = w') := Lib.hid (by
    have := cmp_p x 0 w
    rw [show Lib.compareInt x 0 = 1 from by unfold Lib.compareInt; rw [if_neg (by omega), if_pos hx]] at this
    exact this)
  go_enter Try.func64, Try.ntmps64
  go_wp2
  refine wp_loop_rounds 1 ?_
  rw [rounds_succ]
  go_wp2_with (go_at_call 65; refine HC.out.mono ?_; rintro e w' ⟨rfl, rfl⟩)
  go_ret
  exact ⟨rfl, rfl⟩

theorem insert_few (w : World) (a : Option Addr) (n cap : Nat) (hn : n ≤ 1) :
    Calls Try.prog 87 #[.slice a n cap, .int .i64 0, .int .i64 (n : Int), .func (.func 64) #[] #[]] w fun e w' => e = .returned (.tuple #[]) ∧ w = w' := by
  have i1 : ¬ (1 : Int) < (n : Int) := by omega
  go_enter Try.func87, Try.ntmps87
  go_wp2
  refine wp_loop_rounds 1 ?_
  rw [rounds_succ]
  go_wp2
  go_end0
  exact ⟨rfl, rfl⟩
set_option maxHeartbeats 1000000 in
theorem insert_stay (w : World) (g cap : Nat) (r0 r1 : Value) (c : Int) (e0 : w.cell? ⟨g, 0, none⟩ = some r0) (e1 : w.cell? ⟨g, 1, none⟩ = some r1) (hc : 0 ≤ c)
    (hcmp : ∀ m, Calls Try.prog 64 #[r1, r0] (w.drewN m) fun e w' => e = .returned (.int .i64 c) ∧ w.drewN m = w') :
    Calls Try.prog 87 #[.slice (some ⟨g, 0, none⟩) 2 cap, .int .i64 0, .int .i64 2, .func (.func 64) #[] #[]] w fun e w' => e = .returned (.tuple #[]) ∧ ∃ m, w' = w.drewN m := by
  have HC := Lib.hid hcmp
  have k0 : ∀ m, (w.drewN m).cell? ⟨g, 0, none⟩ = some r0 := fun _ => e0
  have k1 : ∀ m, (w.drewN m).cell? ⟨g, 1, none⟩ = some r1 := fun _ => e1
  have hd : decide (c < 0) = false := decide_eq_false (by omega)
  have hc2 : ¬ c < 0 := by omega
  clear hcmp
  go_enter Try.func87, Try.ntmps87
  go_wp2
  refine wp_loop_rounds 2 ?_
  rw [rounds_succ]
  go_wp2
  refine wp_loop_rounds 1 ?_
  rw [rounds_succ]
  go_wp2_with fail
  go_quiet ((go_at_call 64; exact Calls.quiet_of ((HC.out _).mono fun _ _ h => ⟨h.1, 0, h.2.symm⟩)))
  go_wp2
  rw [rounds_succ]
  go_wp2
  go_end0
  exact ⟨rfl, _, rfl⟩
set_option maxHeartbeats 1000000 in
theorem insert_swap (w : World) (g cap : Nat) (a0 a1 : Option Addr) (n0 c0 n1 c1 : Nat) (c : Int) (e0 : w.cell? ⟨g, 0, none⟩ = some (.slice a0 n0 c0)) (e1 : w.cell? ⟨g, 1, none⟩ = some (.slice a1 n1 c1)) (f0 : ∀ j, w.frozen? ⟨g, j, none⟩ = false) (hc : c < 0)
    (hcmp : ∀ m, Calls Try.prog 64 #[.slice a1 n1 c1, .slice a0 n0 c0] (w.drewN m) fun e w' => e = .returned (.int .i64 c) ∧ w.drewN m = w') :
    Calls Try.prog 87 #[.slice (some ⟨g, 0, none⟩) 2 cap, .int .i64 0, .int .i64 2, .func (.func 64) #[] #[]] w fun e w' => e = .returned (.tuple #[]) ∧ ∃ m m2, w' = (((w.drewN m).setCell ⟨g, 1, none⟩ (.slice a0 n0 c0)).setCell ⟨g, 0, none⟩ (.slice a1 n1 c1)).drewN m2 := by
  have HC := Lib.hid hcmp
  have k0 : ∀ m, (w.drewN m).cell? ⟨g, 0, none⟩ = some (.slice a0 n0 c0) := fun _ => e0
  have k1 : ∀ m, (w.drewN m).cell? ⟨g, 1, none⟩ = some (.slice a1 n1 c1) := fun _ => e1
  have q0 : ∀ m, (w.drewN m).frozen? ⟨g, 0, none⟩ = false := fun _ => f0 0
  have q1 : ∀ m, (w.drewN m).frozen? ⟨g, 1, none⟩ = false := fun _ => f0 1
  have hd : decide (c < 0) = true := decide_eq_true (by omega)
  have hne : (⟨g, 0, none⟩ : Addr) ≠ ⟨g, 1, none⟩ := fun e => by injection e with _ e; exact absurd e (by decide)
  have hne2 : (⟨g, 1, none⟩ : Addr) ≠ ⟨g, 0, none⟩ := fun e => hne e.symm
  clear hcmp
  go_enter Try.func87, Try.ntmps87
  go_wp2
  refine wp_loop_rounds 2 ?_
  rw [rounds_succ]
  go_wp2
  refine wp_loop_rounds 2 ?_
  rw [rounds_succ]
  go_wp2_with fail
  go_quiet ((go_at_call 64; exact Calls.quiet_of ((HC.out _).mono fun _ _ h => ⟨h.1, 0, h.2.symm⟩)))
  have e0' := k0 nq
  have e1' := k1 nq
  have f0' := q0 nq
  have f1' := q1 nq
  have f0a := f0 0
  have f1a := f0 1
  go_wp2_with fail
  go_region
  go_wp2
  rw [rounds_succ]
  go_wp2_with fail
  go_quiet (fail)
  go_wp2
  rw [rounds_succ]
  go_wp2
  go_end0
  exact ⟨rfl, _, _, rfl⟩

set_option maxRecDepth 100000 in
set_option maxHeartbeats 1000000 in
theorem pdq_p (w : World) (a : Option Addr) (n cap : Nat) (l : Int) (hn : n ≤ 2) (R : World → Prop) (H : Calls Try.prog 87 #[.slice a n cap, .int .i64 0, .int .i64 (n : Int), .func (.func 64) #[] #[]] w fun e w' => e = .returned (.tuple #[]) ∧ R w') :
    Calls Try.prog 80 #[.slice a n cap, .int .i64 0, .int .i64 (n : Int), .int .i64 l, .func (.func 64) #[] #[]] w fun e w' => e = .returned (.tuple #[]) ∧ R w' := by
  have HH := Lib.hid H
  have i1 : (n : Int) ≤ 12 := by omega
  clear H
  go_enter Try.func80, Try.ntmps80
  go_wp2
  refine wp_loop_rounds 1 ?_
  rw [rounds_succ]
  go_wp2_with (go_at_call 87; refine HH.out.mono ?_; rintro e w' ⟨rfl, hR⟩)
  refine bodyPost_ret (results_none rfl _ _ _) rfl ?_
  exact ⟨rfl, hR⟩
set_option maxRecDepth 100000 in
theorem sortFunc_p (w : World) (a : Option Addr) (n cap : Nat) (hn : n ≤ 2) (R : World → Prop) (H : Calls Try.prog 87 #[.slice a n cap, .int .i64 0, .int .i64 (n : Int), .func (.func 64) #[] #[]] w fun e w' => e = .returned (.tuple #[]) ∧ R w') :
    Calls Try.prog 63 #[.slice a n cap, .func (.func 64) #[] #[]] w fun e w' => e = .returned (.tuple #[]) ∧ R w' := by
  have HP := Lib.hid (fun l => pdq_p w a n cap l hn R H)
  have HL := Lib.hid (bits_p (n : Int) w (by omega) (by omega))
  have i1 : (0 : Int) ≤ (n : Int) := by omega
  have i2 : (n : Int) < 18446744073709551616 := by omega
  clear H
  go_enter Try.func63, Try.ntmps63
  go_wp2_with fail
  go_at_call 81
  refine HL.out.mono ?_
  rintro e w' ⟨⟨l, rfl⟩, rfl⟩
  go_wp2_with (go_at_call 80; refine (HP.out l).mono ?_; rintro e w' ⟨rfl, hR⟩)
  go_end0
  exact ⟨rfl, hR⟩
theorem drewN_any (w : World) (m : Nat) (B : Nat) : Below B w (w.drewN m) := ⟨rfl, rfl, rfl, Nat.le_refl _, fun _ _ => rfl⟩
theorem sortFew_p (w : World) (B : Nat) (v : Value) (zss : List (List Int)) (h : OwnSS w B v zss) (hn : zss.length ≤ 1) :
    Calls Try.prog 63 #[v, .func (.func 64) #[] #[]] w fun e w' => e = .returned (.tuple #[]) ∧ w = w' := by
  obtain ⟨ao, cap, rfl, _⟩ := h.cameC
  exact sortFunc_p w ao zss.length cap (by omega) (fun w' => w = w') (insert_few w ao zss.length cap hn)
theorem sortTwo_p (w : World) (B : Nat) (v : Value) (tx y : List Int) (h : OwnSS w B v [0 :: tx, y]) (hy : ∀ k t, y = k :: t → 0 < k) :
    Calls Try.prog 63 #[v, .func (.func 64) #[] #[]] w fun e w' => e = .returned (.tuple #[]) ∧ OwnSS w' B v (if y = [] then [y, 0 :: tx] else [0 :: tx, y]) ∧ Below B w w' := by
  have hh := h
  obtain ⟨vs, S⟩ := hh
  obtain ⟨g, cap, rfl, hgB, hgl⟩ := S.point (by simp)
  have hl := S.len
  have e0 := S.cell 0 (by simp)
  have e1 := S.cell 1 (by simp)
  have o0 := (S.row 0 (by rw [hl]; simp)).1
  have o1 := (S.row 1 (by rw [hl]; simp)).1
  rw [show [(0 : Int) :: tx, y].getD 0 [] = 0 :: tx from rfl] at o0
  rw [show [(0 : Int) :: tx, y].getD 1 [] = y from rfl] at o1
  obtain ⟨g0, k0, q0, _, _⟩ := o0.point (by simp)
  rw [q0] at e0 o0
  have x0 := o0.cell rfl 0 (by simp)
  rw [show ((0 : Int) :: tx).getD 0 0 = 0 from rfl] at x0
  rcases y with _ | ⟨k, t⟩
  · obtain ⟨a1, k1, q1⟩ := o1.any
    rw [q1, show ([] : List Int).length = 0 from rfl] at e1
    rw [if_pos rfl]
    obtain ⟨xi, ci, xj, cj, c0, c1, hs⟩ := h.swap (n := 2) rfl 1 0 (by omega) (by omega)
    rw [show [(0 : Int) :: tx, []].getD 0 [] = 0 :: tx from rfl, show [(0 : Int) :: tx, []].getD 1 [] = [] from rfl] at hs
    rw [show [(0 : Int) :: tx, []].getD 1 [] = [] from rfl] at c0
    rw [show [(0 : Int) :: tx, []].getD 0 [] = 0 :: tx from rfl] at c1
    have H := insert_swap w g cap xj xi ((0 : Int) :: tx).length cj ([] : List Int).length ci (-1) c1 c0 (fun j => h.free rfl j) (show (-1 : Int) < 0 by decide) (fun m => compare_less (w.drewN m) xi xj ci _ cj (by simp))
    refine sortFunc_p w _ 2 cap (Nat.le_refl _) (fun w' => OwnSS w' B (.slice (some ⟨g, 0, none⟩) 2 cap) [[], 0 :: tx] ∧ Below B w w') (H.mono ?_)
    rintro e w' ⟨he, m, m2, rfl⟩
    refine ⟨he, ?_, ?_⟩
    · exact OwnSS.drewN (w := ((w.drewN m).setCell ⟨g, 1, none⟩ (.slice xj ((0 : Int) :: tx).length cj)).setCell ⟨g, 0, none⟩ (.slice xi ([] : List Int).length ci)) (by
        have hd := hs.drewN m
        exact hd) m2
    · exact ((((drewN_any w m B).setCell (p := ⟨g, 1, none⟩) hgB _).setCell (p := ⟨g, 0, none⟩) hgB _).trans (drewN_any _ m2 B))
  · obtain ⟨g1, k1, q1, _, _⟩ := o1.point (by simp)
    rw [q1] at e1 o1
    have x1 := o1.cell rfl 0 (by simp)
    rw [show (k :: t).getD 0 0 = k from rfl] at x1
    rw [if_neg (by simp)]
    have H := insert_stay w g cap _ _ 1 e0 e1 (by decide) (fun m => compare_more (w.drewN m) g1 g0 _ k1 _ k0 k (by simp) (by simp) (hy k t rfl) x1 x0)
    refine sortFunc_p w _ 2 cap (Nat.le_refl _) (fun w' => OwnSS w' B (.slice (some ⟨g, 0, none⟩) 2 cap) [0 :: tx, k :: t] ∧ Below B w w') (H.mono ?_)
    rintro e w' ⟨he, m, rfl⟩
    exact ⟨he, h.drewN m, drewN_any w m B⟩

end Go.Proofs.Ytkdpjimbhpclaab
