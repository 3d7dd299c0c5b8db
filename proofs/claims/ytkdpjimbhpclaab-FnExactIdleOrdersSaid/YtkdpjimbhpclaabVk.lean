/- Chapter 7, the program: what makes runs of windows and of soldiers. -/
import Derived.Test.YtkdpjimbhpclaabVe
import Derived.Test.YtkdpjimbhpclaabVb
namespace Go.Proofs.Ytkdpjimbhpclaab
open Go.ChangeShapes Go.WideShapes Go.ChangeAt Go.RowKit
open Rx Od Ed

namespace Ed
/-- a run and whether there is one, as results -/
def runV (o : Option (Nat × Nat)) : Value := .tuple #[.agg #[.int .i64 (((o.getD (0, 0)).1 : Nat) : Int), .int .i64 (((o.getD (0, 0)).2 : Nat) : Int)], .bool o.isSome]
theorem runV_none : runV none = .tuple #[.agg #[.int .i64 0, .int .i64 0], .bool false] := rfl
theorem runV_some (a b : Nat) : runV (some (a, b)) = .tuple #[.agg #[.int .i64 (a : Int), .int .i64 (b : Int)], .bool true] := rfl
theorem results_run {fn : Func} {t u : Tmp} {ty : TypeId} (h : fn.results = #[.cell t ty, .tmp u]) (tmps : Array Value) (w : World) (g : Nat) (x y : Int) (hty : ty = 69)
    (ht : tmps[t]?.getD undef = .pointer (some ⟨g, 0, none⟩)) (h0 : w.cell? ⟨g, 0, none⟩ = some (.int .i64 x)) (h1 : w.cell? ⟨g, 1, none⟩ = some (.int .i64 y)) :
    (results fn tmps).run Try.prog w = .ok (.tuple #[.agg #[.int .i64 x, .int .i64 y], tmps.getD u undef]) w := by
  subst hty
  simp [results, h, ht, h0, h1, go_sem]
/-- the results' own block -/
def runB (w : World) : World := w.alloc (.cells #[.int .i64 0, .int .i64 0] 69)
theorem runB_cell0 (w : World) : (runB w).cell? ⟨w.heap.size, 0, none⟩ = some (.int .i64 0) := by unfold runB; rw [World.cell?_alloc_new]; rfl
theorem runB_cell1 (w : World) : (runB w).cell? ⟨w.heap.size, 1, none⟩ = some (.int .i64 0) := by unfold runB; rw [World.cell?_alloc_new]; rfl
theorem below_runB (w : World) : Below w.heap.size w (runB w) := (Below.refl _ _).alloc (Nat.le_refl _) _
theorem old_cell {w : World} {g j : Nat} {v : Value} (h : w.cell? ⟨g, j, none⟩ = some v) (o : Obj) : (w.alloc o).cell? ⟨g, j, none⟩ = some v :=
  (((Below.refl w.heap.size w).alloc (Nat.le_refl _) o).cell (p := ⟨g, j, none⟩) (World.block_lt_of_cell? w _ h)).trans h
/-- windows, by any number -/
def rnWI (n wd : Nat) (x : Int) : Option (Nat × Nat) := if 0 ≤ x ∧ x ≤ (n : Int) - wd then some (x.toNat, x.toNat + wd - 1) else none
theorem rnWI_nat (n wd p : Nat) : rnWI n wd (p : Int) = rnW n wd p := by
  unfold rnWI rnW
  by_cases h : p + wd ≤ n
  · rw [if_pos h, if_pos (by omega), Int.toNat_natCast]
  · rw [if_neg h, if_neg (by omega)]
def rnNI (n : Nat) (x : Int) : Option (Nat × Nat) := if 0 ≤ x ∧ x < (n : Int) then some (x.toNat - 1, min (n - 1) (x.toNat + 1)) else none
end Ed

theorem windowsIn1_p (w : World) (n wd g1 g2 : Nat) (x : Int) (hn : n ≤ 60) (h1 : 1 ≤ wd) (h2 : wd ≤ n) (c1 : w.cell? ⟨g1, 0, none⟩ = some (.int .i64 (n : Int))) (c2 : w.cell? ⟨g2, 0, none⟩ = some (.int .i64 (wd : Int))) :
    Calls Try.prog 74 #[.int .i64 x, .pointer (some ⟨g1, 0, none⟩), .pointer (some ⟨g2, 0, none⟩)] w fun e w' => e = .returned (runV (rnWI n wd x)) ∧ Below w.heap.size w w' := by
  have d1 : (w.alloc (.cells #[.int .i64 0, .int .i64 0] 69)).cell? ⟨g1, 0, none⟩ = some (.int .i64 (n : Int)) := old_cell c1 _
  have d2 : (w.alloc (.cells #[.int .i64 0, .int .i64 0] 69)).cell? ⟨g2, 0, none⟩ = some (.int .i64 (wd : Int)) := old_cell c2 _
  clear c1 c2
  by_cases hx : 0 ≤ x
  · have b1 : decide (x < 0) = false := decide_eq_false (by omega)
    have hx2 : ¬ x < 0 := by omega
    by_cases hy : x ≤ (n : Int) - wd
    · obtain ⟨p, rfl⟩ : ∃ p : Nat, x = (p : Int) := ⟨x.toNat, by omega⟩
      have H0 : Hid (rnWI n wd (p : Int) = some (p, p + wd - 1)) := Lib.hid (by unfold rnWI; rw [if_pos ⟨hx, hy⟩, Int.toNat_natCast])
      have i1 : ¬ (n : Int) - (wd : Int) < (p : Int) := by omega
      have i2 : (p : Int) + (wd : Int) - 1 = ((p + wd - 1 : Nat) : Int) := by omega
      obtain ⟨q, hq⟩ : ∃ q, q = p + wd - 1 := ⟨_, rfl⟩
      rw [← hq] at H0 i2
      clear hq
      go_enter Try.func74, Try.ntmps74
      go_wp2
      (try simp only [Exit.inBlock, Exit.then])
      refine bodyPost_ret (results_run rfl _ _ w.heap.size (p : Int) (q : Int) rfl rfl (by rw [World.cell?_alloc_new]; rfl) (by rw [World.cell?_alloc_new]; rfl)) rfl ?_
      exact ⟨by rw [H0.out, runV_some]; rfl, (Below.refl _ _).alloc (Nat.le_refl _) _⟩
    · have H0 : Hid (rnWI n wd x = none) := Lib.hid (by unfold rnWI; rw [if_neg (fun h => hy h.2)])
      have i1 : (n : Int) - (wd : Int) < x := by omega
      go_enter Try.func74, Try.ntmps74
      go_wp2
      (try simp only [Exit.inBlock, Exit.then])
      refine bodyPost_ret (results_run rfl _ _ w.heap.size 0 0 rfl rfl (by rw [World.cell?_alloc_new]; rfl) (by rw [World.cell?_alloc_new]; rfl)) rfl ?_
      exact ⟨by rw [H0.out, runV_none]; rfl, (Below.refl _ _).alloc (Nat.le_refl _) _⟩
  · have H0 : Hid (rnWI n wd x = none) := Lib.hid (by unfold rnWI; rw [if_neg (fun h => hx h.1)])
    have b1 : decide (x < 0) = true := decide_eq_true (by omega)
    have hx2 : x < 0 := by omega
    go_enter Try.func74, Try.ntmps74
    go_wp2
    (try simp only [Exit.inBlock, Exit.then])
    refine bodyPost_ret (results_run rfl _ _ w.heap.size 0 0 rfl rfl (by rw [World.cell?_alloc_new]; rfl) (by rw [World.cell?_alloc_new]; rfl)) rfl ?_
    exact ⟨by rw [H0.out, runV_none]; rfl, (Below.refl _ _).alloc (Nat.le_refl _) _⟩
theorem windowsIn_p (w : World) (n wd : Nat) : Calls Try.prog 54 #[.int .i64 (n : Int), .int .i64 (wd : Int)] w fun e w' => ∃ g1 g2, e = .returned (.func (.func 74) #[] #[.pointer (some ⟨g1, 0, none⟩), .pointer (some ⟨g2, 0, none⟩)]) ∧
    w'.cell? ⟨g1, 0, none⟩ = some (.int .i64 (n : Int)) ∧ w'.cell? ⟨g2, 0, none⟩ = some (.int .i64 (wd : Int)) ∧ w.heap.size ≤ g1 ∧ w.heap.size ≤ g2 ∧ Below w.heap.size w w' := by
  go_enter Try.func54, Try.ntmps54
  go_wp2
  go_ret
  exact ⟨_, _, rfl, old_cell (by rw [World.cell?_alloc_new]; rfl) _, by rw [show w.heap.size + 1 = (w.alloc (.cells #[.int .i64 (n : Int)] 3)).heap.size from by simp, World.cell?_alloc_new]; rfl, Nat.le_refl _, Nat.le_succ _, ((Below.refl _ _).alloc (Nat.le_refl _) _).alloc (by simp) _⟩

theorem neighboursIn1_p (w : World) (n g1 : Nat) (x : Int) (hn : n ≤ 60) (c1 : w.cell? ⟨g1, 0, none⟩ = some (.int .i64 (n : Int))) :
    Calls Try.prog 76 #[.int .i64 x, .pointer (some ⟨g1, 0, none⟩)] w fun e w' => e = .returned (runV (rnNI n x)) ∧ Below w.heap.size w w' := by
  have d1 : (w.alloc (.cells #[.int .i64 0, .int .i64 0] 69)).cell? ⟨g1, 0, none⟩ = some (.int .i64 (n : Int)) := old_cell c1 _
  clear c1
  by_cases hx : 0 ≤ x
  · have b1 : decide (x < 0) = false := decide_eq_false (by omega)
    have hx2 : ¬ x < 0 := by omega
    by_cases hy : x < (n : Int)
    · obtain ⟨p, rfl⟩ : ∃ p : Nat, x = (p : Int) := ⟨x.toNat, by omega⟩
      have H0 : Hid (rnNI n (p : Int) = some (p - 1, min (n - 1) (p + 1))) := Lib.hid (by unfold rnNI; rw [if_pos ⟨hx, hy⟩, Int.toNat_natCast])
      have i1 : ¬ (n : Int) ≤ (p : Int) := by omega
      obtain ⟨q, hq⟩ : ∃ q, q = p - 1 := ⟨_, rfl⟩
      obtain ⟨r, hr⟩ : ∃ r, r = min (n - 1) (p + 1) := ⟨_, rfl⟩
      have HQ : Hid (max ((p : Int) - 1) 0 = (q : Int)) := Lib.hid (by omega)
      have HR : Hid (min ((p : Int) + 1) ((n : Int) - 1) = (r : Int)) := Lib.hid (by omega)
      rw [← hq, ← hr] at H0
      clear hq hr
      go_enter Try.func76, Try.ntmps76
      go_wp2
      · (try simp only [Exit.inBlock, Exit.then])
        refine bodyPost_ret (results_run rfl _ _ w.heap.size (0) ((n : Int) - 1) rfl rfl (by rw [World.cell?_alloc_new]; rfl) (by rw [World.cell?_alloc_new]; rfl)) rfl ?_
        exact ⟨by rw [H0.out, runV_some, show (q : Int) = 0 by have := HQ.out; omega, show (r : Int) = (n : Int) - 1 by have := HR.out; omega]; rfl, (Below.refl _ _).alloc (Nat.le_refl _) _⟩
      · (try simp only [Exit.inBlock, Exit.then])
        refine bodyPost_ret (results_run rfl _ _ w.heap.size (0) ((p : Int) + 1) rfl rfl (by rw [World.cell?_alloc_new]; rfl) (by rw [World.cell?_alloc_new]; rfl)) rfl ?_
        exact ⟨by rw [H0.out, runV_some, show (q : Int) = 0 by have := HQ.out; omega, show (r : Int) = (p : Int) + 1 by have := HR.out; omega]; rfl, (Below.refl _ _).alloc (Nat.le_refl _) _⟩
      · (try simp only [Exit.inBlock, Exit.then])
        refine bodyPost_ret (results_run rfl _ _ w.heap.size ((p : Int) - 1) ((n : Int) - 1) rfl rfl (by rw [World.cell?_alloc_new]; rfl) (by rw [World.cell?_alloc_new]; rfl)) rfl ?_
        exact ⟨by rw [H0.out, runV_some, show (q : Int) = (p : Int) - 1 by have := HQ.out; omega, show (r : Int) = (n : Int) - 1 by have := HR.out; omega]; rfl, (Below.refl _ _).alloc (Nat.le_refl _) _⟩
      · (try simp only [Exit.inBlock, Exit.then])
        refine bodyPost_ret (results_run rfl _ _ w.heap.size ((p : Int) - 1) ((p : Int) + 1) rfl rfl (by rw [World.cell?_alloc_new]; rfl) (by rw [World.cell?_alloc_new]; rfl)) rfl ?_
        exact ⟨by rw [H0.out, runV_some, show (q : Int) = (p : Int) - 1 by have := HQ.out; omega, show (r : Int) = (p : Int) + 1 by have := HR.out; omega]; rfl, (Below.refl _ _).alloc (Nat.le_refl _) _⟩
    · have H0 : Hid (rnNI n x = none) := Lib.hid (by unfold rnNI; rw [if_neg (fun h => hy h.2)])
      have i1 : (n : Int) ≤ x := by omega
      go_enter Try.func76, Try.ntmps76
      go_wp2
      (try simp only [Exit.inBlock, Exit.then])
      refine bodyPost_ret (results_run rfl _ _ w.heap.size 0 0 rfl rfl (by rw [World.cell?_alloc_new]; rfl) (by rw [World.cell?_alloc_new]; rfl)) rfl ?_
      exact ⟨by rw [H0.out, runV_none]; rfl, (Below.refl _ _).alloc (Nat.le_refl _) _⟩
  · have H0 : Hid (rnNI n x = none) := Lib.hid (by unfold rnNI; rw [if_neg (fun h => hx h.1)])
    have b1 : decide (x < 0) = true := decide_eq_true (by omega)
    have hx2 : x < 0 := by omega
    go_enter Try.func76, Try.ntmps76
    go_wp2
    (try simp only [Exit.inBlock, Exit.then])
    refine bodyPost_ret (results_run rfl _ _ w.heap.size 0 0 rfl rfl (by rw [World.cell?_alloc_new]; rfl) (by rw [World.cell?_alloc_new]; rfl)) rfl ?_
    exact ⟨by rw [H0.out, runV_none]; rfl, (Below.refl _ _).alloc (Nat.le_refl _) _⟩
theorem neighboursIn_p (w : World) (n : Nat) : Calls Try.prog 56 #[.int .i64 (n : Int)] w fun e w' => ∃ g1, e = .returned (.func (.func 76) #[] #[.pointer (some ⟨g1, 0, none⟩)]) ∧
    w'.cell? ⟨g1, 0, none⟩ = some (.int .i64 (n : Int)) ∧ w.heap.size ≤ g1 ∧ Below w.heap.size w w' := by
  go_enter Try.func56, Try.ntmps56
  go_wp2
  go_ret
  exact ⟨_, rfl, by rw [World.cell?_alloc_new]; rfl, Nat.le_refl _, (Below.refl _ _).alloc (Nat.le_refl _) _⟩

end Go.Proofs.Ytkdpjimbhpclaab
