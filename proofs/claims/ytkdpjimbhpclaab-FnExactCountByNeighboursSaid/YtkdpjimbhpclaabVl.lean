/- Chapter 7, the program: what makes runs of lists. -/
import Derived.Test.YtkdpjimbhpclaabVk
namespace Go.Proofs.Ytkdpjimbhpclaab
open Go.ChangeShapes Go.WideShapes Go.ChangeAt Go.RowKit
open Rx Od Ed

namespace Ed
def rnR (n : Nat) (r : List Int) : Option (Nat × Nat) := if runOk n r then some ((r.getD 0 0).toNat, (r.getD 1 0).toNat) else none
theorem rnR_no {n : Nat} {r : List Int} (h : ¬ (r.length = 2 ∧ 0 ≤ r.getD 0 0 ∧ r.getD 0 0 ≤ r.getD 1 0 ∧ r.getD 1 0 < (n : Int))) : rnR n r = none := by
  unfold rnR
  rw [if_neg]
  intro e
  apply h
  unfold runOk at e
  simp only [Bool.and_eq_true, decide_eq_true_eq] at e
  obtain ⟨h1, h2⟩ := inB_yes e.2.1
  obtain ⟨h3, h4⟩ := inB_yes e.2.2
  exact ⟨e.1, h1, h3, by omega⟩
theorem rnR_yes {n : Nat} {r : List Int} {x y : Nat} (h1 : r.length = 2) (hx : r.getD 0 0 = (x : Int)) (hy : r.getD 1 0 = (y : Int)) (h2 : x ≤ y) (h3 : y < n) : rnR n r = some (x, y) := by
  unfold rnR
  rw [if_pos, hx, hy]; · rfl
  unfold runOk
  rw [hx, hy, decide_eq_true h1, inB_of (by omega), inB_of (by omega)]; rfl
theorem setTwo0 {w : World} {g : Nat} {x y u v : Value} (h0 : w.cell? ⟨g, 0, none⟩ = some u) (_h1 : w.cell? ⟨g, 1, none⟩ = some v) : ((w.setCell ⟨g, 0, none⟩ x).setCell ⟨g, 1, none⟩ y).cell? ⟨g, 0, none⟩ = some x := by
  have h2 : (w.setCell ⟨g, 0, none⟩ x).cell? ⟨g, 0, none⟩ = some x := by go_simp
  go_simp
theorem setTwo1 {w : World} {g : Nat} {x y u v : Value} (_h0 : w.cell? ⟨g, 0, none⟩ = some u) (h1 : w.cell? ⟨g, 1, none⟩ = some v) : ((w.setCell ⟨g, 0, none⟩ x).setCell ⟨g, 1, none⟩ y).cell? ⟨g, 1, none⟩ = some y := by
  go_simp
end Ed

set_option maxHeartbeats 2000000 in
theorem runsIn1_p (w : World) (n g1 : Nat) (a : Option Addr) (len cap : Nat) (zs : List Int) (hl : len ≤ 1048576) (hc : Came w a len zs) (c1 : w.cell? ⟨g1, 0, none⟩ = some (.int .i64 (n : Int))) :
    Calls Try.prog 73 #[.slice a len cap, .pointer (some ⟨g1, 0, none⟩)] w fun e w' => e = .returned (runV (rnR n zs)) ∧ Below w.heap.size w w' := by
  have d1 : ∀ m, ((w.alloc (.cells #[.int .i64 0, .int .i64 0] 69)).drewN m).cell? ⟨g1, 0, none⟩ = some (.int .i64 (n : Int)) := fun m => old_cell c1 _
  have HB : Hid (∀ m, Below w.heap.size w ((w.alloc (.cells #[.int .i64 0, .int .i64 0] 69)).drewN m)) := Lib.hid (fun m => below_drewN ((Below.refl _ _).alloc (Nat.le_refl _) _) m)
  have HR0 : Hid (∀ m, ((w.alloc (.cells #[.int .i64 0, .int .i64 0] 69)).drewN m).cell? ⟨w.heap.size, 0, none⟩ = some (.int .i64 0)) := Lib.hid (fun m => runB_cell0 w)
  have HR1 : Hid (∀ m, ((w.alloc (.cells #[.int .i64 0, .int .i64 0] 69)).drewN m).cell? ⟨w.heap.size, 1, none⟩ = some (.int .i64 0)) := Lib.hid (fun m => runB_cell1 w)
  clear c1
  by_cases h2 : len = 2
  · subst h2
    obtain ⟨bb, off, rfl, hcell⟩ := hc.2 (by omega)
    have k0 := hcell 0 (by omega)
    have k1 := hcell 1 (by omega)
    rw [Nat.add_zero] at k0
    have HL : Hid (zs.length = 2) := Lib.hid hc.1
    obtain ⟨x, hx⟩ : ∃ x, x = zs.getD 0 0 := ⟨_, rfl⟩
    obtain ⟨y, hy⟩ : ∃ y, y = zs.getD 1 0 := ⟨_, rfl⟩
    rw [← hx] at k0
    rw [← hy] at k1
    have HX := Lib.hid hx
    have HY := Lib.hid hy
    have e0 : ∀ m, ((w.alloc (.cells #[.int .i64 0, .int .i64 0] 69)).drewN m).cell? ⟨bb, off, none⟩ = some (.int .i64 x) := fun m => old_cell k0 _
    have e1 : ∀ m, ((w.alloc (.cells #[.int .i64 0, .int .i64 0] 69)).drewN m).cell? ⟨bb, off + 1, none⟩ = some (.int .i64 y) := fun m => old_cell k1 _
    clear hc hcell k0 k1 hx hy
    by_cases hx0 : 0 ≤ x
    · by_cases hxy : x ≤ y
      · by_cases hyn : y < (n : Int)
        · have H0 := Lib.hid (rnR_yes (n := n) (x := x.toNat) (y := y.toNat) HL.out (by have := HX.out; omega) (by have := HY.out; omega) (by omega) (by omega))
          have b1 : decide (x < 0) = false := decide_eq_false (by omega)
          have b2 : decide (y < x) = false := decide_eq_false (by omega)
          have b3 : decide ((n : Int) ≤ y) = false := decide_eq_false (by omega)
          have b4 : ¬ (y < x) := by omega
          have b5 : ¬ ((n : Int) ≤ y) := by omega
          have z0 := HR0.out
          have z1 := HR1.out
          have f0 : ∀ m j, ((w.alloc (.cells #[.int .i64 0, .int .i64 0] 69)).drewN m).frozen? ⟨w.heap.size, j, none⟩ = false := fun m j => frozen_of_row (w.alloc (.cells #[.int .i64 0, .int .i64 0] 69)) w.heap.size j _ _ (heap_alloc_new w _)
          go_enter Try.func73, Try.ntmps73
          go_wp2_with fail
          go_quiet (fail)
          go_wp2_with fail
          go_region
          go_wp2
          (try simp only [Exit.inBlock, Exit.then])
          refine bodyPost_ret (results_run rfl _ _ w.heap.size x y rfl rfl (setTwo0 (HR0.out _) (HR1.out _)) (setTwo1 (HR0.out _) (HR1.out _))) rfl ?_
          exact ⟨by rw [H0.out, runV_some, show ((x.toNat : Nat) : Int) = x by omega, show ((y.toNat : Nat) : Int) = y by omega]; rfl, ((HB.out _).setCell (Nat.le_refl _) _).setCell (Nat.le_refl _) _⟩
        · have H0 := Lib.hid (rnR_no (n := n) (r := zs) (fun h => hyn (by rw [HY.out]; exact h.2.2.2)))
          have b1 : decide (x < 0) = false := decide_eq_false (by omega)
          have b2 : decide (y < x) = false := decide_eq_false (by omega)
          have b3 : decide ((n : Int) ≤ y) = true := decide_eq_true (by omega)
          have b4 : ¬ (y < x) := by omega
          have b5 : (n : Int) ≤ y := by omega
          go_enter Try.func73, Try.ntmps73
          go_wp2_with fail
          go_quiet (fail)
          go_wp2
          (try simp only [Exit.inBlock, Exit.then])
          refine bodyPost_ret (results_run rfl _ _ w.heap.size 0 0 rfl rfl (setTwo0 (HR0.out _) (HR1.out _)) (setTwo1 (HR0.out _) (HR1.out _))) rfl ?_
          exact ⟨by rw [H0.out, runV_none]; rfl, ((HB.out _).setCell (Nat.le_refl _) _).setCell (Nat.le_refl _) _⟩
      · have H0 := Lib.hid (rnR_no (n := n) (r := zs) (fun h => hxy (by rw [HX.out, HY.out]; exact h.2.2.1)))
        have b1 : decide (x < 0) = false := decide_eq_false (by omega)
        have b2 : decide (y < x) = true := decide_eq_true (by omega)
        have b4 : y < x := by omega
        go_enter Try.func73, Try.ntmps73
        go_wp2_with fail
        go_quiet (fail)
        go_wp2
        (try simp only [Exit.inBlock, Exit.then])
        refine bodyPost_ret (results_run rfl _ _ w.heap.size 0 0 rfl rfl (setTwo0 (HR0.out _) (HR1.out _)) (setTwo1 (HR0.out _) (HR1.out _))) rfl ?_
        exact ⟨by rw [H0.out, runV_none]; rfl, ((HB.out _).setCell (Nat.le_refl _) _).setCell (Nat.le_refl _) _⟩
    · have H0 := Lib.hid (rnR_no (n := n) (r := zs) (fun h => hx0 (by rw [HX.out]; exact h.2.1)))
      have b1 : decide (x < 0) = true := decide_eq_true (by omega)
      have b4 : x < 0 := by omega
      go_enter Try.func73, Try.ntmps73
      go_wp2_with fail
      go_quiet (fail)
      go_wp2
      (try simp only [Exit.inBlock, Exit.then])
      refine bodyPost_ret (results_run rfl _ _ w.heap.size 0 0 rfl rfl (setTwo0 (HR0.out _) (HR1.out _)) (setTwo1 (HR0.out _) (HR1.out _))) rfl ?_
      exact ⟨by rw [H0.out, runV_none]; rfl, ((HB.out _).setCell (Nat.le_refl _) _).setCell (Nat.le_refl _) _⟩
  · have H0 := Lib.hid (rnR_no (n := n) (r := zs) (fun h => h2 (by rw [← hc.1]; exact h.1)))
    have hne : ((len : Int) != 2) = true := by rw [bne_iff_ne]; omega
    clear hc h2
    go_enter Try.func73, Try.ntmps73
    go_wp2_with fail
    go_quiet (fail)
    go_wp2
    (try simp only [Exit.inBlock, Exit.then])
    refine bodyPost_ret (results_run rfl _ _ w.heap.size 0 0 rfl rfl (setTwo0 (HR0.out _) (HR1.out _)) (setTwo1 (HR0.out _) (HR1.out _))) rfl ?_
    exact ⟨by rw [H0.out, runV_none]; rfl, ((HB.out _).setCell (Nat.le_refl _) _).setCell (Nat.le_refl _) _⟩
theorem runsIn_p (w : World) (n : Nat) : Calls Try.prog 50 #[.int .i64 (n : Int)] w fun e w' => ∃ g1, e = .returned (.func (.func 73) #[] #[.pointer (some ⟨g1, 0, none⟩)]) ∧
    w'.cell? ⟨g1, 0, none⟩ = some (.int .i64 (n : Int)) ∧ w.heap.size ≤ g1 ∧ Below w.heap.size w w' := by
  go_enter Try.func50, Try.ntmps50
  go_wp2
  go_ret
  exact ⟨_, rfl, by rw [World.cell?_alloc_new]; rfl, Nat.le_refl _, (Below.refl _ _).alloc (Nat.le_refl _) _⟩

end Go.Proofs.Ytkdpjimbhpclaab
