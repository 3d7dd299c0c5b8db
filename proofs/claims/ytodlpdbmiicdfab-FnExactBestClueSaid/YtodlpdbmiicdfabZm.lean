/- Chapter 9, the program: cut. -/
import Derived.Test.YtodlpdbmiicdfabZk
namespace Go.Proofs.Ytodlpdbmiicdfab
open Go.ChangeShapes Go.WideShapes Go.ChangeAt Go.RowKit
open Pz

theorem at_second {w : World} {A : Obj} {xs : Array Value} {t : TypeId} {j : Nat} {v : Value} (h : xs[j]? = some v) : ((w.alloc A).alloc (.cells xs t)).drew.cell? ⟨w.heap.size + 1, j, none⟩ = some v := by
  show ((w.alloc A).alloc (.cells xs t)).cell? ⟨w.heap.size + 1, j, none⟩ = some v
  rw [show w.heap.size + 1 = (w.alloc A).heap.size from (Array.size_push _).symm, World.cell?_alloc_new]
  exact h
set_option maxHeartbeats 4000000 in
theorem cut_some (w : World) (s : Int) (ad : Addr) (len cap : Nat) (i j : Nat) (ao : Option Addr) (hif : (if j = i then some ad else some (ad.add (i * 4))) = ao) (hij : i ≤ j) (hjc : j ≤ cap) :
    Calls Try.prog 61 #[.agg #[.int .i64 s, .slice (some ad) len cap], .int .i64 (i : Int), .int .i64 (j : Int)] w fun e w' => e = .returned (.agg #[.int .i64 s, .slice ao (j - i) (j - i)]) ∧ Below w.heap.size w w' := by
  have HST : Hid (KZ2 w s (some ad) len cap ((w.alloc (.cells #[.int .i64 s, .slice (some ad) len cap] 31)).alloc (.cells #[.int .i64 0, .slice none 0 0] 31))) := Lib.hid (KZ2.start ..)
  have c0 := HST.out.one.c0
  have c1 := HST.out.one.c1
  have s0 := HST.out.r0
  have s1 := HST.out.r1
  have g0 := HST.out.f0
  have g1 := HST.out.f1
  have i1 : (0 : Int) ≤ (i : Int) := by omega
  have i2 : (i : Int) ≤ (j : Int) := by omega
  have i3 : (j : Int) ≤ (cap : Int) := by omega
  go_enter Try.func61, Try.ntmps61
  go_wp2_with fail
  go_region_held_law (fun w' => w'.cell? ⟨w.heap.size, 0, none⟩ = some (.int .i64 s) ∧ w'.cell? ⟨w.heap.size, 1, none⟩ = some (.slice (some ad) len cap)) (first | go_keep | exact ⟨cell_far (cell_far HST.out.one.c0 (by omega)) (by omega), cell_far (cell_far HST.out.one.c1 (by omega)) (by omega)⟩)
    (fail)
  all_goals
    go_wp2
    (try simp only [Exit.inBlock, Exit.then])
    refine bodyPost_ret (results_oneZ rfl _ _ (w.heap.size + 1) s (.slice ao (j - i) (j - i)) rfl rfl (at_second (w := w) (j := 0) (by rfl)) (at_second (w := w) (j := 1) (by rfl))) rfl ?_
    exact ⟨rfl, below_drewC (((Below.refl _ _).alloc (Nat.le_refl _) _).alloc (by simp) _)⟩
set_option maxHeartbeats 4000000 in
theorem cut_none (w : World) (s : Int) (cap : Nat) :
    Calls Try.prog 61 #[.agg #[.int .i64 s, .slice none 0 cap], .int .i64 0, .int .i64 0] w fun e w' => e = .returned (.agg #[.int .i64 s, .slice none 0 0]) ∧ Below w.heap.size w w' := by
  have HST : Hid (KZ2 w s none 0 cap ((w.alloc (.cells #[.int .i64 s, .slice none 0 cap] 31)).alloc (.cells #[.int .i64 0, .slice none 0 0] 31))) := Lib.hid (KZ2.start ..)
  have c0 := HST.out.one.c0
  have c1 := HST.out.one.c1
  have s0 := HST.out.r0
  have s1 := HST.out.r1
  have g0 := HST.out.f0
  have g1 := HST.out.f1
  go_enter Try.func61, Try.ntmps61
  go_wp2_with fail
  go_region_held_law (fun w' => w'.cell? ⟨w.heap.size, 0, none⟩ = some (.int .i64 s) ∧ w'.cell? ⟨w.heap.size, 1, none⟩ = some (.slice none 0 cap)) (first | go_keep | exact ⟨cell_far (cell_far HST.out.one.c0 (by omega)) (by omega), cell_far (cell_far HST.out.one.c1 (by omega)) (by omega)⟩)
    (fail)
  all_goals
    go_wp2
    (try simp only [Exit.inBlock, Exit.then])
    refine bodyPost_ret (results_oneZ rfl _ _ (w.heap.size + 1) s (.slice none 0 0) rfl rfl (at_second (w := w) (j := 0) (by rfl)) (at_second (w := w) (j := 1) (by rfl))) rfl ?_
    exact ⟨rfl, below_drewC (((Below.refl _ _).alloc (Nat.le_refl _) _).alloc (by simp) _)⟩
theorem cut_any (w : World) (s : Int) (a : Option Addr) (len cap : Nat) (cs : List RClue) (i j : Nat) (hij : i ≤ j) (hjl : j ≤ len) (hcp : len ≤ cap) (hc : CameClue w a len cs) :
    Calls Try.prog 61 #[.agg #[.int .i64 s, .slice a len cap], .int .i64 (i : Int), .int .i64 (j : Int)] w fun e w' => ∃ ao, e = .returned (.agg #[.int .i64 s, .slice ao (j - i) (j - i)]) ∧ CameClue w' ao (j - i) ((cs.drop i).take (j - i)) ∧ (ao = none → j - i = 0) ∧ Below w.heap.size w w' := by
  rcases a with _ | ad
  · have h0 : len = 0 := by
      rcases Nat.eq_zero_or_pos len with h | h
      · exact h
      · obtain ⟨b, off, h1, _⟩ := hc.2 h; cases h1
    obtain rfl : i = 0 := by omega
    obtain rfl : j = 0 := by omega
    subst h0
    exact (cut_none w s cap).mono fun e w' ⟨he, hb⟩ => ⟨none, he, ⟨by simp, fun h => absurd h (by omega)⟩, fun _ => rfl, hb⟩
  · refine (cut_some w s ad len cap i j _ rfl hij (by omega)).mono fun e w' ⟨he, hb⟩ => ⟨_, he, ?_, ?_, hb⟩
    · by_cases e : j = i
      · subst e
        exact ⟨by simp, fun h => absurd h (by omega)⟩
      · rw [if_neg e]
        obtain ⟨b, off, h1, _⟩ := hc.2 (by omega)
        injection h1 with h1
        subst h1
        have h2 := ((hc.below hb).dropC (k := i)).takeC (k := j - i) (by omega)
        rw [show (⟨b, off, none⟩ : Addr).add (i * 4) = ⟨b, off + i * 4, none⟩ from by simp [Addr.add]]
        exact h2
    · intro h
      split at h <;> cases h

end Go.Proofs.Ytodlpdbmiicdfab
