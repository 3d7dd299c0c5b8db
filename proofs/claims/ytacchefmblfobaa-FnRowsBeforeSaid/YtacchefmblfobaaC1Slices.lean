
/- The verifier's eqIntS, markIntS and heldIntS at slices that a call made. -/
import Derived.Test.YtacchefmblfobaaC1Tick
import Derived.Deep.QuietTactic
import Derived.BigQuiet
import Derived.WalkSmall
namespace Go.Proofs.Ytacchefmblfobaa.C1
open Go.ChangeShapes Go.WideShapes Go.ChangeAt Go.RowKit

/-- v is a slice of these ints, in memory from B on that a call made -/
def Own (w : World) (B : Nat) (v : Value) (zs : List Int) : Prop := w.ownsRow B 3 1 v zs.length (zs.map (Value.int .i64))
theorem Own.of_ints {w : World} {B : Nat} {v : Value} {ps : List Nat} (h : w.ownsRow B 3 1 v ps.length (ints ps)) : Own w B v (ps.map fun i : Nat => (i : Int)) := by
  unfold Own
  rw [List.length_map, List.map_map]
  exact h
theorem Own.shape {w : World} {B : Nat} {v : Value} {zs : List Int} (h : Own w B v zs) :
    (v = .slice none 0 0 ∧ zs.length = 0) ∨ ∃ g cap, v = .slice (some ⟨g, 0, none⟩) zs.length cap ∧ B ≤ g ∧ g < w.heap.size := by
  rcases h.2 with ⟨h1, h2⟩ | ⟨g, cap, cur, hv, hg, hh, _⟩
  · exact .inl ⟨h1, h2⟩
  · exact .inr ⟨g, cap, hv, hg, lt_of_block hh⟩
theorem Own.any {w : World} {B : Nat} {v : Value} {zs : List Int} (h : Own w B v zs) : ∃ ao cap, v = .slice ao zs.length cap := by
  rcases h.shape with ⟨h1, h2⟩ | ⟨g, cap, h1, _⟩
  · exact ⟨none, 0, by rw [h1, h2]⟩
  · exact ⟨_, _, h1⟩
theorem Own.point {w : World} {B : Nat} {v : Value} {zs : List Int} (h : Own w B v zs) (hn : 0 < zs.length) : ∃ g cap, v = .slice (some ⟨g, 0, none⟩) zs.length cap ∧ B ≤ g ∧ g < w.heap.size := by
  rcases h.shape with ⟨_, h2⟩ | h1
  · omega
  · exact h1
theorem Own.cell {w : World} {B g cap n : Nat} {zs : List Int} (h : Own w B (.slice (some ⟨g, 0, none⟩) n cap) zs) (hn : n = zs.length) (j : Nat) (hj : j < zs.length) : w.cell? ⟨g, j, none⟩ = some (.int .i64 (zs.getD j 0)) := by
  subst hn
  unfold Own at h
  rw [h.cellAt j (by omega)]
  simp [hj]
theorem Own.free {w : World} {B g cap n : Nat} {zs : List Int} (h : Own w B (.slice (some ⟨g, 0, none⟩) n cap) zs) (hn : n = zs.length) (j : Nat) : w.frozen? ⟨g, j, none⟩ = false := by
  subst hn
  unfold Own at h
  exact h.frozenAt j
theorem Own.below {w w' : World} {B C : Nat} {v : Value} {zs : List Int} (h : Own w B v zs) (hb : Below C w w') (hC : w.heap.size ≤ C) : Own w' B v zs := by
  unfold Own at h ⊢
  exact h.kept (row := none) ⟨hb.os, hb.tape, hb.output, hb.size, fun k hk _ => hb.block k (by omega)⟩ (by cases v.ownBlock <;> simp)
theorem Own.grown {w w' : World} {B : Nat} {v : Value} {zs : List Int} {r : Option Nat} (h : Own w B v zs) (hg : w.grownBy w' r) (hr : ∀ k, r = some k → w.heap.size ≤ k ∨ v.ownBlock ≠ some k) : Own w' B v zs := by
  unfold Own at h ⊢
  refine h.kept hg ?_
  rcases hv : v.ownBlock with _ | b
  · exact .inl rfl
  · refine .inr (fun e => ?_)
    rcases hr b e.symm with h1 | h1
    · have := (World.ownsRow.lt h b hv).2; omega
    · exact h1 hv
theorem Own.set {w : World} {B g cap n : Nat} {zs : List Int} (h : Own w B (.slice (some ⟨g, 0, none⟩) n cap) zs) (hn : n = zs.length) (j : Nat) (z : Int) : Own (w.setCell ⟨g, j, none⟩ (.int .i64 z)) B (.slice (some ⟨g, 0, none⟩) n cap) (zs.set j z) := by
  subst hn
  unfold Own at h ⊢
  rw [List.length_set, List.map_set]
  exact (h.stored j _).1

def asInts (ps : List Nat) : List Int := ps.map fun i : Nat => (i : Int)
theorem own_nil (w : World) (B : Nat) : Own w B (.slice none 0 0) [] := World.ownsRow_nil _ _ _ _
theorem Own.mono {w : World} {B B' : Nat} {v : Value} {zs : List Int} (h : Own w B v zs) (hb : B' ≤ B) : Own w B' v zs := by
  unfold Own at h ⊢
  refine ⟨h.1, ?_⟩
  rcases h.2 with h2 | ⟨g, cap, cur, a, b, r⟩
  · exact .inl h2
  · exact .inr ⟨g, cap, cur, a, Nat.le_trans hb b, r⟩

theorem own_alloc {w : World} {B : Nat} {v : Value} {zs : List Int} (h : Own w B v zs) (o : Obj) : Own (w.alloc o) B v zs := by
  unfold Own at h ⊢; exact h.alloc o

theorem int_eq {a b : Int} (h : a = b) : Value.int .i64 a = .int .i64 b := by rw [h]


/-- k, k + 1, .. as far as they have been written -/
def marksTo (zs : List Int) (k0 : Int) (j : Nat) : List Int := (List.range j).map (fun i : Nat => k0 + (i : Int)) ++ zs.drop j
theorem length_marksTo (zs : List Int) (k0 : Int) (j : Nat) (hj : j ≤ zs.length) : (marksTo zs k0 j).length = zs.length := by simp [marksTo]; omega
theorem marksTo_zero (zs : List Int) (k0 : Int) : marksTo zs k0 0 = zs := by simp [marksTo]
theorem marksTo_succ (zs : List Int) (k0 : Int) (j : Nat) (hj : j < zs.length) : (marksTo zs k0 j).set j (k0 + (j : Int)) = marksTo zs k0 (j + 1) := by
  unfold marksTo
  rw [List.drop_eq_getElem_cons hj, List.range_succ, List.map_append, List.append_assoc, List.set_append_right _ _ (by simp), List.length_map, List.length_range, Nat.sub_self, List.set_cons_zero]
  rfl
theorem marks_all (zs : List Int) (k0 : Int) : marksTo zs k0 zs.length = (List.range zs.length).map (fun i : Nat => k0 + (i : Int)) := by simp [marksTo]
def marks (k0 : Int) (n : Nat) : List Int := (List.range n).map (fun i : Nat => k0 + (i : Int))
@[simp] theorem length_marks (k0 : Int) (n : Nat) : (marks k0 n).length = n := by simp [marks]
theorem getD_marks (k0 : Int) (n j : Nat) (hj : j < n) : (marks k0 n).getD j 0 = k0 + (j : Int) := by simp [marks, List.getD_eq_getElem?_getD, hj]



end Go.Proofs.Ytacchefmblfobaa.C1
