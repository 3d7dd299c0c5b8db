/- Two rows of a slice of rows of the call's own exchanged. -/
import Derived.Test.YtkdpjimbhpclaabCa
namespace Go.Proofs.Ytkdpjimbhpclaab
open Go.ChangeShapes Go.WideShapes Go.ChangeAt Go.RowKit

theorem getD_set2 {α : Type} (l : List α) (i j k : Nat) (a b d : α) (hi : i < l.length) (hj : j < l.length) : ((l.set i a).set j b).getD k d = if k = j then b else if k = i then a else l.getD k d := by
  simp only [List.getD_eq_getElem?_getD, List.getElem?_set, List.length_set]
  by_cases h1 : k = j
  · subst h1; simp [hj]
  · rw [if_neg (fun e => h1 e.symm), if_neg h1]
    by_cases h2 : k = i
    · subst h2; simp [hi]
    · rw [if_neg (fun e => h2 e.symm), if_neg h2]
theorem SS.swap {w : World} {lo hi g n cap : Nat} {vs : List Value} {zss : List (List Int)} (h : SS w lo hi (.slice (some ⟨g, 0, none⟩) n cap) vs zss) (hn : n = vs.length) (i j : Nat) (hi' : i < vs.length) (hj : j < vs.length) :
    SS ((w.setCell ⟨g, i, none⟩ (vs.getD j undef)).setCell ⟨g, j, none⟩ (vs.getD i undef)) lo hi (.slice (some ⟨g, 0, none⟩) n cap) ((vs.set i (vs.getD j undef)).set j (vs.getD i undef)) ((zss.set i (zss.getD j [])).set j (zss.getD i [])) := by
  subst hn
  have hl := h.len
  have hk : ∀ k, k ≠ g → ((w.setCell ⟨g, i, none⟩ (vs.getD j undef)).setCell ⟨g, j, none⟩ (vs.getD i undef)).heap[k]? = w.heap[k]? := fun k hk => by
    rw [Below.heap_setCell _ _ _ _ (fun e => hk (by rw [e])), Below.heap_setCell _ _ _ _ (fun e => hk (by rw [e]))]
  obtain ⟨σ, hσ⟩ : ∃ σ : Nat → Nat, σ = fun k => if k = j then i else if k = i then j else k := ⟨_, rfl⟩
  have hlt : ∀ k, k < vs.length → σ k < vs.length := fun k hk => by rw [hσ]; simp only; split; exact hi'; split; exact hj; exact hk
  have hinj : ∀ k1 k2, k1 ≠ k2 → σ k1 ≠ σ k2 := fun k1 k2 hne => by rw [hσ]; simp only; split <;> split <;> (try split) <;> (try split) <;> omega
  have hv : ∀ k, ((vs.set i (vs.getD j undef)).set j (vs.getD i undef)).getD k undef = vs.getD (σ k) undef := fun k => by
    rw [getD_set2 _ _ _ _ _ _ _ hi' hj, hσ]; simp only
    split
    · rfl
    · split <;> rfl
  have hz : ∀ k, ((zss.set i (zss.getD j [])).set j (zss.getD i [])).getD k [] = zss.getD (σ k) [] := fun k => by
    rw [getD_set2 _ _ _ _ _ _ _ (by omega) (by omega), hσ]; simp only
    split
    · rfl
    · split <;> rfl
  have h1 := (h.own.stored i (vs.getD j undef)).1
  have h2 := (h1.stored j (vs.getD i undef)).1
  refine ⟨by rw [List.length_set, List.length_set]; exact h2, by rw [List.length_set, List.length_set, List.length_set, List.length_set]; exact hl, fun k hkl => ?_, fun k ek => h.lid k ek, fun k1 k2 hk1 hk2 hne k ek => ?_⟩
  · rw [List.length_set, List.length_set] at hkl
    rw [hv, hz]
    exact ⟨(h.row _ (hlt k hkl)).1.same fun b eb => hk b (fun e2 => h.outer rfl _ (hlt k hkl) (e2 ▸ eb)), (h.row _ (hlt k hkl)).2⟩
  · rw [List.length_set, List.length_set] at hk1 hk2
    rw [hv] at ek ⊢
    exact h.apart _ _ (hlt k1 hk1) (hlt k2 hk2) (hinj k1 k2 hne) k ek
theorem OwnSS.swap {w : World} {B g n cap : Nat} {zss : List (List Int)} (h : OwnSS w B (.slice (some ⟨g, 0, none⟩) n cap) zss) (hn : n = zss.length) (i j : Nat) (hi : i < n) (hj : j < n) :
    ∃ xi ci xj cj, w.cell? ⟨g, i, none⟩ = some (.slice xi (zss.getD i []).length ci) ∧ w.cell? ⟨g, j, none⟩ = some (.slice xj (zss.getD j []).length cj) ∧
      OwnSS ((w.setCell ⟨g, i, none⟩ (.slice xj (zss.getD j []).length cj)).setCell ⟨g, j, none⟩ (.slice xi (zss.getD i []).length ci)) B (.slice (some ⟨g, 0, none⟩) n cap) ((zss.set i (zss.getD j [])).set j (zss.getD i [])) := by
  obtain ⟨vs, S⟩ := h
  have hl := S.len
  have c1 := S.cell i (by omega)
  have c2 := S.cell j (by omega)
  obtain ⟨xi, ci, e1⟩ := (S.row i (by omega)).1.any
  obtain ⟨xj, cj, e2⟩ := (S.row j (by omega)).1.any
  have hs := S.swap (hn.trans hl.symm) i j (by omega) (by omega)
  rw [e1] at c1
  rw [e2] at c2
  rw [e1, e2] at hs
  exact ⟨xi, ci, xj, cj, c1, c2, _, by simpa [World.setCell] using hs⟩


end Go.Proofs.Ytkdpjimbhpclaab
