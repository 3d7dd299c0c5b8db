/- A slice of structs that came in, opened to its cells. -/
import Derived.WalkKit
import Derived.ProofKit
import Derived.Deep.Slices
import Derived.ChangeArms
namespace Go.Proofs.YtjbomclildkjaaaDoor
open Go.ChangeShapes Go.WideShapes Go.ChangeAt Go.RowKit

section
variable {H : Type} {enc : TypeId × Value → H} {P : Program} {w : World} {base : Nat} {spare : Nat → Bool} {held : Bool}
theorem open_row {t e : TypeId} {fs : Array Field} {fuel : Nat} {cs : List Value} {x : DataW H × List MemPlace} (F : Nat) (hF : 0 < F) (ht : P.underlying t = some (.slice e)) (he : P.underlying e = some (.struct fs)) (hC : P.cellsOf e = F) (h : DataW.trod enc P w base spare held fuel t cs = some x) :
    cs = [.slice none 0 0] ∨ ∃ (a : Option Addr) (len cap : Nat), cs = [.slice a len cap] ∧ len ≤ cap ∧ cap ≤ maxLen ∧ (0 < len → ∃ b off, a = some ⟨b, off, none⟩ ∧ ∀ i, i < len → ∃ (c : List Value) (n : Nat) (xs : List (DataW H × List MemPlace)), c.length = F ∧ (∀ j, j < F → w.cell? ⟨b, off + (i * F + j), none⟩ = c[j]?) ∧ xs.length = fs.size ∧
      ∀ (j : Nat) (f : Field), fs[j]? = some f → DataW.trod enc P w base spare held n f.type ((c.drop f.offset).take (P.cellsOf f.type)) = xs[j]?) := by
  rcases Go.Deep.open_slice ht h with ⟨h0, _⟩ | ⟨a, len, cap, m, n, D, Pl, hcs, _, hl, hm, hmm, _, hi⟩
  · exact .inl h0
  · refine .inr ⟨some a, len, cap, hcs, hl, hm, fun hp => ?_⟩
    have hlm : len ≤ m := by rw [hmm]; split <;> omega
    have hrow : ∀ i, i < len → ∃ (c : List Value) (n : Nat) (xs : List (DataW H × List MemPlace)), c.length = F ∧ (∀ j, j < F → w.cell? (a.add (i * F + j)) = c[j]?) ∧ xs.length = fs.size ∧
        ∀ (j : Nat) (f : Field), fs[j]? = some f → DataW.trod enc P w base spare held n f.type ((c.drop f.offset).take (P.cellsOf f.type)) = xs[j]? := fun i hil => by
      obtain ⟨c, hc, hx⟩ := hi i (by omega)
      rw [hC] at hc
      obtain ⟨_, hcl, hat⟩ := World.cells?_some hc
      obtain ⟨xs, n', _, _, _, hxl, hf⟩ := DataW.trod_struct he hx
      exact ⟨c, n', xs, hcl, fun j hj => by rw [← Go.Deep.add_add]; exact hat j hj, hxl, hf⟩
    obtain ⟨b, off, spot⟩ := a
    obtain ⟨c, _, _, hcl, hat, _⟩ := hrow 0 hp
    have h1 := hat 0 hF
    rw [List.getElem?_eq_getElem (by omega)] at h1
    have hspot : spot = none := by
      have := World.cell?_spot h1
      simpa [Addr.add] using this
    subst hspot
    refine ⟨b, off, rfl, fun i hil => ?_⟩
    obtain ⟨c, n, xs, h1, h2, h3, h4⟩ := hrow i hil
    exact ⟨c, n, xs, h1, fun j hj => by rw [← Go.WideShapes.add_plain]; exact h2 j hj, h3, h4⟩
theorem one_drop {c : List Value} {j : Nat} (h : j < c.length) : (c.drop j).take 1 = [c[j]] := by rw [List.drop_eq_getElem_cons h]; rfl
end

end Go.Proofs.YtjbomclildkjaaaDoor
