/- What a call owns, between two bounds: for the walks of the exact laws. -/
import Derived.Test.YtjbomclildkjaaaDoorOwn
import Derived.Test.YtjbomclildkjaaaDoorHeSpec
namespace Go.Proofs.YtjbomclildkjaaaDoor
open Go.ChangeShapes Go.WideShapes Go.ChangeAt Go.RowKit

/-- only blocks from lo to hi have been written -/
structure Betw (lo hi : Nat) (w w' : World) : Prop where
  os : w'.os = w.os
  tape : w'.tape = w.tape
  output : w'.output = w.output
  size : w.heap.size ≤ w'.heap.size
  block : ∀ k, k < w.heap.size → (k < lo ∨ hi ≤ k) → w'.heap[k]? = w.heap[k]?
theorem Betw.refl (lo hi : Nat) (w : World) : Betw lo hi w w := ⟨rfl, rfl, rfl, Nat.le_refl _, fun _ _ _ => rfl⟩
theorem Betw.trans {lo hi : Nat} {a b c : World} (h : Betw lo hi a b) (k : Betw lo hi b c) : Betw lo hi a c :=
  ⟨k.os.trans h.os, k.tape.trans h.tape, k.output.trans h.output, Nat.le_trans h.size k.size, fun i hi hr => (k.block i (Nat.lt_of_lt_of_le hi h.size) hr).trans (h.block i hi hr)⟩
theorem Betw.of_grown {lo hi : Nat} {w w' : World} {r : Option Nat} (h : w.grownBy w' r) (hr : ∀ k, r = some k → lo ≤ k ∧ k < hi) : Betw lo hi w w' :=
  ⟨h.os, h.tape, h.output, h.size, fun k hk hlh => h.block k hk (fun e => by have := hr k e.symm; omega)⟩
theorem betw_below {B lo hi : Nat} {w0 w w' : World} (h : Below B w0 w) (hb : Betw lo hi w w') (hB : B ≤ w0.heap.size ∧ B ≤ lo) : Below B w0 w' :=
  ⟨hb.os.trans h.os, hb.tape.trans h.tape, hb.output.trans h.output, Nat.le_trans h.size hb.size, fun k hk =>
    (hb.block k (Nat.lt_of_lt_of_le (Nat.lt_of_lt_of_le hk hB.1) h.size) (.inl (by omega))).trans (h.block k hk)⟩

/-- v is a slice of these ints, in memory from lo to hi that a call made -/
def OwnI (w : World) (lo hi : Nat) (v : Value) (zs : List Int) : Prop := Own w lo v zs ∧ ∀ k, v.ownBlock = some k → k < hi
theorem OwnI.of {w : World} {lo : Nat} {v : Value} {zs : List Int} (h : Own w lo v zs) : OwnI w lo w.heap.size v zs := ⟨h, fun k hk => (World.ownsRow.lt h k hk).2⟩
theorem OwnI.below {w w' : World} {C lo hi : Nat} {v : Value} {zs : List Int} (h : OwnI w lo hi v zs) (hb : Below C w w') (hC : hi ≤ C) : OwnI w' lo hi v zs := by
  refine ⟨?_, h.2⟩
  have h1 := h.1
  unfold Own at h1 ⊢
  rcases hv : v.ownBlock with _ | b
  · exact h1.kept (row := none) ⟨rfl, rfl, rfl, Nat.le_refl _, fun _ _ _ => rfl⟩ (.inl hv) |> fun h2 => by
      rcases h1.2 with ⟨e1, e2⟩ | ⟨g, cap, cur, e1, _⟩
      · exact ⟨h1.1, .inl ⟨e1, e2⟩⟩
      · subst e1; simp [Value.ownBlock] at hv
  · have hl := h.2 b hv
    obtain ⟨e0, e1⟩ := h1
    refine ⟨e0, ?_⟩
    rcases e1 with e1 | ⟨g, cap, cur, e1, e2, e3, e4⟩
    · exact .inl e1
    · subst e1
      simp [Value.ownBlock] at hv
      subst hv
      exact .inr ⟨g, cap, cur, rfl, e2, by rw [hb.block g (by omega)]; exact e3, e4⟩
theorem OwnI.betw {w w' : World} {l h lo hi : Nat} {v : Value} {zs : List Int} (ho : OwnI w lo hi v zs) (hb : Betw l h w w') (hd : h ≤ lo ∨ hi ≤ l) (hs : hi ≤ w.heap.size) : OwnI w' lo hi v zs := by
  refine ⟨?_, ho.2⟩
  have h1 := ho.1
  unfold Own at h1 ⊢
  obtain ⟨e0, e1⟩ := h1
  refine ⟨e0, ?_⟩
  rcases e1 with e1 | ⟨g, cap, cur, e1, e2, e3, e4⟩
  · exact .inl e1
  · subst e1
    have hl := ho.2 g rfl
    exact .inr ⟨g, cap, cur, rfl, e2, by rw [hb.block g (by omega) (by omega)]; exact e3, e4⟩


end Go.Proofs.YtjbomclildkjaaaDoor
