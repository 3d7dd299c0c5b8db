/- Chapter 9: the model's MakePuzzle. -/
import Derived.Test.YtodlpdbmiicdfabDoorPzo
namespace Go.Proofs.YtodlpdbmiicdfabDoor
open Go.ChangeShapes Go.WideShapes Go.ChangeAt Go.RowKit
open Pz

namespace Pz
/-- the clues that are made from here on -/
def makeL (l : List Bool) : Nat → Nat → List RClue
  | _, 0 => []
  | z, m + 1 => clueOf (nextZ z % 5) (nextZ (nextZ z)) l :: makeL l (nextZ (nextZ z)) m
theorem makeL_len (l : List Bool) : ∀ m z, (makeL l z m).length = m
  | 0, _ => rfl
  | m + 1, z => by rw [makeL, List.length_cons, makeL_len l m]
open Classical in
/-- the row that a text is -/
noncomputable def rowOf (s : ByteArray) : List Bool := if h : ∃ l, s = Rw.str l then h.choose else []
theorem rowOf_str {s : ByteArray} (h : ∃ l, s = Rw.str l) : s = Rw.str (rowOf s) := by
  unfold rowOf; rw [dif_pos h]; exact h.choose_spec
end Pz

/-- both boxes, and the clues made so far -/
def KM (w wr : World) (n : Nat) (v : Value) (ps : List RClue) : Prop :=
  Below w.heap.size w wr ∧ Blk wr w.heap.size 30 [.int .i64 0, .slice none 0 0] ∧ Blk wr (w.heap.size + 1) 30 [.int .i64 (n : Int), v] ∧ OwnClue wr (w.heap.size + 2) v ps ∧ w.heap.size + 2 ≤ wr.heap.size
theorem KM.more {w wr w2 : World} {n : Nat} {v : Value} {ps : List RClue} (h : KM w wr n v ps) (b : Below wr.heap.size wr w2) : KM w w2 n v ps :=
  ⟨h.1.trans (b.mono h.1.size), h.2.1.below b h.2.1.lt, h.2.2.1.below b h.2.2.1.lt, h.2.2.2.1.below b (Nat.le_refl _), Nat.le_trans h.2.2.2.2 b.size⟩
theorem KM.p0 {w wr : World} {n : Nat} {v : Value} {ps : List RClue} (h : KM w wr n v ps) : wr.cell? ⟨w.heap.size + 1, 0, none⟩ = some (.int .i64 (n : Int)) := h.2.2.1.cell 0
theorem KM.p1 {w wr : World} {n : Nat} {v : Value} {ps : List RClue} (h : KM w wr n v ps) : wr.cell? ⟨w.heap.size + 1, 1, none⟩ = some v := h.2.2.1.cell 1
theorem KM.q1 {w wr : World} {n : Nat} {v : Value} {ps : List RClue} (h : KM w wr n v ps) : wr.frozen? ⟨w.heap.size + 1, 1, none⟩ = false := h.2.2.1.free 1
theorem KM.r0 {w wr : World} {n : Nat} {v : Value} {ps : List RClue} (h : KM w wr n v ps) : wr.cell? ⟨w.heap.size, 0, none⟩ = some (.int .i64 0) := h.2.1.cell 0
theorem KM.r1 {w wr : World} {n : Nat} {v : Value} {ps : List RClue} (h : KM w wr n v ps) : wr.cell? ⟨w.heap.size, 1, none⟩ = some (.slice none 0 0) := h.2.1.cell 1
theorem KM.f0 {w wr : World} {n : Nat} {v : Value} {ps : List RClue} (h : KM w wr n v ps) : wr.frozen? ⟨w.heap.size, 0, none⟩ = false := h.2.1.free 0
theorem KM.f1 {w wr : World} {n : Nat} {v : Value} {ps : List RClue} (h : KM w wr n v ps) : wr.frozen? ⟨w.heap.size, 1, none⟩ = false := h.2.1.free 1
/-- an append, and the store of what it gave -/
theorem KM.put {w wr w2 : World} {n : Nat} {v v2 : Value} {ps qs : List RClue} (h : KM w wr n v ps) (o : OwnClue w2 (w.heap.size + 2) v2 qs) (b : Below (w.heap.size + 2) wr w2) :
    KM w (w2.setCell ⟨w.heap.size + 1, 1, none⟩ v2) n v2 qs := by
  have h1 := h.2.1.below b (by omega)
  have h2 := h.2.2.1.below b (by omega)
  refine ⟨?_, ?_, ?_, ?_, ?_⟩
  · exact (h.1.trans (b.mono (by omega))).setCell (by show w.heap.size ≤ w.heap.size + 1; omega) _
  · exact h1.grown (set_grown w2 _ 1 _) (fun e => by have := Option.some.inj e; omega)
  · exact h2.set 1 v2
  · exact ownZ_set o (by omega) 1 v2
  · have := b.size; have := h.2.2.2.2
    simp [World.setCell]; omega


end Go.Proofs.YtodlpdbmiicdfabDoor
