/- Rows as texts: what each answer is, whatever text is given. -/
import Derived.Test.YtacchefmblfobaaC1Good
import Derived.Test.YtacchefmblfobaaOwn
import Derived.Test.YtacchefmblfobaaQw
namespace Go.Proofs.Ytacchefmblfobaa
open Go.ChangeShapes Go.WideShapes Go.ChangeAt Go.RowKit

def bits (s : ByteArray) : List Bool := s.data.toList.map (· == 62)
theorem bits_str (l : List Bool) : bits (Rw.str l) = l := by
  simp only [bits, Rw.str, Rw.txt, List.map_map]
  have : ((fun x : UInt8 => x == 62) ∘ Rw.sgn) = id := by funext b; cases b <;> rfl
  rw [this, List.map_id]
theorem row_of {s : ByteArray} (h : C1.goodB s = true) : s = Rw.str (bits s) ∧ 1 ≤ (bits s).length ∧ (bits s).length ≤ 60 := by
  obtain ⟨l, rfl, h1, h2⟩ := C1.goodB_row h
  rw [bits_str]; exact ⟨rfl, h1, h2⟩
def rowI (f : List Bool → Nat) (s : ByteArray) : Int := cond (C1.goodB s) (f (bits s) : Nat) 0
def rowS (f : List Bool → List Bool) (s : ByteArray) : ByteArray := cond (C1.goodB s) (Rw.str (f (bits s))) ByteArray.empty
def rowB (f : List Bool → Bool) (s : ByteArray) : Bool := cond (C1.goodB s) (f (bits s)) false
def rowL (f : List Bool → List Nat) (s : ByteArray) : List Int := cond (C1.goodB s) (asInts (f (bits s))) []
theorem rowI_yes {f : List Bool → Nat} {s : ByteArray} (h : C1.goodB s = true) : rowI f s = (f (bits s) : Nat) := by unfold rowI; rw [h]; rfl
theorem rowS_yes {f : List Bool → List Bool} {s : ByteArray} (h : C1.goodB s = true) : rowS f s = Rw.str (f (bits s)) := by unfold rowS; rw [h]; rfl
theorem rowB_yes {f : List Bool → Bool} {s : ByteArray} (h : C1.goodB s = true) : rowB f s = f (bits s) := by unfold rowB; rw [h]; rfl
theorem rowL_yes {f : List Bool → List Nat} {s : ByteArray} (h : C1.goodB s = true) : rowL f s = asInts (f (bits s)) := by unfold rowL; rw [h]; rfl
def turnsL (l : List Bool) : List Nat := Rw.turnsOf l (List.replicate l.length 0)


end Go.Proofs.Ytacchefmblfobaa
