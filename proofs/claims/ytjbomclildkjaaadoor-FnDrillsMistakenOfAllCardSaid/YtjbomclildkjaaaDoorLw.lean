/- A region that draws its order, that only reads and calls what makes memory of its own: one walk over the class of the worlds that keep what lay in the world at the region's start. -/
import Derived.WalkKit
import Derived.BigQuiet
import Derived.Below
import Derived.Test.YtjbomclildkjaaaDoorOwn
namespace Go.Proofs.YtjbomclildkjaaaDoor
open Go.ChangeShapes Go.WideShapes Go.ChangeAt Go.RowKit

/-- a later world that keeps all that was there -/
structure Lw (w0 : World) where
  w : World
  b : Below w0.heap.size w0 w
instance Lw.one (w0 : World) : Nonempty (Lw w0) := ⟨⟨w0, Below.refl _ _⟩⟩
def Lw.drew1 (w0 : World) : Lw w0 := ⟨w0.drew, ⟨rfl, rfl, rfl, Nat.le_refl _, fun _ _ => rfl⟩⟩
def LwC (w0 : World) (w : World) : Prop := ∃ X : Lw w0, w = X.w
theorem lwC_start (w0 : World) : (fun w : World => ∃ X : Lw w0, w = X.w) { w0 with drawn := w0.drawn + 1 } := ⟨Lw.drew1 w0, rfl⟩
set_option maxRecDepth 20000 in
theorem Lw.cell {w0 : World} (X : Lw w0) {p : Addr} {v : Value} (h : w0.cell? p = some v) : X.w.cell? p = some v :=
  (X.b.cell (World.block_lt_of_cell? w0 p h)).trans h
/-- a call that makes memory of its own -/
theorem lw_call {P : Program} {w0 : World} {f : FuncId} {args : Array Value} {v : Value} (h : ∀ w2, Below w0.heap.size w0 w2 → Calls P f args w2 fun e w' => e = .returned v ∧ Below w2.heap.size w2 w') (X : Lw w0) :
    Calls P f args X.w fun e w' => e = .returned v ∧ ∃ Y : Lw w0, w' = Y.w :=
  (h X.w X.b).mono fun _ w' ⟨he, hb⟩ => ⟨he, ⟨⟨w', X.b.trans (hb.mono X.b.size)⟩, rfl⟩⟩
/-- a call that leaves the world -/
theorem lw_still {P : Program} {w0 : World} {f : FuncId} {args : Array Value} {v : Value} (h : ∀ w2, Calls P f args w2 fun e w' => e = .returned v ∧ w2 = w') (X : Lw w0) :
    Calls P f args X.w fun e w' => e = .returned v ∧ ∃ Y : Lw w0, w' = Y.w :=
  (h X.w).mono fun _ _ ⟨he, hb⟩ => ⟨he, ⟨X, hb.symm⟩⟩
theorem wp_region_lw {P : Program} {id : Nat} {Q : Exit → Act → World → Prop} {a : Act} {w : World} {l : List Oper} (hm : P.follows .mixedOrders = true) (hB : Region.lexB .any l.toArray = true)
    (h : wpQuiet P l.toArray (fun w' => ∃ X : Lw w, w' = X.w) (fun a' => ∀ w', (∃ X : Lw w, w' = X.w) → Q .normal a' w') l a) : (Code.region id l.toArray true).wp P Q a w :=
  wp_region_quiet (C := fun w' => ∃ X : Lw w, w' = X.w) hm hB (lwC_start w) (by simpa using h)

end Go.Proofs.YtjbomclildkjaaaDoor
