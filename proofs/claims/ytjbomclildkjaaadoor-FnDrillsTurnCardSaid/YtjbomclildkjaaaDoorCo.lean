/- Walks over frames of which only some slots are known, on: draws: the cursor made, lists written out, one of a list of texts; bytes in a later world. -/
import Derived.Test.YtjbomclildkjaaaDoorCuA
import Derived.Test.YtjbomclildkjaaaDoorSq
namespace Go.Proofs.YtjbomclildkjaaaDoor
open Go.ChangeShapes Go.WideShapes Go.ChangeAt Go.RowKit
theorem Cu.Bytes.below {w w' : World} {a : Option Addr} {len : Nat} (h : Cu.Bytes w a len) (hb : Below w.heap.size w w') : Cu.Bytes w' a len := by
  intro hp
  obtain ⟨b, off, e, hc⟩ := h hp
  refine ⟨b, off, e, fun k hk => ?_⟩
  obtain ⟨x, h1, h2⟩ := hc k hk
  exact ⟨x, h1, (hb.cell (World.block_lt_of_cell? w _ h2)).trans h2⟩
end Go.Proofs.YtjbomclildkjaaaDoor

namespace Go.Proofs.YtjbomclildkjaaaDoor
open Go.ChangeShapes Go.WideShapes Go.ChangeAt Go.RowKit
open Cu
namespace Sp
variable {P : Program} {N : Nat} {S S' : St} {ops : Array Oper} {rest : List Oper} {w w' : World} {Q : Exit → Act → World → Prop} {d : Nat} {ty t : TypeId} {pos : String} {after : Array Edge} {g : Option (Nat × Bool)} {x : Operand} {u v : Value}
theorem L.build1 {i : Nat} (hx : opn S x = some u) (hr : (Instr.build t #[(i, u)]).run P w = .ok v w) (hc : chk N S ops d g true = true) (h : L P N ops rest ((d, v) :: S) w Q) :
    L P N ops (⟨some d, .build t [(i, x)].toArray, ty, pos, after, g⟩ :: rest) S w Q := by
  refine L.step hc (fun a ha => ?_) h
  have h1 := ha.eval hx
  generalize a.eval = ρ at h1 ⊢
  simp [execOp, h1, hr]
theorem L.box (hx : opn S x = some u) (hr : (Instr.box t u).run P w = .ok v w') (hc : chk N S ops d g true = true) (h : L P N ops rest ((d, v) :: S) w' Q) :
    L P N ops (⟨some d, .box t x, ty, pos, after, g⟩ :: rest) S w Q := by
  refine L.step hc (fun a ha => ?_) h
  have h1 := ha.eval hx
  generalize a.eval = ρ at h1 ⊢
  simp [execOp, h1, hr]
def prt (S : St) : List (Nat × Operand) → Option (List (Nat × Value))
  | [] => some []
  | (i, x) :: r => match opn S x with
    | some v => match prt S r with
      | some vs => some ((i, v) :: vs)
      | none => none
    | none => none
theorem Kn.prt {a : Act} (h : Kn N S a) : ∀ {ps : List (Nat × Operand)} {vs : List (Nat × Value)}, Sp.prt S ps = some vs → ps.map (fun p => (p.1, a.eval p.2)) = vs
  | [], vs, e => by simp only [Sp.prt, Option.some.injEq] at e; subst e; rfl
  | (i, x) :: r, vs, e => by
    simp only [Sp.prt] at e
    split at e
    · rename_i v hv
      split at e
      · rename_i us hu
        simp only [Option.some.injEq] at e
        subst e
        rw [List.map_cons, h.eval hv, h.prt hu]
      · cases e
    · cases e
theorem L.lits {n : Nat} {ps : List (Nat × Operand)} {vs : List (Nat × Value)} (hx : Sp.prt S ps = some vs) (hr : (Instr.buildSlice t n vs.toArray).run P w = .ok v w') (hc : chk N S ops d g true = true) (h : L P N ops rest ((d, v) :: S) w' Q) :
    L P N ops (⟨some d, .buildSlice t n ps.toArray, ty, pos, after, g⟩ :: rest) S w Q := by
  refine L.step hc (fun a ha => ?_) h
  have h1 := ha.prt hx
  have h2 : ps.toArray.map (fun p => (p.1, a.eval p.2)) = vs.toArray := by rw [List.map_toArray, h1]
  have h3 : execOp a.eval ⟨some d, .buildSlice t n ps.toArray, ty, pos, after, g⟩ = ((do Pure.pure (Next.value (← Instr.buildSlice t n (ps.toArray.map (fun p => (p.1, a.eval p.2)))))) : Sem Next) := rfl
  rw [h3, h2]
  simp [hr]
theorem build_cur {p : Option Addr} {l c : Nat} : (Instr.build 65 #[(0, .slice p l c)]).run Tryd.prog w = .ok (.agg #[.slice p l c, .int .i64 0, .int .u64 0]) w := by
  simp [go_sem]
theorem box_cur {p : Option Addr} {l c : Nat} : (Instr.box 65 (.agg #[.slice p l c, .int .i64 0, .int .u64 0])).run Tryd.prog w = .ok (.pointer (some ⟨w.heap.size, 0, none⟩)) (w.alloc (.cells #[.slice p l c, .int .i64 0, .int .u64 0] 65)) := by
  simp [go_sem]
example : (Instr.buildSlice 47 3 #[(0, .int .i64 0), (1, .int .i64 1), (2, .int .i64 2)]).run Tryd.prog w = .ok (.slice (some ⟨w.heap.size, 0, none⟩) 3 3) (w.alloc (.cells #[.int .i64 0, .int .i64 1, .int .i64 2] 3)) := by
  simp [go_sem]
end Sp
end Go.Proofs.YtjbomclildkjaaaDoor
