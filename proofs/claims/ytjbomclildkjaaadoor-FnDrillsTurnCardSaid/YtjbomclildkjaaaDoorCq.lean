/- Walks over frames, on: a text's start and end, a byte made a text. -/
import Derived.Test.YtjbomclildkjaaaDoorCo
import Derived.Laws.BytesArg
import Derived.Laws.Slices
namespace Go.Proofs.YtjbomclildkjaaaDoor
open Go.ChangeShapes Go.WideShapes Go.ChangeAt Go.RowKit
namespace Sp
variable {P : Program} {N : Nat} {S S' : St} {ops : Array Oper} {rest : List Oper} {w w' : World} {d : Nat} {ty t : TypeId} {pos : String} {after : Array Edge} {g : Option (Nat × Bool)} {x : Operand} {u v : Value}
theorem Runs.convert {t2 : TypeId} (hx : opn S x = some u) (h : (Go.convert t t2 u).run P w = .ok v w) : Runs P N S ⟨some d, .convert t t2 x, ty, pos, after, g⟩ w v := fun a ha => by
  have h1 := ha.eval hx
  generalize a.eval = ρ at h1 ⊢
  simp [execOp, h1, h]
theorem slice_to {s : ByteArray} {k : IntKind} {n : Int} (ht : P.underlying t = some .string) (j : Nat) (hn : n = (j : Int)) (hj : j ≤ s.size) :
    (Instr.sliceAt t (.string s) none (some (.int k n)) none).run P w = .ok (.string (s.extract 0 j)) w := by
  subst hn
  have e := run_slice_string_h (P := P) (w := w) t s ht k (j : Int) (by omega) (by omega)
  rw [Int.toNat_natCast] at e
  simp [Instr.sliceAt, run_under ht, e]
theorem slice_from {s : ByteArray} {k : IntKind} {n : Int} (ht : P.underlying t = some .string) (j : Nat) (hn : n = (j : Int)) (hj : j ≤ s.size) :
    (Instr.sliceAt t (.string s) (some (.int k n)) none none).run P w = .ok (.string (s.extract j s.size)) w := by
  subst hn
  have e := run_slice_string_l (P := P) (w := w) t s ht k (j : Int) (by omega) (by omega)
  rw [Int.toNat_natCast] at e
  simp [Instr.sliceAt, run_under ht, e]
theorem size_one (z : Int) : (strOfNums [z]).size = 1 := rfl
set_option maxRecDepth 20000 in
theorem conv_one (z : Int) : (Go.convert 22 9 (.slice (some ⟨w.heap.size, 0, none⟩) 1 1)).run Tryd.prog (w.alloc (.cells #[.int .u8 z] 5)) = .ok (.string (strOfNums [z])) (w.alloc (.cells #[.int .u8 z] 5)) :=
  run_convert_bytes_arg (P := Tryd.prog) _ 22 5 Tryd.underlying22 Tryd.underlying5 w.heap.size 0 1 1 [z] rfl (fun i hi => by
    obtain rfl : i = 0 := by omega
    simp [go_sem]) 9 Tryd.underlying9
end Sp
end Go.Proofs.YtjbomclildkjaaaDoor
