/- Walks over frames of which only some slots are known, on: the places of a slice of ints, at this program's numbers of types. -/
import Derived.Test.YtjdbmkphakpmbaaSr
namespace Go.Proofs.Ytjdbmkphakpmbaa
open Go.ChangeShapes Go.WideShapes Go.ChangeAt Go.RowKit
namespace Sp
theorem idx_int {w : World} {b o l c : Nat} {k : IntKind} {n : Int} (j : Nat) (hn : n = (j : Int)) (hj : j < l) :
    (Instr.indexAt 30 (.slice (some ⟨b, o, none⟩) l c) (.int k n)).run Try.prog w = .ok (.pointer (some ⟨b, o + j, none⟩)) w := by
  subst hn
  have h2 : (j : Int) < (l : Int) := by omega
  simp [go_sem, h2, Addr.add_lit]
theorem load_int {w : World} {a : Addr} {z : Int} (h : w.cell? a = some (.int .i64 z)) : (Instr.loadAt 3 (.pointer (some a))).run Try.prog w = .ok (.int .i64 z) w := by
  simp [go_sem, h]
/-- a place of a slice of ints that came in -/
theorem came_idx {w : World} {a : Option Addr} {l c : Nat} {zs : List Int} {k : IntKind} {n : Int} (h : Came w a l zs) (j : Nat) (hj : j < l) (hn : n = (j : Int)) :
    ∃ p, ∀ w', Below w.heap.size w w' → (Instr.indexAt 30 (.slice a l c) (.int k n)).run Try.prog w' = .ok p w' ∧ (Instr.loadAt 3 p).run Try.prog w' = .ok (.int .i64 (zs.getD j 0)) w' := by
  obtain ⟨_, h2⟩ := h
  obtain ⟨b, o, rfl, h3⟩ := h2 (by omega)
  exact ⟨_, fun w' hb => ⟨idx_int j hn hj, load_int ((hb.cell (World.block_lt_of_cell? w _ (h3 j hj))).trans (h3 j hj))⟩⟩
end Sp
end Go.Proofs.Ytjdbmkphakpmbaa
