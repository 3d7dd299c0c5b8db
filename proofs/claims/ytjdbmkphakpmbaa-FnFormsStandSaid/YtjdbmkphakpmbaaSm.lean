/- Walks over frames of which only some slots are known, on: the rows of a [][]int. -/
import Derived.Test.YtjdbmkphakpmbaaSs
import Derived.Test.YtjdbmkphakpmbaaCa
namespace Go.Proofs.Ytjdbmkphakpmbaa
open Go.ChangeShapes Go.WideShapes Go.ChangeAt Go.RowKit
namespace Sp
theorem idx_row {w : World} {b o l c : Nat} {k : IntKind} {n : Int} (j : Nat) (hn : n = (j : Int)) (hj : j < l) :
    (Instr.indexAt 25 (.slice (some ⟨b, o, none⟩) l c) (.int k n)).run Try.prog w = .ok (.pointer (some ⟨b, o + j, none⟩)) w := by
  subst hn
  have h2 : (j : Int) < (l : Int) := by omega
  simp [go_sem, h2, Addr.add_lit]
theorem load_row {w : World} {a : Addr} {p : Option Addr} {l c : Nat} (h : w.cell? a = some (.slice p l c)) : (Instr.loadAt 30 (.pointer (some a))).run Try.prog w = .ok (.slice p l c) w := by
  simp [go_sem, h]
/-- a row of a list of rows that came in -/
theorem came_row {w : World} {a : Option Addr} {l : Nat} {zss : List (List Int)} (h : CameSS w a l zss) (j : Nat) (hj : j < l) :
    ∃ (q : Option Addr) (d : Nat), Came w q (zss.getD j []).length (zss.getD j []) ∧ ∀ (c : Nat) (k : IntKind) (n : Int), n = (j : Int) →
      ∃ p, ∀ w', Below w.heap.size w w' → (Instr.indexAt 25 (.slice a l c) (.int k n)).run Try.prog w' = .ok p w' ∧ (Instr.loadAt 30 p).run Try.prog w' = .ok (.slice q (zss.getD j []).length d) w' := by
  obtain ⟨g, o, q, d, rfl, hc, hr, _, _⟩ := h.at j hj
  exact ⟨q, d, hr, fun c k n hn => ⟨_, fun w' hb => ⟨idx_row j hn hj, load_row ((hb.cell (World.block_lt_of_cell? w _ hc)).trans hc)⟩⟩⟩
end Sp
end Go.Proofs.Ytjdbmkphakpmbaa
