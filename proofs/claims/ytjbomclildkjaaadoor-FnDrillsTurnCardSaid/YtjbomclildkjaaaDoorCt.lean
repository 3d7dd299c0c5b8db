/- Lists of texts that came in: places, mTexts at one list, mText at one that is there. -/
import Derived.Test.YtjbomclildkjaaaDoorSs
namespace Go.Proofs.YtjbomclildkjaaaDoor
open Go.ChangeShapes Go.WideShapes Go.ChangeAt Go.RowKit
def CameT (w : World) (a : Option Addr) (len : Nat) (zs : List ByteArray) : Prop := zs.length = len ∧ (0 < len → ∃ b off, a = some ⟨b, off, none⟩ ∧ ∀ j, j < len → w.cell? ⟨b, off + j, none⟩ = some (.string (zs.getD j ByteArray.empty)))
theorem CameT.below {w w' : World} {a : Option Addr} {len : Nat} {zs : List ByteArray} (h : CameT w a len zs) (hb : Below w.heap.size w w') : CameT w' a len zs := by
  refine ⟨h.1, fun hp => ?_⟩
  obtain ⟨b, o, e, hc⟩ := h.2 hp
  exact ⟨b, o, e, fun j hj => (hb.cell (World.block_lt_of_cell? w _ (hc j hj))).trans (hc j hj)⟩
namespace Sp
theorem idx_str {w : World} {b o l c : Nat} {k : IntKind} {n : Int} (j : Nat) (hn : n = (j : Int)) (hj : j < l) :
    (Instr.indexAt 81 (.slice (some ⟨b, o, none⟩) l c) (.int k n)).run Tryd.prog w = .ok (.pointer (some ⟨b, o + j, none⟩)) w := by
  subst hn
  have h2 : (j : Int) < (l : Int) := by omega
  simp [go_sem, h2, Addr.add_lit]
theorem load_str {w : World} {a : Addr} {z : ByteArray} (h : w.cell? a = some (.string z)) : (Instr.loadAt 9 (.pointer (some a))).run Tryd.prog w = .ok (.string z) w := by
  simp [go_sem, h]
theorem came_idxT {w : World} {a : Option Addr} {l c : Nat} {zs : List ByteArray} {k : IntKind} {n : Int} (h : CameT w a l zs) (j : Nat) (hj : j < l) (hn : n = (j : Int)) :
    ∃ p, ∀ w', Below w.heap.size w w' → (Instr.indexAt 81 (.slice a l c) (.int k n)).run Tryd.prog w' = .ok p w' ∧ (Instr.loadAt 9 p).run Tryd.prog w' = .ok (.string (zs.getD j ByteArray.empty)) w' := by
  obtain ⟨_, h2⟩ := h
  obtain ⟨b, o, rfl, h3⟩ := h2 (by omega)
  exact ⟨_, fun w' hb => ⟨idx_str j hn hj, load_str ((hb.cell (World.block_lt_of_cell? w _ (h3 j hj))).trans (h3 j hj))⟩⟩
end Sp
end Go.Proofs.YtjbomclildkjaaaDoor
