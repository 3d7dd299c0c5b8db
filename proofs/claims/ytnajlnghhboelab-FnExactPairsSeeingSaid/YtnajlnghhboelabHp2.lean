/- The program: the methods of heights: seen, mirrored, list. -/
import Derived.Test.YtnajlnghhboelabHp1
import Derived.Lib.Hide
namespace Go.Proofs.Ytnajlnghhboelab
open Go.ChangeShapes Go.WideShapes Go.ChangeAt Go.RowKit

theorem Blk.tall {w : World} {g : Nat} {hs : List Nat} {t : TypeId} (h : Blk w g t (hc hs)) (hl : hs.length ≤ 40) (j : Nat) (hj : j < 40) : w.cell? ⟨g, j, none⟩ = some (.int .i64 (hs.getD j 0 : Nat)) := by
  rw [h.cell j, hc_tall hs hl j hj]
theorem Blk.count {w : World} {g : Nat} {hs : List Nat} {t : TypeId} (h : Blk w g t (hc hs)) (hl : hs.length ≤ 40) : w.cell? ⟨g, 40, none⟩ = some (.int .i64 (hs.length : Nat)) := by
  rw [h.cell 40, hc_count hs hl]
/-- the array's slice reads as the heights -/
theorem Blk.came {w : World} {g : Nat} {hs : List Nat} {t : TypeId} (h : Blk w g t (hc hs)) (hl : hs.length ≤ 40) : Came w (some ⟨g, 0, none⟩) hs.length (asInts hs) :=
  ⟨asInts_len _, fun _ => ⟨g, 0, rfl, fun j hj => by rw [Nat.zero_add, h.tall hl j (by omega), getD_asInts]⟩⟩


end Go.Proofs.Ytnajlnghhboelab
