/- A slice of texts that the call made: owner, append, reading. -/
import Derived.Test.YtodlpdbmiicdfabDoorOwn
import Derived.Test.YtodlpdbmiicdfabDoorRec
namespace Go.Proofs.YtodlpdbmiicdfabDoor
open Go.ChangeShapes Go.WideShapes Go.ChangeAt Go.RowKit

theorem Tryd.info_text : (Tryd.prog.info? 9).map (fun i => (i.zero, i.size, i.bytes)) = some (some (.string ByteArray.empty), 1, 16) := by kernel_rfl
def OwnT (w : World) (B : Nat) (v : Value) (zs : List ByteArray) : Prop := w.ownsRow B 9 1 v zs.length (zs.map Value.string)
theorem ownT_nil (w : World) (B : Nat) : OwnT w B (.slice none 0 0) [] := World.ownsRow_nil _ _ _ _
theorem OwnT.mono {w : World} {B B' : Nat} {v : Value} {zs : List ByteArray} (h : OwnT w B v zs) (hb : B' ≤ B) : OwnT w B' v zs := by
  obtain ⟨h1, h2⟩ := h
  refine ⟨h1, ?_⟩
  rcases h2 with h2 | ⟨g, cap, cur, e1, e2, e3⟩
  · exact .inl h2
  · exact .inr ⟨g, cap, cur, e1, by omega, e3⟩
theorem OwnT.below {w w' : World} {B C : Nat} {v : Value} {zs : List ByteArray} (h : OwnT w B v zs) (hb : Below C w w') (hC : w.heap.size ≤ C) : OwnT w' B v zs :=
  rec_same h fun k hk => hb.block k (Nat.lt_of_lt_of_le (World.ownsRow.lt h k hk).2 hC)
/-- what it reads as -/
theorem OwnT.read {w : World} {B : Nat} {v : Value} {zs : List ByteArray} (h : OwnT w B v zs) : ∃ ao cap, v = .slice ao zs.length cap ∧ (0 < zs.length → ∃ g, ao = some ⟨g, 0, none⟩ ∧ B ≤ g ∧ g < w.heap.size ∧ ∀ j, j < zs.length → w.cell? ⟨g, j, none⟩ = some (.string (zs.getD j ByteArray.empty))) := by
  rcases h.2 with ⟨e1, e2⟩ | ⟨g, cap, cur, e1, e2, e3, _⟩
  · exact ⟨none, 0, by rw [e1, e2], fun hp => by omega⟩
  · refine ⟨_, cap, e1, fun hp => ⟨g, rfl, e2, lt_of_block e3, fun j hj => ?_⟩⟩
    subst e1
    unfold OwnT at h
    rw [h.cellAt j (by omega)]
    simp [hj]
/-- append of one text to a slice that the call owns -/
theorem wpList_appT {ops : Array Oper} {rest : List Oper} {o : Oper} {a : Act} {Q : Exit → Act → World → Prop} (hgd : o.guard = none) (s x : Operand)
    (ho : o.op = .call { callee := .builtin .append, args := #[s, x], argTypes := #[42, 42] })
    (w0 : World) (B : Nat) (v : Value) (zs : List ByteArray) (z : ByteArray) (hs : a.eval s = v) (hx : a.eval x = .slice (some ⟨w0.heap.size, 0, none⟩) 1 1)
    (own : OwnT w0 B v zs) (hB : B ≤ w0.heap.size) (hl : zs.length ≤ 1000000000)
    (h : ∀ v' w', OwnT w' B v' (zs ++ [z]) → Below B w0 w' → wpList Tryd.prog ops Q rest (a.put o.dst v') w') : wpList Tryd.prog ops Q (o :: rest) a (w0.alloc (.cells #[.string z] 9)) := by
  obtain ⟨i0, hi, hz0, hz1, hz2⟩ := info_parts Tryd.info_text
  have hown : w0.ownsRow B 9 1 v zs.length (zs.map Value.string) := own
  refine wpList_append_own _ hgd s x 42 ho B 9 i0 (.string ByteArray.empty) 1 16 Tryd.underlying42 hi hz0 hz1 hz2 rfl (by decide) v zs.length _ hs (hown.alloc _) ⟨w0.heap.size, 0, none⟩ 1 1 [.string z] hx rfl ?_ ?_ ?_ ?_ ?_ ?_
  · intro j u hj
    match j, hj with
    | 0, hj => simp at hj; subst hj; simp [Addr.add]
  · intro u hu; simp at hu; subst hu; rfl
  · unfold maxLen; omega
  · omega
  · simp; omega
  · intro v' w' h1 h2 _
    refine h v' w' ?_ (own_grown (Below.refl _ _) hB hown h2)
    unfold OwnT
    rw [List.length_append, List.map_append]
    exact h1
end Go.Proofs.YtodlpdbmiicdfabDoor
