/- Chapter 4, the program: runes that a call owns; undoneSigns; slices.Reverse at runes; MirrorCommands, BackCommands. -/
import Derived.Test.YtamodlmdlaeoiabDoorIb
import Derived.Test.YtamodlmdlaeoiabDoorRev
import Derived.Laws.Cover4
namespace Go.Proofs.YtamodlmdlaeoiabDoor
open Go.ChangeShapes Go.WideShapes Go.ChangeAt Go.RowKit
open Dr

def sgZ (t : Nat) : Int := ((sg t).toNat : Int)
theorem encode_sg (t : Nat) : Utf8.encode (sgZ t) = txt [sg t] := by
  unfold sgZ sg
  split
  · decide
  · split
    · decide
    · split <;> decide
theorem runes_sg : ∀ (ts : List Nat) (a : List UInt8), (ts.map sgZ).foldl (fun r n => r ++ Utf8.encode n) (txt a) = txt (a ++ ts.map sg)
  | [], a => by simp
  | t :: ts, a => by
    rw [List.map_cons, List.foldl_cons, encode_sg, txt_append, runes_sg ts, List.map_cons, List.append_assoc]
    rfl
theorem runes_word (ts : List Nat) : runesBytes (ts.map sgZ) = word ts := by
  have := runes_sg ts []
  rw [List.nil_append] at this
  exact this
theorem Tab_signOfTurn.sign {w : World} (h : Tab_signOfTurn w) (t : Nat) (ht : t < 4) : w.cell? ⟨1, t, none⟩ = some (.int .i32 (sgZ t)) := by
  obtain ⟨h0, h1, h2, h3⟩ := h.at
  match t, ht with
  | 0, _ => exact h0
  | 1, _ => exact h1
  | 2, _ => exact h2
  | 3, _ => exact h3

/-- v is a slice of these runes that a call made -/
def OwnR (w : World) (B : Nat) (v : Value) (zs : List Int) : Prop := w.ownsRow B 21 1 v zs.length (zs.map (Value.int .i32))
theorem ownR_nil (w : World) (B : Nat) : OwnR w B (.slice none 0 0) [] := World.ownsRow_nil _ _ _ _
theorem OwnR.shape {w : World} {B : Nat} {v : Value} {zs : List Int} (h : OwnR w B v zs) :
    (v = .slice none 0 0 ∧ zs.length = 0) ∨ ∃ g cap, v = .slice (some ⟨g, 0, none⟩) zs.length cap ∧ B ≤ g ∧ g < w.heap.size := by
  rcases h.2 with ⟨h1, h2⟩ | ⟨g, cap, cur, hv, hg, hh, _⟩
  · exact .inl ⟨h1, h2⟩
  · exact .inr ⟨g, cap, hv, hg, lt_of_block hh⟩
theorem OwnR.cell {w : World} {B g cap n : Nat} {zs : List Int} (h : OwnR w B (.slice (some ⟨g, 0, none⟩) n cap) zs) (hn : n = zs.length) (j : Nat) (hj : j < zs.length) : w.cell? ⟨g, j, none⟩ = some (.int .i32 (zs.getD j 0)) := by
  subst hn
  unfold OwnR at h
  rw [h.cellAt j (by omega)]
  simp [hj]
theorem OwnR.free {w : World} {B g cap n : Nat} {zs : List Int} (h : OwnR w B (.slice (some ⟨g, 0, none⟩) n cap) zs) (hn : n = zs.length) (j : Nat) : w.frozen? ⟨g, j, none⟩ = false := by
  subst hn
  unfold OwnR at h
  exact h.frozenAt j
theorem OwnR.set {w : World} {B g cap n : Nat} {zs : List Int} (h : OwnR w B (.slice (some ⟨g, 0, none⟩) n cap) zs) (hn : n = zs.length) (j : Nat) (z : Int) : OwnR (w.setCell ⟨g, j, none⟩ (.int .i32 z)) B (.slice (some ⟨g, 0, none⟩) n cap) (zs.set j z) := by
  subst hn
  unfold OwnR at h ⊢
  rw [List.length_set, List.map_set]
  exact (h.stored j _).1
theorem OwnR.mono {w : World} {B B' : Nat} {v : Value} {zs : List Int} (h : OwnR w B v zs) (hb : B' ≤ B) : OwnR w B' v zs := by
  unfold OwnR at h ⊢
  refine ⟨h.1, ?_⟩
  rcases h.2 with h2 | ⟨g, cap, cur, a, b, r⟩
  · exact .inl h2
  · exact .inr ⟨g, cap, cur, a, Nat.le_trans hb b, r⟩
theorem OwnR.below {w w' : World} {B C : Nat} {v : Value} {zs : List Int} (h : OwnR w B v zs) (hb : Below C w w') (hC : w.heap.size ≤ C) : OwnR w' B v zs := by
  unfold OwnR at h ⊢
  exact h.kept (row := none) ⟨hb.os, hb.tape, hb.output, hb.size, fun k hk _ => hb.block k (by omega)⟩ (by cases v.ownBlock <;> simp)
theorem OwnR.iterAt {w : World} {B : Nat} {v : Value} {zs : List Int} {k : Nat} {s : ByteArray} {pos : Nat} (h : OwnR w B v zs) (hk : w.heap[k]? = some (.stringIter s pos)) (pos' : Nat) : OwnR (w.iterAt k s pos') B v zs := by
  unfold OwnR at h ⊢
  refine ⟨h.1, ?_⟩
  rcases h.2 with h0 | ⟨g, cap, cur, hv, hb, hg, rest⟩
  · exact .inl h0
  · refine .inr ⟨g, cap, cur, hv, hb, ?_, rest⟩
    rw [Lib.iterAt_other _ _ _ _ _ (fun e => by subst e; rw [hk] at hg; cases hg)]
    exact hg
theorem OwnR.notIter {w : World} {B : Nat} {v : Value} {zs : List Int} {k : Nat} {s : ByteArray} {pos : Nat} (h : OwnR w B v zs) (hk : w.heap[k]? = some (.stringIter s pos)) : some k ≠ v.ownBlock := by
  unfold OwnR at h
  rcases h.2 with ⟨rfl, _⟩ | ⟨g, cap, cur, rfl, hb, hg, rest⟩
  · simp [Value.ownBlock]
  · intro e
    simp only [Value.ownBlock, Option.some.injEq] at e
    subst e
    rw [hk] at hg
    cases hg
theorem OwnR.text {w : World} {B : Nat} {v : Value} {zs : List Int} (h : OwnR w B v zs) : (convert 69 9 v).run Tryd.prog w = .ok (.string (runesBytes zs)) w := by
  rcases h.shape with ⟨rfl, h0⟩ | ⟨g, cap, rfl, _, _⟩
  · obtain rfl : zs = [] := List.eq_nil_of_length_eq_zero h0
    exact run_convert_runes_nil w _ _ 21 0 0 Tryd.underlying69 Tryd.underlying21 Tryd.underlying9
  · have := run_convert_runes (P := Tryd.prog) w 69 9 21 ⟨g, 0, none⟩ zs.length cap zs (Nat.le_refl _) Tryd.underlying69 Tryd.underlying21 Tryd.underlying9 (fun j hj => by
      rw [show (⟨g, 0, none⟩ : Addr).add j = ⟨g, j, none⟩ from by
        simp only [Addr.add, Nat.zero_add]
        split
        · rename_i e; rw [e]
        · rfl]
      exact h.cell rfl j hj)
    rw [List.take_length] at this
    exact this
theorem Tryd.info_int32 : (Tryd.prog.info? 21).map (fun i => (i.zero, i.size, i.bytes)) = some (some (.int .i32 0), 1, 4) := by kernel_rfl
theorem wpList_appR {ops : Array Oper} {rest : List Oper} {o : Oper} {a : Act} {Q : Exit → Act → World → Prop} (hgd : o.guard = none) (s x : Operand)
    (ho : o.op = .call { callee := .builtin .append, args := #[s, x], argTypes := #[69, 69] })
    (w0 : World) (B : Nat) (v : Value) (zs : List Int) (z : Int) (hs : a.eval s = v) (hx : a.eval x = .slice (some ⟨w0.heap.size, 0, none⟩) 1 1)
    (own : OwnR w0 B v zs) (hB : B ≤ w0.heap.size) (hl : zs.length ≤ 1000000000)
    (h : ∀ v' w', OwnR w' B v' (zs ++ [z]) → Below B w0 w' → (w0.alloc (.cells #[.int .i32 z] 21)).grownBy w' v.ownBlock → wpList Tryd.prog ops Q rest (a.put o.dst v') w') : wpList Tryd.prog ops Q (o :: rest) a (w0.alloc (.cells #[.int .i32 z] 21)) := by
  obtain ⟨i0, hi, hz0, hz1, hz2⟩ := info_parts Tryd.info_int32
  have hown : w0.ownsRow B 21 1 v zs.length (zs.map (Value.int .i32)) := own
  refine wpList_append_own _ hgd s x 69 ho B 21 i0 (.int .i32 0) 1 4 Tryd.underlying69 hi hz0 hz1 hz2 rfl (by decide) v zs.length _ hs (hown.alloc _) ⟨w0.heap.size, 0, none⟩ 1 1 [.int .i32 z] hx rfl ?_ ?_ ?_ ?_ ?_ ?_
  · intro j u hj
    match j, hj with
    | 0, hj => simp at hj; subst hj; simp [Addr.add]
  · intro u hu; simp at hu; subst hu; rfl
  · unfold maxLen; omega
  · omega
  · simp; omega
  · intro v' w' h1 h2 _
    refine h v' w' ?_ (own_grown (Below.refl _ _) hB hown h2) h2
    unfold OwnR
    rw [List.length_append, List.map_append]
    exact h1

def undoL (ts : List Nat) (k : Nat) : List Int := (ts.take k).map fun t => sgZ (other t)
theorem undoL_succ (ts : List Nat) (k : Nat) (hk : k < ts.length) : undoL ts (k + 1) = undoL ts k ++ [sgZ (other (ts.getD k 0))] := by
  unfold undoL
  rw [List.take_succ_eq_append_getElem hk, List.map_append]
  simp only [List.getD_eq_getElem?_getD, List.getElem?_eq_getElem hk, Option.getD_some, List.map_cons, List.map_nil]
theorem length_undoL (ts : List Nat) (k : Nat) (hk : k ≤ ts.length) : (undoL ts k).length = k := by unfold undoL; simp; omega
theorem undoL_all (ts : List Nat) : undoL ts ts.length = (ts.map other).map sgZ := by
  unfold undoL
  rw [List.take_length, List.map_map]
  rfl
theorem iterPos_of {w : World} {k : Nat} {s : ByteArray} {p : Nat} (h : w.heap[k]? = some (.stringIter s p)) : w.iterPos k = p := by unfold World.iterPos; rw [h]




end Go.Proofs.YtamodlmdlaeoiabDoor
