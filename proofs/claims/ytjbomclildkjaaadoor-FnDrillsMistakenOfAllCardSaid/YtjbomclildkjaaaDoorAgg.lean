/- Values of many cells: the box of a parameter, a new variable, the load and the store of a whole variable; for any type of the program. -/
import Derived.WalkKit
import Derived.Lib.Hide
import Derived.Laws.Rows
import Derived.Laws.Tables
import Derived.Laws.CopyOwn
import Derived.Deep.WholeRow
import Derived.Deep.MidRow
import Derived.Test.YtjbomclildkjaaaDoorOwn
namespace Go.Proofs.YtjbomclildkjaaaDoor
open Go.ChangeShapes Go.WideShapes Go.ChangeAt Go.RowKit

/-- where the walk is to stand still -/
structure Stop (p : Prop) : Prop where
  on : p

/-- block g holds these cells, none frozen -/
def Blk (w : World) (g : Nat) (t : TypeId) (cs : List Value) : Prop := w.heap[g]? = some (.cells cs.toArray t (0, 0))
theorem Blk.cell {w : World} {g : Nat} {t : TypeId} {cs : List Value} (h : Blk w g t cs) (j : Nat) : w.cell? ⟨g, j, none⟩ = cs[j]? := by
  unfold Blk at h; simp [World.cell?, h]
theorem Blk.free {w : World} {g : Nat} {t : TypeId} {cs : List Value} (h : Blk w g t cs) (j : Nat) : w.frozen? ⟨g, j, none⟩ = false := by
  unfold Blk at h; simp [World.frozen?, h]
theorem Blk.lt {w : World} {g : Nat} {t : TypeId} {cs : List Value} (h : Blk w g t cs) : g < w.heap.size := by
  unfold Blk at h
  obtain ⟨hl, _⟩ := Array.getElem?_eq_some_iff.1 h
  exact hl
theorem Blk.below {w w' : World} {C g : Nat} {t : TypeId} {cs : List Value} (h : Blk w g t cs) (hb : Below C w w') (hC : g < C) : Blk w' g t cs := by
  unfold Blk at h ⊢; rw [hb.block g hC]; exact h
theorem Blk.grown {w w' : World} {g : Nat} {t : TypeId} {cs : List Value} {r : Option Nat} (h : Blk w g t cs) (hg : w.grownBy w' r) (hr : r ≠ some g) : Blk w' g t cs := by
  have hl := h.lt
  unfold Blk at h ⊢
  rw [hg.block g hl (fun e => hr e.symm)]; exact h
theorem Blk.set {w : World} {g : Nat} {t : TypeId} {cs : List Value} (h : Blk w g t cs) (j : Nat) (v : Value) : Blk (w.setCell ⟨g, j, none⟩ v) g t (cs.set j v) := by
  unfold Blk at h ⊢
  have hl : g < w.heap.size := by obtain ⟨hl, _⟩ := Array.getElem?_eq_some_iff.1 h; exact hl
  simp [World.setCell, Array.getElem?_modify, h]

theorem wpList_box {P : Program} {w : World} {ops : Array Oper} {rest : List Oper} {o : Oper} {a : Act} {Q : Exit → Act → World → Prop} (t : TypeId) (x : Operand) (ho : o.op = .box t x) (hgd : o.guard = none)
    (cs : List Value) (hx : a.eval x = .agg cs.toArray)
    (h : ∀ w' g, Hid (g = w.heap.size) → Hid (Blk w' g t cs) → Hid (Below w.heap.size w w') → Stop (wpList P ops Q rest (a.put o.dst (.pointer (some ⟨g, 0, none⟩))) w')) : wpList P ops Q (o :: rest) a w := by
  refine wpList_plain hgd fun K hK => ?_
  unfold Oper.wp
  simp only [execOp, ho, hx, Instr.box, newVar, newRow, Sem.run_bind, Sem.run_pure, run_newObj_alloc, Result.andThen_ok, Value.cells]
  exact hK _ _ (h _ _ (Lib.hid rfl) (Lib.hid (heap_alloc_last _ _)) (Lib.hid ((Below.refl _ _).alloc (Nat.le_refl _) _))).on

theorem wpList_new {P : Program} {w : World} {ops : Array Oper} {rest : List Oper} {o : Oper} {a : Act} {Q : Exit → Act → World → Prop} (t : TypeId) (ho : o.op = .alloc t) (hgd : o.guard = none)
    (cs : List Value) (n : Nat) (hi : (P.info? t).map (fun i => (i.zero, i.size)) = some (some (.agg cs.toArray), n))
    (h : ∀ w' g, Hid (g = w.heap.size) → Hid (Blk w' g t cs) → Hid (Below w.heap.size w w') → Stop (wpList P ops Q rest (a.put o.dst (.pointer (some ⟨g, 0, none⟩))) w')) : wpList P ops Q (o :: rest) a w := by
  refine wpList_plain hgd fun K hK => ?_
  unfold Oper.wp
  simp only [execOp, ho, Instr.alloc, (zero_of_info hi).1, newVar, newRow, Sem.run_bind, Sem.run_pure, run_newObj_alloc, Result.andThen_ok, Value.cells]
  exact hK _ _ (h _ _ (Lib.hid rfl) (Lib.hid (heap_alloc_last _ _)) (Lib.hid ((Below.refl _ _).alloc (Nat.le_refl _) _))).on

theorem wpList_loadAll {P : Program} {w : World} {ops : Array Oper} {rest : List Oper} {o : Oper} {a : Act} {Q : Exit → Act → World → Prop} (ty : TypeId) (x : Operand) (ho : o.op = .load ty x) (hgd : o.guard = none)
    (g : Nat) (t : TypeId) (cs : List Value) (d : TypeDesc) (hu : P.underlying ty = some d) (hd : (match d with | .struct _ | .array _ _ => true | _ => false) = true) (n : Nat) (hi : (P.info? ty).map (·.size) = some n)
    (hx : a.eval x = .pointer (some ⟨g, 0, none⟩)) (hb : Hid (Blk w g t cs)) (hn : cs.length = n)
    (h : Stop (wpList P ops Q rest (a.put o.dst (.agg cs.toArray)) w)) : wpList P ops Q (o :: rest) a w := by
  subst hn
  refine wpList_plain hgd fun K hK => ?_
  have hl := run_loadVar_row (P := P) w g t ty cs.toArray (0, 0) d hb hu hd (by simpa using hi)
  unfold Oper.wp
  simp only [execOp, ho, hx, Instr.loadAt, Instr.sureAddr, Sem.run_bind, Sem.run_pure, Result.andThen_ok, hl]
  exact hK _ _ h.on

theorem wpList_storeAll {P : Program} {w : World} {ops : Array Oper} {rest : List Oper} {o : Oper} {a : Act} {Q : Exit → Act → World → Prop} (ty : TypeId) (x y : Operand) (ho : o.op = .store ty x y) (hgd : o.guard = none)
    (g : Nat) (t : TypeId) (old cs : List Value) (n : Nat) (hi : (P.info? ty).map (·.size) = some n)
    (hx : a.eval x = .pointer (some ⟨g, 0, none⟩)) (hy : a.eval y = .agg cs.toArray) (hb : Hid (Blk w g t old)) (hn : cs.length = n) (hn2 : old.length = n) (h1 : ∀ v ∈ cs, v.oneCell' = true)
    (h : ∀ w', Hid (Blk w' g t cs) → Hid (w.grownBy w' (some g)) → Stop (wpList P ops Q rest (a.put o.dst undef) w')) : wpList P ops Q (o :: rest) a w := by
  subst hn
  refine wpList_plain hgd fun K hK => ?_
  have hl := run_storeVar_row (P := P) w g t ty old.toArray cs.toArray hb (by simpa using hi) (by simpa using hn2) (Array.all_eq_true_iff_forall_mem.2 (fun v hv => h1 v (by simpa using hv)))
  unfold Oper.wp
  simp only [execOp, ho, hx, hy, Instr.storeAt, Instr.sureAddr, Sem.run_bind, Sem.run_pure, Result.andThen_ok, hl]
  exact hK _ _ (h _ (Lib.hid (setRow_heap w g _ _ t _ hb)) (Lib.hid ⟨rfl, rfl, rfl, by simp, fun k hk hr => setRow_other w g k _ (fun e => hr (by rw [e]))⟩)).on

theorem wpList_build1 {P : Program} {w : World} {ops : Array Oper} {rest : List Oper} {o : Oper} {a : Act} {Q : Exit → Act → World → Prop} (t : TypeId) (k : Nat) (x : Operand) (ho : o.op = .build t #[(k, x)]) (hgd : o.guard = none)
    (v : Value) (cs : List Value) (hx : a.eval x = v) (hr : P.built t [(k, v)] = some cs.toArray)
    (h : Stop (wpList P ops Q rest (a.put o.dst (.agg cs.toArray)) w)) : wpList P ops Q (o :: rest) a w := by
  refine wpList_plain hgd fun K hK => ?_
  have hl := run_build (P := P) w t #[(k, v)] cs.toArray hr
  have hm : (#[(k, x)] : Array (Nat × Operand)).map (fun p => (p.1, a.eval p.2)) = #[(k, v)] := by simp [hx]
  unfold Oper.wp
  simp only [execOp, ho, hm, Sem.run_bind, Sem.run_pure, Result.andThen_ok, hl]
  exact hK _ _ h.on

theorem wpList_copyB {P : Program} {w : World} {ops : Array Oper} {rest : List Oper} {o : Oper} {a : Act} {Q : Exit → Act → World → Prop} (d s : Operand) (dT sT : TypeId)
    (ho : o.op = .call { callee := .builtin .copy, args := #[d, s], argTypes := #[dT, sT] }) (hgd : o.guard = none) (elem : TypeId) (hu : P.underlying dT = some (.slice elem)) (hsz : (P.info? elem).map (·.size) = some 1)
    (sp : Option Addr) (dLen dCap sLen sCap : Nat) (g off : Nat) (hd : a.eval d = .slice (some ⟨g, off, none⟩) dLen dCap) (hs : a.eval s = .slice sp sLen sCap)
    (cur : List Value) (t : TypeId) (hg : Hid (Blk w g t cur)) (cs : List Value) (hn : cs.length = Nat.min sLen dLen)
    (hpos : 0 < cs.length → ∃ ad, sp = some ad ∧ ∀ j v, cs[j]? = some v → w.cell? (ad.add j) = some v)
    (hfit : off + cs.length ≤ cur.length) (h1 : ∀ v ∈ cs, v.oneCell' = true)
    (h : ∀ w', Hid (Blk w' g t (splice cur off cs)) → Hid (w.grownBy w' (some g)) → Stop (wpList P ops Q rest (a.put o.dst (goInt cs.length)) w')) :
    wpList P ops Q (o :: rest) a w := by
  by_cases h0 : cs.length = 0
  · obtain rfl : cs = [] := List.eq_nil_of_length_eq_zero h0
    refine wpList_copy_nothing hgd d s dT sT ho elem hu hsz _ sp dLen dCap sLen sCap hd hs (by simpa using hn.symm) ?_
    exact (h w (Lib.hid (show _ = _ by have := hg.out; unfold Blk at this; simpa [splice] using this)) (Lib.hid (World.grownBy.refl _ _))).on
  · obtain ⟨ad, rfl, hsrc⟩ := hpos (by omega)
    have hgo : w.heap[g]? = some (.cells cur.toArray t (0, 0)) := hg.out
    refine wpList_copy_own hgd d s dT sT ho elem hu hsz g off dLen dCap ad sLen sCap hd hs cur.toArray t hgo cs hn hsrc (by simpa using hfit) h1 ?_
    exact (h (w.setRow g (cur.toArray.toList.take off ++ (cs ++ cur.toArray.toList.drop (off + cs.length))).toArray) (Lib.hid (show _ = _ by simpa [splice] using setRow_heap w g _ _ t _ hgo)) (Lib.hid ⟨rfl, rfl, rfl, by simp, fun k hk hr => setRow_other w g k _ (fun e => hr (by rw [e]))⟩)).on

theorem Came.src {w : World} {a : Option Addr} {len : Nat} {zs : List Int} (h : Came w a len zs) (hp : 0 < len) : ∃ ad, a = some ad ∧ ∀ j v, (zs.map (Value.int .i64))[j]? = some v → w.cell? (ad.add j) = some v := by
  obtain ⟨b, off, rfl, hcell⟩ := h.2 hp
  refine ⟨_, rfl, fun j v hv => ?_⟩
  have hj : j < zs.length := by
    have := (List.getElem?_eq_some_iff.1 hv).1; simpa using this
  rw [Addr.add_mid, hcell j (by have := h.1; omega)]
  rw [← hv]
  simp [hj]
theorem ints_one (zs : List Int) : ∀ v ∈ zs.map (Value.int .i64), v.oneCell' = true := by
  intro v hv
  simp only [List.mem_map] at hv
  obtain ⟨z, _, rfl⟩ := hv
  rfl
theorem ret_cell {P : Program} {fn : Func} {R : Ending → World → Prop} {a : Act} {w : World} (i : Nat) (ty : TypeId) (hr : fn.results = #[.cell i ty]) (g : Nat) (t : TypeId) (cs : List Value) (d : TypeDesc) (hu : P.underlying ty = some d)
    (hd : (match d with | .struct _ | .array _ _ => true | _ => false) = true) (n : Nat) (hi : (P.info? ty).map (·.size) = some n) (hx : a.tmps.getD i undef = .pointer (some ⟨g, 0, none⟩)) (hb : Blk w g t cs) (hn : cs.length = n)
    (hdf : a.defers = []) (hR : R (.returned (.agg cs.toArray)) w) : bodyPost P fn R .ret a w := by
  subst hn
  have hl := run_loadVar_row (P := P) w g t ty cs.toArray (0, 0) d hb hu hd (by simpa using hi)
  refine bodyPost_ret (v := .agg cs.toArray) ?_ hdf hR
  have hx2 : a.tmps[i]?.getD undef = .pointer (some ⟨g, 0, none⟩) := by simpa using hx
  simp [results, hr, hx2, asAddr, hl]

end Go.Proofs.YtjbomclildkjaaaDoor
