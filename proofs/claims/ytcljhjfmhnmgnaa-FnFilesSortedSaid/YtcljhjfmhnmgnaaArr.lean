/- Arrays of ints: their cells, two of them compared. -/
import Derived.ChangeKeysEq
import Derived.Test.YtcljhjfmhnmgnaaAgg
import Derived.Test.YtcljhjfmhnmgnaaUp
namespace Go.Proofs.Ytcljhjfmhnmgnaa
open Go.ChangeShapes Go.WideShapes Go.ChangeAt Go.RowKit

def cellsI (zs : List Int) : List Value := zs.map (Value.int .i64)
theorem length_cellsI (zs : List Int) : (cellsI zs).length = zs.length := by simp [cellsI]
theorem cellsI_set (zs : List Int) (j : Nat) (x : Int) : (cellsI zs).set j (.int .i64 x) = cellsI (zs.set j x) := by simp [cellsI, List.map_set]
theorem cellsI_one (zs : List Int) : ∀ v ∈ cellsI zs, v.oneCell' = true := ints_one zs
theorem cellsI_get (zs : List Int) (j : Nat) (h : j < zs.length) : (cellsI zs)[j]? = some (.int .i64 (zs.getD j 0)) := by simp [cellsI, h]
theorem Blk.celI {w : World} {g : Nat} {t : TypeId} {zs : List Int} (h : Blk w g t (cellsI zs)) (j : Nat) (hj : j < zs.length) : w.cell? ⟨g, j, none⟩ = some (.int .i64 (zs.getD j 0)) := by rw [h.cell, cellsI_get zs j hj]
theorem Blk.setI {w : World} {g : Nat} {t : TypeId} {zs : List Int} (h : Blk w g t (cellsI zs)) (j : Nat) (x : Int) : Blk (w.setCell ⟨g, j, none⟩ (.int .i64 x)) g t (cellsI (zs.set j x)) := by rw [← cellsI_set]; exact h.set j _
theorem Blk.cameI {w : World} {g : Nat} {t : TypeId} {zs : List Int} (h : Blk w g t (cellsI zs)) (n : Nat) (hn : n ≤ zs.length) : Came w (some ⟨g, 0, none⟩) n (zs.take n) := by
  refine ⟨by rw [List.length_take]; omega, fun _ => ⟨g, 0, rfl, fun j hj => ?_⟩⟩
  rw [Nat.zero_add, h.celI j (by omega)]
  simp [List.getD_eq_getElem?_getD, hj]

theorem run_eqItems_ints {P : Program} (d : Nat) {e : TypeId} (he : P.plainKey e = true) {k' : IntKind} (hu : P.underlying e = some (.int k')) (hc : P.cellsOf e = 1) (xs ys : List Int) (w : World) : ∀ is : List Nat, (∀ i ∈ is, i < xs.length ∧ i < ys.length) →
    (Op.eqItems (d + 1) e (P.cellsOf e) (cellsI xs).toArray (cellsI ys).toArray is).run P w = .ok (is.all fun i => decide (xs.getD i 0 = ys.getD i 0)) w
  | [], _ => by simp [Op.eqItems]
  | i :: is, h => by
    obtain ⟨h1, h2⟩ := h i (by simp)
    have p1 := run_part_plain (w := w) he (xs := (cellsI xs).toArray) (off := i * P.cellsOf e) (v := .int .i64 (xs.getD i 0)) (by rw [hc, Nat.mul_one]; simpa using cellsI_get xs i h1)
    have p2 := run_part_plain (w := w) he (xs := (cellsI ys).toArray) (off := i * P.cellsOf e) (v := .int .i64 (ys.getD i 0)) (by rw [hc, Nat.mul_one]; simpa using cellsI_get ys i h2)
    have p3 := run_equalIn_int (P := P) w d e .i64 k' (xs.getD i 0) (ys.getD i 0) hu
    have ih := run_eqItems_ints d he hu hc xs ys w is (fun j hj => h j (by simp [hj]))
    simp only [Op.eqItems, Sem.run_bind, p1, p2, p3, Result.andThen_ok, List.all_cons]
    by_cases hh : xs.getD i 0 = ys.getD i 0
    · rw [decide_eq_true hh, Bool.true_and, show (xs.getD i 0 == ys.getD i 0) = true from beq_iff_eq.2 hh]
      simpa using ih
    · rw [decide_eq_false hh, Bool.false_and, show (xs.getD i 0 == ys.getD i 0) = false from beq_eq_false_iff_ne.2 hh]
      simp
theorem eqAll {xs ys : List Int} {n : Nat} (h1 : xs.length = n) (h2 : ys.length = n) : ((List.range n).all fun i => decide (xs.getD i 0 = ys.getD i 0)) = decide (xs = ys) := by
  rw [Bool.eq_iff_iff, List.all_eq_true, decide_eq_true_eq]
  constructor
  · intro h
    exact ext_getD 0 (by omega) fun i hi => of_decide_eq_true (h i (List.mem_range.2 (by omega)))
  · rintro rfl i _
    simp

theorem wpList_neqArr {P : Program} {w : World} {ops : Array Oper} {rest : List Oper} {o : Oper} {a : Act} {Q : Exit → Act → World → Prop} (ty ty2 : TypeId) (x y : Operand) (ho : o.op = .binOp .neq ty x y ty2) (hgd : o.guard = none)
    (n : Nat) (e : TypeId) (i : TypeInfo) (hu : P.underlying ty = some (.array n e)) (hi : P.info? e = some i) (he : P.plainKey e = true) (k' : IntKind) (hue : P.underlying e = some (.int k')) (hc : P.cellsOf e = 1) (hm : P.eqGuardType P.depth ty = false)
    (xs ys : List Int) (hx : a.eval x = .agg (cellsI xs).toArray) (hy : a.eval y = .agg (cellsI ys).toArray) (h1 : xs.length = n) (h2 : ys.length = n) (b : Bool) (hb : decide (xs = ys) = b)
    (h : Stop (wpList P ops Q rest (a.put o.dst (.bool (!b))) w)) : wpList P ops Q (o :: rest) a w := by
  refine wpList_plain hgd fun K hK => ?_
  have e1 := run_eqGuard_agg (P := P) w .neq ty x y (cellsI xs).toArray (cellsI ys).toArray hm
  have e2 := run_neq_struct (P := P) w ty (cellsI xs).toArray (cellsI ys).toArray
  rw [show (10000 : Nat) = 9999 + 1 from rfl, run_equalIn_array w 9999 _ _ hu hi, show (9999 : Nat) = 9998 + 1 from rfl, run_eqItems_ints 9998 he hue hc xs ys w _ (fun j hj => by have := List.mem_range.1 hj; omega), eqAll h1 h2, hb] at e2
  unfold Oper.wp
  simp only [execOp, ho, hx, hy, Sem.run_bind, e1, e2, Result.andThen_ok, Sem.run_pure]
  exact hK _ _ h.on

end Go.Proofs.Ytcljhjfmhnmgnaa
