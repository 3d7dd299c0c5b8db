/- The constant tables of the program: what their variables hold. Written by a program of mine (tools/gen_tab.py). -/
import Derived.WalkKit
import Derived.WalkSmall
import Derived.OpenShut
import Derived.ChangeVars
import Derived.Test.YtjbomclildkjaaaDoorChecked
import Derived.KernelRfl
import Derived.ChangeKeysEq
import Derived.Test.YtjbomclildkjaaaDoorAgg
namespace Go.Proofs.YtjbomclildkjaaaDoor
open Go.ChangeShapes Go.WideShapes Go.RowKit

theorem int_of_trodZ {H : Type} {enc : TypeId × Value → H} {P : Program} {w : World} {base : Nat} {sp : Nat → Bool} {held : Bool} {fuel : Nat} {t : TypeId} {k : IntKind} {c : Value} {y : DataW H × List MemPlace}
    (ht : P.underlying t = some (.int k)) (h : DataW.trod enc P w base sp held fuel t [c] = some y) : ∃ n, c = .int k n ∧ y = (.lit (.int k n), []) := by
  cases fuel with
  | zero => simp [DataW.trod] at h
  | succ fuel =>
    cases c <;> simp [DataW.trod, ht] at h
    rename_i k' n
    obtain ⟨⟨rfl, _⟩, rfl⟩ := h
    exact ⟨n, rfl, rfl⟩
theorem trodVars_cons_mk {H : Type} {enc : TypeId × Value → H} {P : Program} {w : World} {spare : Nat → Bool} {n : String} {ns : List String} {g : Nat} {t : TypeId} {cs : Array Value} {fuel : Nat} {d : DataW H} {ds : List (DataW H)} {p q : List MemPlace} (hs : DataW.TrodVars enc P w spare ns ds q) (h1 : P.globalNamed n = some g) (h2 : (P.globals[g]?).map (·.type) = some t) (h3 : w.var? P n = some cs)
    (h4 : DataW.trod enc P w 0 spare true fuel t cs.toList = some (d, p)) : DataW.TrodVars enc P w spare (n :: ns) (d :: ds) (MemPlace.row ⟨g, 0, none⟩ cs.size ++ p ++ q) :=
  ⟨g, t, cs, fuel, p, q, h1, h2, h3, h4, hs, rfl⟩
theorem row_varZ {P : Program} {w : World} {n : String} {g : Nat} {cs : Array Value} (hg : P.globalNamed n = some g) (h : w.var? P n = some cs) : ∃ t fr, w.heap[g]? = some (.cells cs t fr) := by
  unfold World.var? at h
  simp only [hg, Option.bind_some] at h
  split at h
  · rename_i c t fr hb
    simp only [Option.some.injEq] at h
    subst h
    exact ⟨_, _, hb⟩
  · cases h
/-- the whole array is loaded -/
theorem wpList_loadTab {P : Program} {w : World} {ops : Array Oper} {rest : List Oper} {o : Oper} {a : Act} {Q : Exit → Act → World → Prop} (ty : TypeId) (x : Operand) (ho : o.op = .load ty x) (hgd : o.guard = none)
    (g : Nat) (t : TypeId) (fr : Nat × Nat) (cs : Array Value) (d : TypeDesc) (hu : P.underlying ty = some d) (hd : (match d with | .struct _ | .array _ _ => true | _ => false) = true) (hi : (P.info? ty).map (·.size) = some cs.size)
    (hx : a.eval x = .pointer (some ⟨g, 0, none⟩)) (hb : Hid (w.heap[g]? = some (.cells cs t fr)))
    (h : Stop (wpList P ops Q rest (a.put o.dst (.agg cs)) w)) : wpList P ops Q (o :: rest) a w := by
  refine wpList_plain hgd fun K hK => ?_
  have hl := run_loadVar_row (P := P) w g t ty cs fr d hb.out hu hd hi
  unfold Oper.wp
  simp only [execOp, ho, hx, Instr.loadAt, Instr.sureAddr, Sem.run_bind, Sem.run_pure, Result.andThen_ok, hl]
  exact hK _ _ h.on
theorem trodVars_nil_mk {H : Type} {enc : TypeId × Value → H} {P : Program} {w : World} {spare : Nat → Bool} : DataW.TrodVars enc P w spare [] [] [] := rfl
/-- 'a[i]' of an array of one-cell elements by value -/
theorem run_index_agg {P : Program} (w : World) (t e : TypeId) (n : Nat) (cs : Array Value) (k : IntKind) (i : Int) (v : Value) (d : TypeDesc) (hu : P.underlying t = some (.array n e)) (he : P.underlying e = some d) (hd : (match d with | .struct _ | .array _ _ => false | _ => true) = true) (h1 : (P.info? e).map (·.size) = some 1) (hlo : 0 ≤ i) (hhi : i < (n : Int)) (hv : cs[i.toNat]? = some v) :
    (Instr.index t (.agg cs) (.int k i)).run P w = .ok v w := by
  have hs : (sizeOf e).run P w = .ok 1 w := by
    cases hi : P.info? e with
    | none => rw [hi] at h1; cases h1
    | some x =>
      rw [hi] at h1
      have h2 : P.cellsOf e = 1 := by simpa [Program.cellsOf, hi] using h1
      rw [run_sizeOf w hi, h2]
  have hagg : (isAgg e).run P w = .ok false w := by
    simp only [isAgg, Sem.run_bind, run_underlying he, Result.andThen_ok]
    cases d <;> first | rfl | cases hd
  simp only [Instr.index, asIntOf, Sem.run_bind, Sem.run_pure, Result.andThen_ok, run_underlying hu, hlo, hhi, and_self, if_true, hs, Nat.mul_one, part, hagg, Bool.false_eq_true, if_false, hv]
theorem wpList_indexAgg {P : Program} {w : World} {ops : Array Oper} {rest : List Oper} {o : Oper} {a : Act} {Q : Exit → Act → World → Prop} (t : TypeId) (x ix : Operand) (ho : o.op = .index t x ix) (hgd : o.guard = none)
    (e : TypeId) (n : Nat) (cs : Array Value) (k : IntKind) (i : Int) (v : Value) (d : TypeDesc) (hu : P.underlying t = some (.array n e)) (he : P.underlying e = some d) (hd : (match d with | .struct _ | .array _ _ => false | _ => true) = true) (h1 : (P.info? e).map (·.size) = some 1)
    (hx : a.eval x = .agg cs) (hi : a.eval ix = .int k i) (hlo : 0 ≤ i) (hhi : i < (n : Int)) (hv : cs[i.toNat]? = some v)
    (h : Stop (wpList P ops Q rest (a.put o.dst v) w)) : wpList P ops Q (o :: rest) a w := by
  refine wpList_plain hgd fun K hK => ?_
  have hl := run_index_agg (P := P) w t e n cs k i v d hu he hd h1 hlo hhi hv
  unfold Oper.wp
  simp only [execOp, ho, hx, hi, Sem.run_bind, Sem.run_pure, Result.andThen_ok, hl]
  exact hK _ _ h.on
theorem var_ltZ {P : Program} {w : World} {n : String} {g : Nat} {cs : Array Value} (hg : P.globalNamed n = some g) (h : w.var? P n = some cs) : g < w.heap.size := by
  unfold World.var? at h
  simp only [hg, Option.bind_some] at h
  by_cases hl : g < w.heap.size
  · exact hl
  · rw [Array.getElem?_eq_none (by omega)] at h
    cases h

theorem tab_signOfTurn_num : Tryd.prog.globalNamed "loop.example/g01332/impl.signOfTurn" = some 0 := by kernel_rfl
theorem tab_signOfTurn_type : (Tryd.prog.globals[0]?).map (·.type) = some 69 := by kernel_rfl
theorem tab_signOfTurn_cells : Tryd.prog.cellsOf 69 = 4 := by kernel_rfl
theorem tab_signOfTurn_cell : Tryd.prog.cellsOf 21 = 1 := by kernel_rfl
structure Tab_signOfTurn (w : World) : Prop where
  val : w.var? Tryd.prog "loop.example/g01332/impl.signOfTurn" = some #[.int .i32 83, .int .i32 82, .int .i32 65, .int .i32 76]
theorem Tab_signOfTurn.lt {w : World} (h : Tab_signOfTurn w) : 0 < w.heap.size := var_ltZ tab_signOfTurn_num h.val
theorem Tab_signOfTurn.below {w w' : World} (h : Tab_signOfTurn w) (hb : Below w.heap.size w w') : Tab_signOfTurn w' := ⟨var?_below hb tab_signOfTurn_num h.lt h.val⟩
theorem Tab_signOfTurn.belowB {B : Nat} {w w' : World} (h : Tab_signOfTurn w) (hl : 0 < B) (hb : Below B w w') : Tab_signOfTurn w' := ⟨var?_below hb tab_signOfTurn_num hl h.val⟩
theorem Tab_signOfTurn.at {w : World} (h : Tab_signOfTurn w) : w.cell? ⟨0, 0, none⟩ = some (.int .i32 83) ∧ w.cell? ⟨0, 1, none⟩ = some (.int .i32 82) ∧ w.cell? ⟨0, 2, none⟩ = some (.int .i32 65) ∧ w.cell? ⟨0, 3, none⟩ = some (.int .i32 76) := by
  have hc := World.var?_cell tab_signOfTurn_num h.val
  exact ⟨(hc 0).trans rfl, (hc 1).trans rfl, (hc 2).trans rfl, (hc 3).trans rfl⟩
theorem Tab_signOfTurn.row {w : World} (h : Tab_signOfTurn w) : ∃ t fr, w.heap[0]? = some (.cells #[.int .i32 83, .int .i32 82, .int .i32 65, .int .i32 76] t fr) := row_varZ tab_signOfTurn_num h.val
theorem tab_signOfTurn_one : (Tryd.prog.info? 21).map (·.size) = some 1 := by kernel_rfl
theorem tab_signOfTurn_size : (Tryd.prog.info? 69).map (·.size) = some 4 := by kernel_rfl
theorem tab_signOfTurn_reads {H : Type} (enc : TypeId × Value → H) (W : World) (sp : Nat → Bool) : DataW.trod enc Tryd.prog W 0 sp true 3 69 (#[.int .i32 83, .int .i32 82, .int .i32 65, .int .i32 76] : Array Value).toList = some (.agg [.lit (.int .i32 83), .lit (.int .i32 82), .lit (.int .i32 65), .lit (.int .i32 76)], []) := by kernel_rfl
theorem tab_signOfTurn_of {W : World} {g : Nat} {t : TypeId} {cs : Array Value} {H : Type} {enc : TypeId × Value → H} {sp : Nat → Bool} {held : Bool} {fuel : Nat} {p : List MemPlace} (hg : Tryd.prog.globalNamed "loop.example/g01332/impl.signOfTurn" = some g) (ht : (Tryd.prog.globals[g]?).map (·.type) = some t) (hvar : W.var? Tryd.prog "loop.example/g01332/impl.signOfTurn" = some cs)
    (hd : DataW.trod enc Tryd.prog W 0 sp held fuel t cs.toList = some (.agg [.lit (.int .i32 83), .lit (.int .i32 82), .lit (.int .i32 65), .lit (.int .i32 76)], p)) : Tab_signOfTurn W := by
  obtain rfl := Option.some.inj (tab_signOfTurn_num.symm.trans hg)
  obtain rfl := Option.some.inj (tab_signOfTurn_type.symm.trans ht)
  refine ⟨hvar.trans (congrArg some ?_)⟩
  obtain ⟨l⟩ := cs
  cases fuel with
  | zero => simp [DataW.trod] at hd
  | succ fuel =>
    simp only [DataW.trod, Tryd.underlying69, tab_signOfTurn_cells, tab_signOfTurn_cell] at hd
    split at hd
    · rename_i hl
      obtain ⟨c0, c1, c2, c3, rfl⟩ : ∃ c0 c1 c2 c3, l = [c0, c1, c2, c3] := by
        match l, hl with
        | [c0, c1, c2, c3], _ => exact ⟨c0, c1, c2, c3, rfl⟩
      have e : List.range 4 = [0, 1, 2, 3] := rfl
      rw [e] at hd
      simp only [Option.map_eq_some_iff, List.mapM_cons, List.mapM_nil, Option.bind_eq_bind, Option.bind_eq_some_iff, Option.pure_def, Option.some.injEq] at hd
      obtain ⟨xs, ⟨y0, h0, _, ⟨y1, h1, _, ⟨y2, h2, _, ⟨y3, h3, _, rfl, rfl⟩, rfl⟩, rfl⟩, rfl⟩, hx⟩ := hd
      obtain ⟨n0, rfl, rfl⟩ := int_of_trodZ Tryd.underlying21 h0
      obtain ⟨n1, rfl, rfl⟩ := int_of_trodZ Tryd.underlying21 h1
      obtain ⟨n2, rfl, rfl⟩ := int_of_trodZ Tryd.underlying21 h2
      obtain ⟨n3, rfl, rfl⟩ := int_of_trodZ Tryd.underlying21 h3
      simp at hx
      obtain ⟨⟨rfl, rfl, rfl, rfl⟩, _⟩ := hx
      rfl
    · cases hd
theorem tab_turnsChosen_num : Tryd.prog.globalNamed "loop.example/g01332/impl.turnsChosen" = some 1 := by kernel_rfl
theorem tab_turnsChosen_type : (Tryd.prog.globals[1]?).map (·.type) = some 82 := by kernel_rfl
theorem tab_turnsChosen_cells : Tryd.prog.cellsOf 82 = 4 := by kernel_rfl
theorem tab_turnsChosen_cell : Tryd.prog.cellsOf 3 = 1 := by kernel_rfl
structure Tab_turnsChosen (w : World) : Prop where
  val : w.var? Tryd.prog "loop.example/g01332/impl.turnsChosen" = some #[.int .i64 0, .int .i64 3, .int .i64 1, .int .i64 2]
theorem Tab_turnsChosen.lt {w : World} (h : Tab_turnsChosen w) : 1 < w.heap.size := var_ltZ tab_turnsChosen_num h.val
theorem Tab_turnsChosen.below {w w' : World} (h : Tab_turnsChosen w) (hb : Below w.heap.size w w') : Tab_turnsChosen w' := ⟨var?_below hb tab_turnsChosen_num h.lt h.val⟩
theorem Tab_turnsChosen.belowB {B : Nat} {w w' : World} (h : Tab_turnsChosen w) (hl : 1 < B) (hb : Below B w w') : Tab_turnsChosen w' := ⟨var?_below hb tab_turnsChosen_num hl h.val⟩
theorem Tab_turnsChosen.at {w : World} (h : Tab_turnsChosen w) : w.cell? ⟨1, 0, none⟩ = some (.int .i64 0) ∧ w.cell? ⟨1, 1, none⟩ = some (.int .i64 3) ∧ w.cell? ⟨1, 2, none⟩ = some (.int .i64 1) ∧ w.cell? ⟨1, 3, none⟩ = some (.int .i64 2) := by
  have hc := World.var?_cell tab_turnsChosen_num h.val
  exact ⟨(hc 0).trans rfl, (hc 1).trans rfl, (hc 2).trans rfl, (hc 3).trans rfl⟩
theorem Tab_turnsChosen.row {w : World} (h : Tab_turnsChosen w) : ∃ t fr, w.heap[1]? = some (.cells #[.int .i64 0, .int .i64 3, .int .i64 1, .int .i64 2] t fr) := row_varZ tab_turnsChosen_num h.val
theorem tab_turnsChosen_one : (Tryd.prog.info? 3).map (·.size) = some 1 := by kernel_rfl
theorem tab_turnsChosen_size : (Tryd.prog.info? 82).map (·.size) = some 4 := by kernel_rfl
theorem tab_turnsChosen_reads {H : Type} (enc : TypeId × Value → H) (W : World) (sp : Nat → Bool) : DataW.trod enc Tryd.prog W 0 sp true 3 82 (#[.int .i64 0, .int .i64 3, .int .i64 1, .int .i64 2] : Array Value).toList = some (.agg [.lit (.int .i64 0), .lit (.int .i64 3), .lit (.int .i64 1), .lit (.int .i64 2)], []) := by kernel_rfl
theorem tab_turnsChosen_of {W : World} {g : Nat} {t : TypeId} {cs : Array Value} {H : Type} {enc : TypeId × Value → H} {sp : Nat → Bool} {held : Bool} {fuel : Nat} {p : List MemPlace} (hg : Tryd.prog.globalNamed "loop.example/g01332/impl.turnsChosen" = some g) (ht : (Tryd.prog.globals[g]?).map (·.type) = some t) (hvar : W.var? Tryd.prog "loop.example/g01332/impl.turnsChosen" = some cs)
    (hd : DataW.trod enc Tryd.prog W 0 sp held fuel t cs.toList = some (.agg [.lit (.int .i64 0), .lit (.int .i64 3), .lit (.int .i64 1), .lit (.int .i64 2)], p)) : Tab_turnsChosen W := by
  obtain rfl := Option.some.inj (tab_turnsChosen_num.symm.trans hg)
  obtain rfl := Option.some.inj (tab_turnsChosen_type.symm.trans ht)
  refine ⟨hvar.trans (congrArg some ?_)⟩
  obtain ⟨l⟩ := cs
  cases fuel with
  | zero => simp [DataW.trod] at hd
  | succ fuel =>
    simp only [DataW.trod, Tryd.underlying82, tab_turnsChosen_cells, tab_turnsChosen_cell] at hd
    split at hd
    · rename_i hl
      obtain ⟨c0, c1, c2, c3, rfl⟩ : ∃ c0 c1 c2 c3, l = [c0, c1, c2, c3] := by
        match l, hl with
        | [c0, c1, c2, c3], _ => exact ⟨c0, c1, c2, c3, rfl⟩
      have e : List.range 4 = [0, 1, 2, 3] := rfl
      rw [e] at hd
      simp only [Option.map_eq_some_iff, List.mapM_cons, List.mapM_nil, Option.bind_eq_bind, Option.bind_eq_some_iff, Option.pure_def, Option.some.injEq] at hd
      obtain ⟨xs, ⟨y0, h0, _, ⟨y1, h1, _, ⟨y2, h2, _, ⟨y3, h3, _, rfl, rfl⟩, rfl⟩, rfl⟩, rfl⟩, hx⟩ := hd
      obtain ⟨n0, rfl, rfl⟩ := int_of_trodZ Tryd.underlying3 h0
      obtain ⟨n1, rfl, rfl⟩ := int_of_trodZ Tryd.underlying3 h1
      obtain ⟨n2, rfl, rfl⟩ := int_of_trodZ Tryd.underlying3 h2
      obtain ⟨n3, rfl, rfl⟩ := int_of_trodZ Tryd.underlying3 h3
      simp at hx
      obtain ⟨⟨rfl, rfl, rfl, rfl⟩, _⟩ := hx
      rfl
    · cases hd

end Go.Proofs.YtjbomclildkjaaaDoor
