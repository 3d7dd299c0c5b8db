/- Chapter 7, the program: first orders in a map of the call's own: look-up, store, delete, range. -/
import Derived.Test.YtkdpjimbhpclaabVa
import Derived.Maps.RangeWalk
import Derived.Maps.OwnSet
import Derived.Maps.OwnOps
namespace Go.Proofs.Ytkdpjimbhpclaab
open Go.ChangeShapes Go.WideShapes Go.ChangeAt Go.RowKit
open Rx Od

namespace Ed
theorem lawI : Maps.Keyed Try.prog 3 := Maps.int_keyed Try.underlying3
theorem zeroBl (w : World) : (zeroValue 4).run Try.prog w = .ok (.bool false) w := by kernel_rfl
/-- D's keys are those of S; each holds true -/
def Is (D : DataW Unit) (S : Int → Bool) : Prop := (∀ x, Maps.has D (.int .i64 x) = S x) ∧ (∀ x, S x = true → ∀ z, D.atKey (.int .i64 x) z = .lit (.bool true))
/-- block b is a map of at most N entries, with the keys of S -/
def Fst (w : World) (b N : Nat) (S : Int → Bool) : Prop := ∃ D : DataW Unit, w.ownsMap Try.prog 3 (plainElem Try.prog 4) b N D ∧ Is D S
/-- a range over it is under way -/
def Rng (w : World) (b r N : Nat) (S : Int → Bool) (left : Lit → Bool) (cnt : Nat) : Prop := ∃ D : DataW Unit, w.ranges Try.prog 3 (plainElem Try.prog 4) b r N D left cnt ∧ Is D S
def flipS (S : Int → Bool) (X : Int) : Int → Bool := fun x => S x != decide (x = X)
theorem flip_same (S : Int → Bool) (X : Int) : flipS S X X = !S X := by unfold flipS; rw [decide_eq_true rfl]; cases S X <;> rfl
theorem flip_other (S : Int → Bool) (X x : Int) (h : x ≠ X) : flipS S X x = S x := by unfold flipS; rw [decide_eq_false h]; cases S x <;> rfl
theorem Fst.kept {w w' : World} {b N : Nat} {S : Int → Bool} {row : Option Nat} (h : Fst w b N S) (hg : w.grownBy w' row) (hne : some b ≠ row) : Fst w' b N S := by
  obtain ⟨D, h1, h2⟩ := h; exact ⟨D, h1.kept hg hne, h2⟩
theorem Fst.lt {w : World} {b N : Nat} {S : Int → Bool} (h : Fst w b N S) : b < w.heap.size := by obtain ⟨D, h1, _⟩ := h; exact h1.lt
theorem Fst.below {w w' : World} {b N B : Nat} {S : Int → Bool} (h : Fst w b N S) (hb : Below B w w') (hB : b < B) : Fst w' b N S := by
  obtain ⟨D, ⟨es, clock, h1, h2⟩, h3⟩ := h
  exact ⟨D, ⟨es, clock, (hb.block b hB).trans h1, h2⟩, h3⟩
theorem Fst.mono {w : World} {b N M : Nat} {S : Int → Bool} (h : Fst w b N S) (hn : N ≤ M) : Fst w b M S := by obtain ⟨D, h1, h2⟩ := h; exact ⟨D, h1.mono hn, h2⟩
theorem Fst.congr {w : World} {b N : Nat} {S T : Int → Bool} (h : Fst w b N S) (e : ∀ x, S x = T x) : Fst w b N T := by
  obtain ⟨D, h1, h2, h3⟩ := h; exact ⟨D, h1, fun x => (h2 x).trans (e x), fun x hx => h3 x ((e x).trans hx)⟩
theorem Fst.made (w : World) : Fst (w.alloc (.map #[] 0)) w.heap.size 0 (fun _ => false) :=
  ⟨.map [], World.ownsMap_made _ _ _ _, fun _ => rfl, fun _ h => by cases h⟩
theorem Fst.drew {w : World} {b N : Nat} {S : Int → Bool} (h : Fst w b N S) (n : Nat) : Fst (w.drewN n) b N S := h
theorem Rng.kept {w w' : World} {b r N cnt : Nat} {S : Int → Bool} {left : Lit → Bool} {row : Option Nat} (h : Rng w b r N S left cnt) (hg : w.grownBy w' row) (hb : some b ≠ row) (hr : some r ≠ row) : Rng w' b r N S left cnt := by
  obtain ⟨D, h1, h2⟩ := h; exact ⟨D, h1.kept hg hb hr, h2⟩
theorem Rng.owns {w : World} {b r N cnt : Nat} {S : Int → Bool} {left : Lit → Bool} (h : Rng w b r N S left cnt) : Fst w b N S := by
  obtain ⟨D, h1, h2⟩ := h; exact ⟨D, h1.owns, h2⟩
theorem Rng.left_eq {w : World} {b r N cnt : Nat} {S : Int → Bool} {left : Lit → Bool} (h : Rng w b r N S left cnt) : w.rangeLeft b r = cnt := by
  obtain ⟨D, h1, _⟩ := h; exact h1.left_eq
theorem Rng.lt {w : World} {b r N cnt : Nat} {S : Int → Bool} {left : Lit → Bool} (h : Rng w b r N S left cnt) : r < w.heap.size := by
  obtain ⟨D, h1, _⟩ := h; exact h1.lt
theorem Rng.ne {w : World} {b r N cnt : Nat} {S : Int → Bool} {left : Lit → Bool} (h : Rng w b r N S left cnt) : r ≠ b := by
  obtain ⟨D, h1, _⟩ := h; exact h1.ne
theorem int_ne {x y : Int} (h : x ≠ y) : Lit.int .i64 x ≠ Lit.int .i64 y := fun e => h (by cases e; rfl)
theorem key_int (x : Int) : WideAt.IsKeyLit (Lit.int .i64 x) := trivial
theorem Is.put {D : DataW Unit} {S : Int → Bool} {X : Int} (h : Is D S) (hm : Maps.IsMap D) (hX : S X = false) : Is (D.put (.int .i64 X) (.lit (.bool true))) (flipS S X) := by
  refine ⟨fun x => ?_, fun x hx z => ?_⟩
  · by_cases e : x = X
    · subst e; rw [Maps.has_put_same hm (key_int _), flip_same, hX]; rfl
    · rw [Maps.has_put_other (int_ne e), flip_other _ _ _ e]; exact h.1 x
  · by_cases e : x = X
    · subst e; rw [Maps.atKey_put_same hm (key_int _)]
    · rw [Maps.atKey_put_other (int_ne e)]
      exact h.2 x (by rw [flip_other _ _ _ e] at hx; exact hx) z
theorem Is.del {D : DataW Unit} {S : Int → Bool} {X : Int} (h : Is D S) (hX : S X = true) : Is (D.del (.int .i64 X)) (flipS S X) := by
  refine ⟨fun x => ?_, fun x hx z => ?_⟩
  · by_cases e : x = X
    · subst e; rw [Maps.has_del_same, flip_same, hX]; rfl
    · rw [Maps.has_del_other (int_ne e), flip_other _ _ _ e]; exact h.1 x
  · by_cases e : x = X
    · subst e; rw [flip_same, hX] at hx; cases hx
    · rw [Maps.atKey_del_other (int_ne e)]
      exact h.2 x (by rw [flip_other _ _ _ e] at hx; exact hx) z
theorem Is.del_any {D : DataW Unit} {S : Int → Bool} {X : Int} (h : Is D S) : Is (D.del (.int .i64 X)) (fun x => S x && decide (x ≠ X)) := by
  refine ⟨fun x => ?_, fun x hx z => ?_⟩
  · by_cases e : x = X
    · subst e; rw [Maps.has_del_same]; simp
    · rw [Maps.has_del_other (int_ne e), h.1 x]; simp [e]
  · by_cases e : x = X
    · subst e; simp at hx
    · rw [Maps.atKey_del_other (int_ne e)]
      exact h.2 x (by simp [e] at hx; exact hx) z

def bitOf : DataW Unit → Bool
  | .lit (.bool b) => b
  | _ => false

section
variable (w : World) {ops : Array Oper} {rest : List Oper} {o : Oper} {a : Act} {Q : Exit → Act → World → Prop}

theorem wpList_has (hg : o.guard = none) (m x : Operand) (t : TypeId) (hop : o.op = Op.lookup t m x false) (ht : Try.prog.underlying t = some (.map 3 4)) {b N : Nat} {S : Int → Bool} (hm : a.eval m = .map (some b)) (h : Fst w b N S) (X : Int) (hx : a.eval x = .int .i64 X) (hw : (Lit.int .i64 X).wf = true)
    (hK : wpList Try.prog ops Q rest (a.put o.dst (.bool (S X))) w) : wpList Try.prog ops Q (o :: rest) a w := by
  refine wpList_plain hg fun K' hK' => ?_
  obtain ⟨D, hown, h1, h2⟩ := h
  obtain ⟨v, ps, hrun, hv⟩ := hown.lookup lawI ht (zeroBl w) (plainElem_bool Try.underlying4 false) (Maps.keyOf_int_mk Try.underlying3 hw)
  have e : v = .bool (S X) := by
    have hat : D.atKey (.int .i64 X) (.lit (.bool false)) = .lit (.bool (S X)) := by
      rcases hs : S X with _ | _
      · exact Maps.atKey_of_not_has ((h1 X).trans hs) _
      · exact h2 X hs _
    rw [hat] at hv
    unfold plainElem at hv
    cases v <;> simp [Try.underlying4] at hv
    all_goals first | (rw [hv.1]) | (rw [hv]) | (cases hv)
  subst e
  unfold Oper.wp
  simp [execOp, hop, hm, hx, hrun, Result.andThen]
  exact hK' _ _ hK

theorem wpList_put (hg : o.guard = none) (m x v : Operand) (t : TypeId) (hop : o.op = Op.mapUpdate t m x v) (ht : Try.prog.underlying t = some (.map 3 4)) {b N : Nat} {S : Int → Bool} (hm : a.eval m = .map (some b)) (h : Fst w b N S) (hN : N ≤ 100000) (X : Int) (hx : a.eval x = .int .i64 X) (hv : a.eval v = .bool true) (hw : (Lit.int .i64 X).wf = true) (hX : S X = false)
    (hK : ∀ w', Fst w' b (N + 1) (flipS S X) → w.grownBy w' (some b) → wpList Try.prog ops Q rest (a.put o.dst undef) w') : wpList Try.prog ops Q (o :: rest) a w := by
  obtain ⟨D, hown, hI⟩ := h
  exact wpList_mapUpdate_own w hg m x v t hop 3 4 lawI ht _ b N D hm hown (by unfold maxLen; omega) _ _ _ hx hv (Maps.keyOf_int_mk Try.underlying3 hw) _ [] (plainElem_bool Try.underlying4 true) fun w' h1 h2 => hK w' ⟨_, h1, hI.put hown.isMap hX⟩ h2

theorem wpList_del (hg : o.guard = none) (m x : Operand) (t k : TypeId) (hop : o.op = Op.call { callee := Callee.builtin Builtin.delete, args := #[m, x], argTypes := #[t, k] }) (hk : k = 3) (ht : Try.prog.underlying t = some (.map 3 4)) {b N : Nat} {S : Int → Bool} (hm : a.eval m = .map (some b)) (h : Fst w b N S) (X : Int) (hx : a.eval x = .int .i64 X) (hw : (Lit.int .i64 X).wf = true)
    (hK : ∀ w', Fst w' b N (fun x => S x && decide (x ≠ X)) → w.grownBy w' (some b) → wpList Try.prog ops Q rest (a.put o.dst (.tuple #[])) w') : wpList Try.prog ops Q (o :: rest) a w := by
  obtain ⟨D, hown, hI⟩ := h
  subst hk
  exact wpList_delete_own w hg m x t _ hop 4 lawI ht _ b N D hm hown _ _ hx (Maps.keyOf_int_mk Try.underlying3 hw) fun w' h1 h2 => hK w' ⟨_, h1, hI.del_any⟩ h2.grown

theorem wpList_len (hg : o.guard = none) (m : Operand) (t : TypeId) (hop : o.op = Op.call { callee := Callee.builtin Builtin.len, args := #[m], argTypes := #[t] }) (ht : Try.prog.underlying t = some (.map 3 4)) {b N : Nat} {S : Int → Bool} (hm : a.eval m = .map (some b)) (h : Fst w b N S)
    (hK : ∀ n : Nat, n ≤ N → ((∀ x, S x = false) ↔ n = 0) → wpList Try.prog ops Q rest (a.put o.dst (.int .i64 (n : Int))) w) : wpList Try.prog ops Q (o :: rest) a w := by
  obtain ⟨D, hown, hI⟩ := h
  refine wpList_len_own w hg m t hop 3 4 ht _ b N D hm hown (hK _ hown.size_le ?_)
  obtain ⟨es, clock, hb, F, hs, rfl⟩ := hown
  have hI1 := hI.1
  generalize hE : (es.toList.map (WideElems.rg Try.prog 3 (plainElem (H := Unit) Try.prog 4))).foldr DataW.insert [] = E at hI1 ⊢
  constructor
  · intro hn
    rw [Maps.size_eq]
    rcases E with _ | ⟨p, E⟩
    · rfl
    · exfalso
      have hm : p ∈ (es.toList.map (WideElems.rg Try.prog 3 (plainElem (H := Unit) Try.prog 4))).foldr DataW.insert [] := by rw [hE]; exact List.mem_cons_self
      obtain ⟨x, hx, hp⟩ := List.mem_map.1 (mem_sorted.1 hm)
      obtain ⟨y, hy⟩ := F.reads x hx
      have hk := WideElems.rd_key hy
      obtain ⟨X, _, hX, _⟩ := Maps.keyOf_int_inv Try.underlying3 hk
      rw [WideElems.rg_of hy] at hp
      have h2 := hI1 X
      rw [hn X, Maps.has_eq] at h2
      have : (p.1.sameKey (Lit.int .i64 X)) = true := by
        rw [← hp, hX]; simp [Lit.sameKey]
      simp [this] at h2
  · intro h0 x
    rw [Maps.size_eq, List.length_eq_zero_iff] at h0
    rw [← hI1 x, h0]; rfl

/-- 'range f' -/
theorem wpList_rangeF (hg : o.guard = none) (m : Operand) (t : TypeId) (hop : o.op = Op.range t m) (ht : Try.prog.underlying t = some (.map 3 4)) {b N : Nat} {S : Int → Bool} (hm : a.eval m = .map (some b)) (h : Fst w b N S)
    (hK : ∀ w' left cnt, Rng w' b w.heap.size N S left cnt → (∀ x, left (.int .i64 x) = S x) → cnt ≤ N → w.grownBy w' none → w'.heap.size = w.heap.size + 1 → wpList Try.prog ops Q rest (a.put o.dst (.pointer (some ⟨w.heap.size, 0, none⟩))) w') : wpList Try.prog ops Q (o :: rest) a w := by
  obtain ⟨D, hown, hI⟩ := h
  exact wpList_range_own w hg m t hop 3 4 lawI ht _ b N D hm hown fun w' h1 h2 h3 => hK w' _ _ ⟨D, h1, hI⟩ hI.1 hown.size_le h2 h3

theorem sameKey_int (x y : Int) : (Lit.int .i64 x).sameKey (Lit.int .i64 y) = decide (x = y) := by
  simp [Lit.sameKey]

/-- the step -/
theorem wpList_nextF (hg : o.guard = none) (it : Operand) (hop : o.op = Op.next it false) {b r N cnt : Nat} {S : Int → Bool} {left : Lit → Bool} (hit : a.eval it = .pointer (some ⟨r, 0, none⟩)) (h : Rng w b r N S left cnt)
    (hDone : cnt = 0 → (∀ x : Int, left (.int .i64 x) = false) → wpList Try.prog ops Q rest (a.put o.dst (.tuple #[.bool false])) w)
    (hMore : ∀ (x : Int) (w' : World) (left' : Lit → Bool) (cnt' : Nat), (Lit.int .i64 x).wf = true → left (.int .i64 x) = true → S x = true → Rng w' b r N S left' cnt' → (∀ y : Int, left' (.int .i64 y) = (left (.int .i64 y) && !decide (y = x))) → cnt' < cnt → w.grownBy w' (some r) → w'.heap.size = w.heap.size →
      (Instr.entry (.pointer (some ⟨r, 0, none⟩))).run Try.prog w' = .ok (.tuple #[.int .i64 x, .bool true]) w' → wpList Try.prog ops Q rest (a.put o.dst (.tuple #[.bool true, .int .i64 x, .bool true])) w') :
    wpList Try.prog ops Q (o :: rest) a w := by
  obtain ⟨D, hr, hI⟩ := h
  refine wpList_next_ranges w hg it hop 3 lawI (plainElem Try.prog 4) (Value.int .i64) Value.bool (fun key kl hk => by obtain ⟨x, rfl, _⟩ := Maps.keyOf_int_inv Try.underlying3 hk; exact ⟨x, rfl⟩)
    (fun v y hv => by
      unfold plainElem at hv
      cases v <;> simp [Try.underlying4] at hv
      exact ⟨_, rfl⟩) b r N D left cnt hit hr (fun h0 hl => hDone h0 fun x => hl _) ?_
  intro x c kl y w' cnt' hkey hlk hv hat hrg hlt hgr hsz hen
  obtain ⟨x', ex, rfl, hwx⟩ := Maps.keyOf_int_inv Try.underlying3 hkey
  cases ex
  have hS : S x = true := (hI.1 x).symm.trans (Maps.has_true_of_atKey hat)
  have hv2 := plainElem_bool (H := Unit) Try.underlying4 c
  rw [hv] at hv2
  have hy : y.1 = .lit (.bool c) := congrArg Prod.fst (Option.some.inj hv2)
  have hc : c = true := by
    have h2 := hI.2 x hS (.lit (.bool false))
    rw [hat, hy] at h2
    exact congrArg bitOf h2
  subst hc
  exact hMore x w' _ cnt' hwx hlk hS ⟨D, hrg, hI⟩ (fun z => by rw [sameKey_int]) hlt hgr hsz hen
end
end Ed

end Go.Proofs.Ytkdpjimbhpclaab
