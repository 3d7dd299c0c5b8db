/- Rows of soldiers beside lists of ints: rwPairs, rwTick, rwRest of the model (namespace Rx; like Gw). -/
import Derived.Test.YtodlpdbmiicdfabDoorGw
import Derived.Test.YtodlpdbmiicdfabDoorOwn
import Derived.Test.YtodlpdbmiicdfabDoorDrew
import Derived.Deep.QuietTactic
import Derived.BigQuiet
namespace Go.Proofs.YtodlpdbmiicdfabDoor
open Go.ChangeShapes Go.WideShapes Go.ChangeAt Go.RowKit

namespace Rx
theorem byteR {s : ByteArray} {l : List Bool} (hs : s = Rw.str l) (k : Nat) (hk : k < s.size) : (((s[k]).toNat : Int) == 62) = l.getD k false := by
  subst hs
  rw [Rw.str_get]
  cases l.getD k false <;> rfl
theorem pairsTo_yes {l : List Bool} {k : Nat} (h : Rw.isPair l k = true) : Rw.pairsTo l (k + 1) = Rw.pairsTo l k ++ [k] := by rw [Rw.pairsTo_succ, if_pos h]
theorem pairsTo_no {l : List Bool} {k : Nat} (h : Rw.isPair l k = false) : Rw.pairsTo l (k + 1) = Rw.pairsTo l k := by rw [Rw.pairsTo_succ, h]; simp
theorem isPair_of {l : List Bool} {k : Nat} (hk : k + 1 < l.length) {a b : Bool} (h1 : l.getD k false = a) (h2 : l.getD (k + 1) false = b) : Rw.isPair l k = (a && !b) := by
  unfold Rw.isPair; rw [h1, Rw.getD_ne l hk true false, h2]
theorem asInts_snoc (ps : List Nat) (k : Nat) : asInts (ps ++ [k]) = asInts ps ++ [(k : Int)] := by simp [asInts]
theorem pairs_le (l : List Bool) : (Rw.pairs l).length ≤ l.length := by
  have := Rw.pairsTo_le l (l.length - 1)
  unfold Rw.pairs; omega
def swapped (l : List Bool) (j : Nat) : List Bool := ((Rw.pairs l).take j).foldl Rw.swapAt l
theorem swapped_succ (l : List Bool) (j : Nat) (h : j < (Rw.pairs l).length) : swapped l (j + 1) = Rw.swapAt (swapped l j) (Rw.pairs l)[j] := by
  unfold swapped
  rw [List.take_succ_eq_append_getElem h, List.foldl_append]; rfl
theorem length_swapped (l : List Bool) (j : Nat) : (swapped l j).length = l.length := Rw.length_foldl_swap _ _
theorem swapped_all (l : List Bool) (j : Nat) (h : j = (Rw.pairs l).length) : swapped l j = Rw.tick l := by
  unfold swapped; rw [h, List.take_length]; rfl
theorem cut_swap : ∀ (m : List Bool) (p : Nat), p + 1 < m.length → m.take p ++ [false, true] ++ m.drop (p + 2) = Rw.swapAt m p
  | [], p, h => by simp at h
  | [_], p, h => by simp at h
  | _ :: _ :: t, 0, _ => by simp [Rw.swapAt]
  | a :: b :: t, p + 1, h => by
    have := cut_swap (b :: t) p (by simpa using h)
    simp only [Rw.swapAt, List.take_succ_cons, List.drop_succ_cons, List.set_cons_succ, List.cons_append] at this ⊢
    rw [this]
theorem cut_str (m : List Bool) (p : Nat) (hp : p + 1 < m.length) {s : ByteArray} (hs : s = Rw.str m) : s.extract 0 p ++ { data := #[60, 62] } ++ s.extract (p + 2) s.size = Rw.str (Rw.swapAt m p) := by
  subst hs
  rw [← cut_swap m p hp, Rw.size_str, Rw.str_take, Rw.str_drop, ← Rw.str_append, ← Rw.str_append]
  rfl
theorem tick_length (l : List Bool) : (Rw.tick l).length = l.length := Rw.length_foldl_swap _ _
theorem ticks_rest {l : List Bool} (h : Rw.pairs l = []) : Rw.ticksOf l = 0 ∧ Rw.restOf l = l := by
  rw [Rw.ticksOf, Rw.restOf, dif_pos h, dif_pos h]; exact ⟨rfl, rfl⟩
theorem ticks_next {l : List Bool} (h : ¬ Rw.pairs l = []) : Rw.ticksOf l = Rw.ticksOf (Rw.tick l) + 1 ∧ Rw.restOf l = Rw.restOf (Rw.tick l) := by
  constructor
  · rw [Rw.ticksOf, dif_neg h]
  · rw [Rw.restOf, dif_neg h]
end Rx
open Rx




end Go.Proofs.YtodlpdbmiicdfabDoor
