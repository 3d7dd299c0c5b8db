/- Chapter 7, the model: odFirsts; FewestFirst, FirstsTo. -/
import Derived.Test.YtkdpjimbhpclaabOda
import Derived.Test.YtkdpjimbhpclaabItr
namespace Go.Proofs.Ytkdpjimbhpclaab
open Go.ChangeShapes Go.WideShapes Go.ChangeAt Go.RowKit
open Rx Od

namespace Od
/-- whether soldier i looks differently in both -/
def difB (l m : List Bool) (i : Nat) : Bool := decide (i < l.length) && (l.getD i false != m.getD i false)
def firTo (l m : List Bool) : Nat → List Int
  | 0 => []
  | k + 1 => if difB l m k != difB l m (k + 1) then firTo l m k ++ [(k : Int) + 1] else firTo l m k
theorem length_firTo (l m : List Bool) : ∀ k, (firTo l m k).length ≤ k
  | 0 => Nat.le_refl _
  | k + 1 => by
    have := length_firTo l m k
    rw [firTo]
    split
    · rw [List.length_append, List.length_singleton]; omega
    · omega
theorem iterPos_w {w : World} {k : Nat} {s : ByteArray} {p : Nat} (h : w.heap[k]? = some (.stringIter s p)) : w.iterPos k = p := by unfold World.iterPos; rw [h]
theorem byte_dif {s t : ByteArray} {l m : List Bool} (hs : s = Rw.str l) (ht : t = Rw.str m) (k : Nat) (hk : k < s.size) (hk2 : k < t.size) : (((s[k]).toNat : Int) != ((t[k]).toNat : Int)) = (l.getD k false != m.getD k false) := by
  subst hs ht
  rw [Rw.str_get, Rw.str_get]
  cases l.getD k false <;> cases m.getD k false <;> rfl
theorem byte_low {s : ByteArray} {l : List Bool} (hs : s = Rw.str l) (k : Nat) (hk : k < s.size) : (s[k]).toNat < 128 := by
  subst hs
  rw [Rw.str_get]
  cases l.getD k false <;> decide
end Od

theorem Own.drewO {w : World} {B : Nat} {v : Value} {zs : List Int} (h : Own w B v zs) (n : Nat) : Own (w.drewN n) B v zs := h


def outFirstsTo_0 (a b : ByteArray) : List Int := if twoB a b then firTo (rowOf a) (rowOf b) (rowOf a).length else []
def outFirstsTo_1 (a b : ByteArray) : Bool := twoB a b
theorem lenFirstsTo_0 (a b : ByteArray) (_ha : a.size ≤ 1048576) (_hb : b.size ≤ 1048576) : (outFirstsTo_0 a b).length ≤ 4611686018427387904 := by
  unfold outFirstsTo_0
  split
  · rename_i h
    obtain ⟨l, m, rfl, rfl, _, h3, _⟩ := two_rows h
    have := length_firTo (rowOf (Rw.str l)) (rowOf (Rw.str m)) (rowOf (Rw.str l)).length
    rw [rowOf_str] at this ⊢
    omega
  · simp
def outFewestFirst_0 (a b : ByteArray) : Int := if twoB a b then ((firTo (rowOf a) (rowOf b) (rowOf a).length).length : Nat) else 0
def outFewestFirst_1 (a b : ByteArray) : Bool := twoB a b



end Go.Proofs.Ytkdpjimbhpclaab
