/- Chapter 7, the model: odGood, odTwo, odTurn, odAround; TurnRun, TurnFirst, TurnAround, MostRuns. -/
import Derived.Test.YtagcopleeicmjaaGw
import Derived.Test.YtagcopleeicmjaaDrew
import Derived.Test.YtagcopleeicmjaaLeast
import Derived.Test.YtagcopleeicmjaaMost
import Derived.Test.YtagcopleeicmjaaUp
namespace Go.Proofs.Ytagcopleeicmjaa
open Go.ChangeShapes Go.WideShapes Go.ChangeAt Go.RowKit
open Rx

namespace Od
def ordB (s : ByteArray) : Bool := goodB s && decide (s.size ≤ 40)
theorem ord_row {s : ByteArray} (h : ordB s = true) : ∃ l : List Bool, s = Rw.str l ∧ 1 ≤ l.length ∧ l.length ≤ 40 := by
  unfold ordB at h
  simp only [Bool.and_eq_true, decide_eq_true_eq] at h
  obtain ⟨l, rfl, h1, _⟩ := goodB_row h.1
  exact ⟨l, rfl, h1, by rw [Rw.size_str] at h; exact h.2⟩
theorem row_ord {l : List Bool} (h1 : 1 ≤ l.length) (h2 : l.length ≤ 40) : ordB (Rw.str l) = true := by
  unfold ordB
  rw [goodB_str h1 (by omega), Rw.size_str, decide_eq_true h2]; rfl
def twoB (a b : ByteArray) : Bool := ordB a && (ordB b && decide (a.size = b.size))
theorem two_rows {a b : ByteArray} (h : twoB a b = true) : ∃ l m : List Bool, a = Rw.str l ∧ b = Rw.str m ∧ 1 ≤ l.length ∧ l.length ≤ 40 ∧ m.length = l.length := by
  unfold twoB at h
  simp only [Bool.and_eq_true, decide_eq_true_eq] at h
  obtain ⟨l, rfl, h1, h2⟩ := ord_row h.1
  obtain ⟨m, rfl, h3, h4⟩ := ord_row h.2.1
  exact ⟨l, m, rfl, rfl, h1, h2, by have := h.2.2; rw [Rw.size_str, Rw.size_str] at this; exact this.symm⟩
/-- the row of a text -/
def rowOf (s : ByteArray) : List Bool := s.data.toList.map (· == 62)
theorem rowOf_str (l : List Bool) : rowOf (Rw.str l) = l := by
  unfold rowOf Rw.str Rw.txt
  simp only [List.map_map]
  refine (List.map_congr_left (fun b _ => ?_)).trans (List.map_id _)
  cases b <;> rfl
/-- all from a up to b, not with it, turned -/
def turnTo (l : List Bool) (a b : Nat) : List Bool := (List.range l.length).map fun i => if a ≤ i ∧ i < b then !l.getD i false else l.getD i false
theorem length_turnTo (l : List Bool) (a b : Nat) : (turnTo l a b).length = l.length := by simp [turnTo]
theorem turnTo_get (l : List Bool) (a b i : Nat) (h : i < l.length) : (turnTo l a b).getD i false = if a ≤ i ∧ i < b then !l.getD i false else l.getD i false := by
  unfold turnTo
  rw [List.getD_eq_getElem?_getD, List.getElem?_map, List.getElem?_range h]
  rfl
theorem turnTo_none (l : List Bool) (a : Nat) : turnTo l a a = l := by
  refine ext_getD false (length_turnTo _ _ _) fun i hi => ?_
  rw [length_turnTo] at hi
  rw [turnTo_get _ _ _ _ hi, if_neg (by omega)]
theorem turnTo_succ (l : List Bool) (a k : Nat) (hk : k < l.length) (ha : a ≤ k) : (turnTo l a k).take k ++ [!l.getD k false] ++ (turnTo l a k).drop (k + 1) = turnTo l a (k + 1) := by
  have hlen : ((turnTo l a k).take k ++ [!l.getD k false] ++ (turnTo l a k).drop (k + 1)).length = l.length := by simp [length_turnTo]; omega
  refine ext_getD false (by rw [hlen, length_turnTo]) fun i hi => ?_
  rw [hlen] at hi
  rw [turnTo_get _ _ _ _ hi]
  have htk : ((turnTo l a k).take k).length = k := by rw [List.length_take, length_turnTo]; omega
  rcases Nat.lt_trichotomy i k with h | h | h
  · rw [List.append_assoc, List.getD_eq_getElem?_getD, List.getElem?_append_left (by omega), List.getElem?_take, if_pos h, ← List.getD_eq_getElem?_getD, turnTo_get _ _ _ _ hi]
    by_cases h2 : a ≤ i
    · rw [if_pos ⟨h2, h⟩, if_pos ⟨h2, by omega⟩]
    · rw [if_neg (fun x => h2 x.1), if_neg (fun x => h2 x.1)]
  · subst h
    rw [if_pos ⟨ha, by omega⟩, List.append_assoc, List.getD_eq_getElem?_getD, List.getElem?_append_right (by omega), htk, Nat.sub_self]
    rfl
  · rw [if_neg (by omega), List.getD_eq_getElem?_getD, List.getElem?_append_right (by rw [List.length_append, htk]; simp; omega), List.length_append, htk, List.length_singleton, List.getElem?_drop, show k + 1 + (i - (k + 1)) = i by omega, ← List.getD_eq_getElem?_getD, turnTo_get _ _ _ _ hi, if_neg (by omega)]
/-- a soldier and the neighbours turned -/
def aroundL (l : List Bool) (i : Nat) : List Bool := turnTo l (i - 1) (min (l.length - 1) (i + 1) + 1)
theorem length_aroundL (l : List Bool) (i : Nat) : (aroundL l i).length = l.length := length_turnTo _ _ _
end Od
open Od

theorem odGood_q (s : ByteArray) (w : World) (hs : s.size ≤ 1048576) : Calls Try.prog 16 #[.string s] w fun e w' => e = .returned (.bool (ordB s)) ∧ w = w' := by
  have HG := Lib.hid (rwGood_w s w (by unfold maxLen; omega))
  rcases hb : goodB s with _ | _
  · have H0 : Hid (ordB s = false) := Lib.hid (by unfold ordB; rw [hb]; rfl)
    rw [hb] at HG
    clear hb
    go_enter Try.func16, Try.ntmps16
    go_wp2_with (go_at_call 18; refine HG.out.mono ?_; rintro e w' ⟨rfl, rfl⟩)
    go_ret
    exact ⟨ret_bool H0.out.symm, rfl⟩
  · rw [hb] at HG
    by_cases h40 : s.size ≤ 40
    · have H0 : Hid (ordB s = true) := Lib.hid (by unfold ordB; rw [hb, decide_eq_true h40]; rfl)
      have i1 : (s.size : Int) ≤ 40 := by omega
      clear hb h40
      go_enter Try.func16, Try.ntmps16
      go_wp2_with (go_at_call 18; refine HG.out.mono ?_; rintro e w' ⟨rfl, rfl⟩)
      go_ret
      exact ⟨ret_bool H0.out.symm, rfl⟩
    · have H0 : Hid (ordB s = false) := Lib.hid (by unfold ordB; rw [hb, decide_eq_false h40]; rfl)
      have i1 : ¬ (s.size : Int) ≤ 40 := by omega
      clear hb h40
      go_enter Try.func16, Try.ntmps16
      go_wp2_with (go_at_call 18; refine HG.out.mono ?_; rintro e w' ⟨rfl, rfl⟩)
      go_ret
      exact ⟨ret_bool (by rw [H0.out]; exact decide_eq_false (by omega)), rfl⟩

theorem odTwo_q (a b : ByteArray) (w : World) (ha : a.size ≤ 1048576) (hb : b.size ≤ 1048576) : Calls Try.prog 14 #[.string a, .string b] w fun e w' => e = .returned (.bool (twoB a b)) ∧ w = w' := by
  have HG := Lib.hid (odGood_q a w ha)
  have HH := Lib.hid (odGood_q b w hb)
  rcases h1 : ordB a with _ | _
  · have H0 : Hid (twoB a b = false) := Lib.hid (by unfold twoB; rw [h1]; rfl)
    rw [h1] at HG
    clear h1
    go_enter Try.func14, Try.ntmps14
    go_wp2_with (go_at_call 16; refine HG.out.mono ?_; rintro e w' ⟨rfl, rfl⟩)
    go_ret
    exact ⟨ret_bool H0.out.symm, rfl⟩
  · rw [h1] at HG
    rcases h2 : ordB b with _ | _
    · have H0 : Hid (twoB a b = false) := Lib.hid (by unfold twoB; rw [h1, h2]; rfl)
      rw [h2] at HH
      clear h1 h2
      go_enter Try.func14, Try.ntmps14
      go_wp2_with fail
      go_at_call 16
      refine HG.out.mono ?_
      rintro e w' ⟨rfl, rfl⟩
      go_wp2_with (go_at_call 16; refine HH.out.mono ?_; rintro e w' ⟨rfl, rfl⟩)
      go_ret
      exact ⟨ret_bool H0.out.symm, rfl⟩
    · have H0 : Hid (twoB a b = decide (a.size = b.size)) := Lib.hid (by unfold twoB; rw [h1, h2]; rfl)
      rw [h2] at HH
      have hq : ((a.size : Int) == (b.size : Int)) = decide (a.size = b.size) := by
        by_cases e : a.size = b.size
        · rw [decide_eq_true e, beq_iff_eq]; omega
        · rw [decide_eq_false e, beq_eq_false_iff_ne]; omega
      clear h1 h2
      go_enter Try.func14, Try.ntmps14
      go_wp2_with fail
      go_at_call 16
      refine HG.out.mono ?_
      rintro e w' ⟨rfl, rfl⟩
      go_wp2_with fail
      go_at_call 16
      refine HH.out.mono ?_
      rintro e w' ⟨rfl, rfl⟩
      go_wp2
      go_ret
      exact ⟨ret_bool H0.out.symm, rfl⟩


theorem drewN_belowM {w w' : World} (h : ∃ m, w' = w.drewN m) : Below w.heap.size w w' := by obtain ⟨m, rfl⟩ := h; exact drewN_down w m
def runB (s : ByteArray) (a b : Int) : Bool := ordB s && (inB a 0 ((s.size : Int) - 1) && inB b a ((s.size : Int) - 1))
def outTurnRun_0 (s : ByteArray) (a b : Int) : ByteArray := if runB s a b then Rw.str (turnTo (rowOf s) a.toNat (b.toNat + 1)) else ByteArray.empty
def outTurnRun_1 (s : ByteArray) (a b : Int) : Bool := runB s a b
def firB (s : ByteArray) (n : Int) : Bool := ordB s && inB n 1 (s.size : Int)
def outTurnFirst_0 (s : ByteArray) (n : Int) : ByteArray := if firB s n then Rw.str (turnTo (rowOf s) 0 n.toNat) else ByteArray.empty
def outTurnFirst_1 (s : ByteArray) (n : Int) : Bool := firB s n
def aroB (s : ByteArray) (n : Int) : Bool := ordB s && inB n 0 ((s.size : Int) - 1)
def outTurnAround_0 (s : ByteArray) (n : Int) : ByteArray := if aroB s n then Rw.str (aroundL (rowOf s) n.toNat) else ByteArray.empty
def outTurnAround_1 (s : ByteArray) (n : Int) : Bool := aroB s n
def outMostRuns_0 (n : Int) : Int := if inB n 1 40 then (n + 1) / 2 else 0
def outMostRuns_1 (n : Int) : Bool := inB n 1 40







end Go.Proofs.Ytagcopleeicmjaa
