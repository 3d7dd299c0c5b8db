/- Chapter 9, the program, plain: the greatest numbers of a clue; what chapter 1's calls tell of a row is what a clue tells. -/
import Derived.Test.YtodlpdbmiicdfabDoorPzc
import Derived.Lib.Bytealg
namespace Go.Proofs.YtodlpdbmiicdfabDoor
open Go.ChangeShapes Go.WideShapes Go.ChangeAt Go.RowKit

namespace Pz
def grA (s k : Int) : Int := if k = 0 ∨ k = 4 then s - 1 else 0
def grB (k : Int) : Int := if k = 0 then 20 else 0
def grC (s k : Int) : Int := if k = 0 then 1 else if k = 1 then s else if k = 3 then 8 else 20
theorem inB_zero (a : Int) : inB a 0 0 = decide (a = 0) := by
  unfold inB; rw [decide_eq_decide]; omega
theorem clueB_is (s : Int) (c : RClue) : clueB s c = (inB c.1 0 4 && (inB c.2.1 0 (grA s c.1) && (inB c.2.2.1 0 (grB c.1) && inB c.2.2.2 0 (grC s c.1)))) := by
  obtain ⟨k, a, b, d⟩ := c
  simp only [clueB]
  by_cases h0 : k = 0
  · subst h0; simp [grA, grB, grC, show inB 0 0 4 = true from rfl]
  by_cases h1 : k = 1
  · subst h1; simp [grA, grB, grC, inB_zero, show inB 1 0 4 = true from rfl]
  by_cases h2 : k = 2
  · subst h2; simp [grA, grB, grC, inB_zero, show inB 2 0 4 = true from rfl]
  by_cases h3 : k = 3
  · subst h3; simp [grA, grB, grC, inB_zero, show inB 3 0 4 = true from rfl]
  by_cases h4 : k = 4
  · subst h4; simp [grA, grB, grC, inB_zero, show inB 4 0 4 = true from rfl]
  · rw [inB_no (n := k) (by omega)]; simp [h0, h1, h2, h3, h4]
/-- how many times it stands there -/
theorem count_str (l : List Bool) : Lib.countByte (Rw.str l).data.toList 62 = l.count true := by
  unfold Lib.countByte
  simp only [Rw.str, Rw.txt]
  induction l with
  | nil => rfl
  | cons b t ih =>
    simp only [List.map_cons] at ih ⊢
    rw [List.count_cons, List.count_cons, ih]
    cases b <;> simp [Rw.sgn]
theorem rightTo_count (l : List Bool) : ∀ j, j ≤ l.length → rightTo l j = (l.take j).count true
  | 0, _ => rfl
  | j + 1, h => by
    rw [rightTo, List.take_succ_eq_append_getElem (by omega), List.count_append, rightTo_count l j (by omega)]
    have e : l.getD j false = l[j] := by rw [List.getD_eq_getElem?_getD, List.getElem?_eq_getElem (by omega)]; rfl
    rw [e]
    cases l[j] <;> simp
theorem right_all (l : List Bool) : Lib.countByte (Rw.str l).data.toList 62 = rightTo l l.length := by
  rw [count_str, rightTo_count l l.length (Nat.le_refl _), List.take_length]
theorem str_one (l : List Bool) (a : Nat) (h : a < l.length) : (Rw.str l).extract a (a + 1) = Rw.str [l.getD a false] := by
  apply ByteArray.ext
  simp only [Rw.str, Rw.txt, ByteArray.data_extract]
  apply Array.ext'
  simp only [Array.toList_extract, List.map_cons, List.map_nil, List.extract, Nat.add_sub_cancel_left]
  rw [← List.map_drop, ← List.map_take, List.drop_eq_getElem_cons h, List.take_succ_cons, List.take_zero, List.getD_eq_getElem?_getD, List.getElem?_eq_getElem h]
  rfl
theorem count_one (l : List Bool) (a : Nat) (h : a < l.length) : Lib.countByte ((Rw.str l).extract a (a + 1)).data.toList 62 = if l.getD a false then 1 else 0 := by
  rw [str_one l a h, count_str]
  cases l.getD a false <;> rfl
theorem tick_same {l : List Bool} (h : Rw.pairs l = []) : Rw.tick l = l := by unfold Rw.tick; rw [h]; rfl
theorem tickN_same {l : List Bool} (h : Rw.pairs l = []) : ∀ k, tickN k l = l
  | 0 => rfl
  | k + 1 => by rw [tickN, tick_same h, tickN_same h k]
theorem after_is : ∀ (k : Nat) (l : List Bool), Rw.afterOf k l = tickN k l
  | 0, _ => rfl
  | k + 1, l => by
    by_cases h : Rw.pairs l = []
    · rw [Rw.afterOf, if_pos h, tickN_same h]
    · rw [Rw.afterOf, if_neg h, tickN, after_is k]
theorem getD_inc (c : List Nat) (i j : Nat) : (Rw.inc c i).getD j 0 = if i = j ∧ j < c.length then c.getD i 0 + 1 else c.getD j 0 := by
  unfold Rw.inc; rw [Rw.getD_set]
theorem length_inc (c : List Nat) (i : Nat) : (Rw.inc c i).length = c.length := by unfold Rw.inc; exact List.length_set
theorem length_bump1 (c : List Nat) (i : Nat) : (Rw.bump c i).length = c.length := by unfold Rw.bump; rw [length_inc, length_inc]
theorem getD_bump (c : List Nat) (p a : Nat) (h : a < c.length) : (Rw.bump c p).getD a 0 = c.getD a 0 + if p = a ∨ p + 1 = a then 1 else 0 := by
  unfold Rw.bump
  rw [getD_inc, length_inc]
  by_cases h1 : p + 1 = a
  · rw [if_pos ⟨h1, h⟩, if_pos (.inr h1), getD_inc, if_neg (by omega), h1]
  · rw [if_neg (fun e => h1 e.1), getD_inc]
    by_cases h2 : p = a
    · rw [if_pos ⟨h2, h⟩, if_pos (.inl h2), h2]
    · rw [if_neg (fun e => h2 e.1), if_neg (by omega), Nat.add_zero]
/-- whether a soldier is one of some pairs -/
def oneOf (ps : List Nat) (a : Nat) : Bool := ps.contains a || (decide (1 ≤ a) && ps.contains (a - 1))
theorem fold_bump (a : Nat) : ∀ (ps : List Nat) (c : List Nat), a < c.length → ps.Nodup → ¬ (a ∈ ps ∧ 1 ≤ a ∧ a - 1 ∈ ps) → (ps.foldl Rw.bump c).getD a 0 = c.getD a 0 + if oneOf ps a then 1 else 0
  | [], c, _, _, _ => by simp [oneOf]
  | p :: t, c, ha, hn, hx => by
    rw [List.foldl_cons]
    obtain ⟨hp, hn2⟩ := List.nodup_cons.1 hn
    rw [fold_bump a t _ (by rw [length_bump1]; exact ha) hn2 (fun e => hx ⟨.tail _ e.1, e.2.1, .tail _ e.2.2⟩), getD_bump c p a ha, Nat.add_assoc]
    congr 1
    by_cases h1 : p = a
    · subst h1
      have e1 : oneOf t p = false := by
        unfold oneOf
        rw [Bool.or_eq_false_iff]
        refine ⟨by simpa using hp, ?_⟩
        by_cases h : 1 ≤ p
        · have : p - 1 ∉ t := fun e => hx ⟨.head _, h, .tail _ e⟩
          simp [this]
        · simp [h]
      have e2 : oneOf (p :: t) p = true := by simp [oneOf]
      rw [e1, e2]; simp
    · by_cases h2 : p + 1 = a
      · subst h2
        have e1 : oneOf t (p + 1) = false := by
          unfold oneOf
          rw [Bool.or_eq_false_iff]
          have h3 : p + 1 ∉ t := fun e => hx ⟨.tail _ e, by omega, .head _⟩
          refine ⟨by simpa using h3, ?_⟩
          simp [hp]
        have e2 : oneOf (p :: t) (p + 1) = true := by simp [oneOf]
        rw [e1, e2]; simp
      · have e : oneOf (p :: t) a = oneOf t a := by
          unfold oneOf
          rw [List.contains_cons, List.contains_cons]
          have g1 : (a == p) = false := by rw [beq_eq_false_iff_ne]; omega
          rw [g1, Bool.false_or]
          by_cases h : 1 ≤ a
          · have g2 : (a - 1 == p) = false := by rw [beq_eq_false_iff_ne]; omega
            rw [g2, Bool.false_or]
          · simp [h]
        rw [e, if_neg (by omega), Nat.zero_add]
theorem turns_is (a : Nat) : ∀ (N : Nat) (l : List Bool) (c : List Nat), Rw.ticksOf l ≤ N → l.length = c.length → a < l.length → (Rw.turnsOf l c).getD a 0 = c.getD a 0 + turnsA a l := by
  intro N
  induction N with
  | zero =>
    intro l c hN hc ha
    by_cases hp : Rw.pairs l = []
    · rw [Rw.turnsOf, dif_pos hp, turnsA_rest hp, Nat.add_zero]
    · have := (Rx.ticks_next hp).1; omega
  | succ N ih =>
    intro l c hN hc ha
    by_cases hp : Rw.pairs l = []
    · rw [Rw.turnsOf, dif_pos hp, turnsA_rest hp, Nat.add_zero]
    · have h1 := (Rx.ticks_next hp).1
      rw [Rw.turnsOf, dif_neg hp, ih _ _ (by omega) (by rw [Rx.tick_length, Rw.length_foldl_bump]; exact hc) (by rw [Rx.tick_length]; exact ha)]
      rw [fold_bump a _ c (by omega) (Rw.pairs_nodup l), turnsA_next hp]
      · show _ + (if inPair l a then 1 else 0) + _ = _; omega
      · rintro ⟨g1, g2, g3⟩
        have q1 := Rw.mem_pairs g1
        have q2 := (Rw.mem_pairs g3).2.2
        rw [show a - 1 + 1 = a by omega, Rw.getD_ne l ha true false, q1.2.1] at q2
        cases q2
theorem turns_zero (a : Nat) (l : List Bool) (ha : a < l.length) : (asInts (Rw.turnsOf l (List.replicate l.length 0))).getD a 0 = ((turnsA a l : Nat) : Int) := by
  rw [getD_asInts, turns_is a _ l _ (Nat.le_refl _) (by simp) ha]
  rw [List.getD_eq_getElem?_getD, List.getElem?_replicate, if_pos ha]
  simp
end Pz
end Go.Proofs.YtodlpdbmiicdfabDoor
