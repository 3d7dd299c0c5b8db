/- Chapter 9, plain: what the program reads of a puzzle's text; it is what the model reads. -/
import Derived.Test.YtodlpdbmiicdfabDoorPzr
import Derived.Test.YtodlpdbmiicdfabDoorZv
import Derived.Test.YtodlpdbmiicdfabDoorTx
import Derived.Lib.Split
import Derived.Lib.SplitLaws
namespace Go.Proofs.YtodlpdbmiicdfabDoor
open Go.ChangeShapes Go.WideShapes Go.ChangeAt Go.RowKit
open Dr Pz Rd

namespace Pz
/-- what Atoi returns beside its error -/
def atoiZ (l : List UInt8) : Int := match Lib.atoiAll l with | .ok v => v | .syntax => 0 | .range => Lib.atoiSat l
def fieldsC (t : ByteArray) : List ByteArray := Lib.splitB ⟨#[46]⟩ 0 (min 4 (t.size + 1) - 1) t
/-- the numbers of a clue when the first k of its pieces are read -/
def numG (t : ByteArray) (k i : Nat) : Int := if i < k then atoiZ ((fieldsC t).getD i ByteArray.empty).data.toList else 0
def clueK (t : ByteArray) (k : Nat) : RClue := (numG t k 0, numG t k 1, numG t k 2, numG t k 3)
def clueG (t : ByteArray) : RClue := clueK t (fieldsC t).length
def headG (s : ByteArray) : Int := atoiZ (Lib.cut s.data.toList [58]).1
def restG (s : ByteArray) : ByteArray := ⟨(Lib.cut s.data.toList [58]).2.1.toArray⟩
def partsC (s : ByteArray) : List ByteArray := if (restG s).size = 0 then [] else Lib.splitB ⟨#[44]⟩ 0 (min 7 ((restG s).size + 1) - 1) (restG s)
def cluesTG (s : ByteArray) (k : Nat) : List RClue := (List.range k).map fun i => clueG ((partsC s).getD i ByteArray.empty)
def cluesG (s : ByteArray) : List RClue := cluesTG s (partsC s).length
theorem cluesTG_succ (s : ByteArray) (k : Nat) : cluesTG s (k + 1) = cluesTG s k ++ [clueG ((partsC s).getD k ByteArray.empty)] := by unfold cluesTG; rw [List.range_succ, List.map_append]; rfl
theorem length_cluesTG (s : ByteArray) (k : Nat) : (cluesTG s k).length = k := by unfold cluesTG; rw [List.length_map, List.length_range]
theorem fields_len (t : ByteArray) : (fieldsC t).length ≤ 4 := by
  have := Lib.splitB_length_le ⟨#[46]⟩ 0 (min 4 (t.size + 1) - 1) t
  unfold fieldsC; omega
theorem partsC_len (s : ByteArray) : (partsC s).length ≤ 7 := by
  unfold partsC
  split
  · exact Nat.zero_le _
  · have := Lib.splitB_length_le ⟨#[44]⟩ 0 (min 7 ((restG s).size + 1) - 1) (restG s)
    omega
def progZ (s : ByteArray) : Bool := goodP (headG s) (cluesG s) && decide (puzT (headG s).toNat (cluesG s) = s)

theorem range_mapZ {α β : Type} (l : List α) (d : α) (f : α → β) : ((List.range l.length).map fun i => f (l.getD i d)) = l.map f := by
  refine List.ext_getElem (by rw [List.length_map, List.length_range, List.length_map]) (fun i h1 h2 => ?_)
  rw [List.getElem_map, List.getElem_range, List.getElem_map, List.getD_eq_getElem?_getD, List.getElem?_eq_getElem (by rw [List.length_map] at h2; exact h2)]; rfl
theorem bytes_extZ {a b : ByteArray} (h : a.data.toList = b.data.toList) : a = b := ByteArray.ext (Array.ext' h)
theorem map_data_injZ {xs ys : List ByteArray} (h : xs.map (·.data.toList) = ys.map (·.data.toList)) : xs = ys :=
  List.map_inj_right (f := fun b : ByteArray => b.data.toList) (fun _ _ e => bytes_extZ e) |>.1 h
theorem size_listZ (a : ByteArray) : a.size = a.data.toList.length := by rw [Array.length_toList]; rfl
theorem tail_no {b c : UInt8} (hbc : b ≠ c) (r : List (List UInt8)) (h : ∀ y ∈ r, b ∉ y) : b ∉ Lib.joinTail [c] r := by
  intro hm
  unfold Lib.joinTail at hm
  obtain ⟨l, hl, hb⟩ := List.mem_flatten.1 hm
  obtain ⟨y, hy, rfl⟩ := List.mem_map.1 hl
  rcases List.mem_append.1 hb with hb | hb
  · exact hbc (List.mem_singleton.1 hb)
  · exact h y hy hb
theorem join_no {b c : UInt8} (hbc : b ≠ c) (xs : List (List UInt8)) (h : ∀ y ∈ xs, b ∉ y) : b ∉ Lib.join xs [c] := by
  cases xs with
  | nil => rw [Lib.join_nil]; simp
  | cons x r =>
    rw [Lib.join_cons, List.mem_append, not_or]
    exact ⟨h x (by simp), tail_no hbc r (fun z hz => h z (by simp [hz]))⟩
theorem tail_len (c : UInt8) : ∀ (r : List (List UInt8)), r.length ≤ (Lib.joinTail [c] r).length
  | [] => Nat.zero_le _
  | y :: r => by
    have := tail_len c r
    have e : Lib.joinTail [c] (y :: r) = ([c] ++ y) ++ Lib.joinTail [c] r := rfl
    rw [e, List.length_append, List.length_append, List.length_cons]
    have e2 : [c].length = 1 := rfl
    omega
theorem join_len (c : UInt8) (x : List UInt8) (r : List (List UInt8)) (h : 1 ≤ x.length) : (x :: r).length ≤ (Lib.join (x :: r) [c]).length := by
  rw [Lib.join_cons, List.length_append, List.length_cons]
  have := tail_len c r
  omega

/-! one clue -/
theorem clue_data (x y z d : Nat) : (clueT x y z d).data.toList = Lib.join [numL x, numL y, numL z, numL d] [46] := by
  rw [← clue_join]
  rfl
theorem clue_no {b : UInt8} (h1 : b.toNat < 48 ∨ 57 < b.toNat) (h2 : b ≠ 46) (x y z d : Nat) : b ∉ (clueT x y z d).data.toList := by
  rw [clue_data]
  refine join_no h2 _ (fun q hq => ?_)
  simp only [List.mem_cons, List.not_mem_nil, or_false] at hq
  rcases hq with rfl | rfl | rfl | rfl <;> exact Tx.dg_mem h1 _
theorem nums_no (x y z d : Nat) : ∀ q ∈ [numL x, numL y, numL z, numL d], (46 : UInt8) ∉ q := by
  intro q hq
  simp only [List.mem_cons, List.not_mem_nil, or_false] at hq
  rcases hq with rfl | rfl | rfl | rfl <;> exact Tx.dg_mem (by decide) _
theorem clue_cut (x y z d : Nat) : cutL (clueT x y z d) 46 = [txt (numL x), txt (numL y), txt (numL z), txt (numL d)] := by
  refine map_data_injZ ?_
  rw [Tx.cutL_eq _ 46 (by decide), clue_data]
  exact Tx.pieces_join (by simp) (nums_no x y z d)
theorem clue_len (x y z d : Nat) : 4 ≤ (clueT x y z d).data.toList.length := by
  rw [clue_data]
  exact join_len 46 (numL x) [numL y, numL z, numL d] (Tx.num_pos x)
theorem clue_fields (x y z d : Nat) : fieldsC (clueT x y z d) = [txt (numL x), txt (numL y), txt (numL z), txt (numL d)] := by
  refine map_data_injZ ?_
  have hs : 4 ≤ (clueT x y z d).size := by rw [size_listZ]; exact clue_len x y z d
  unfold fieldsC
  rw [Lib.splitB_data, clue_data]
  exact Tx.split_join (by simp) (by simp only [List.length_cons, List.length_nil]; omega) (nums_no x y z d)
theorem atoiZ_num {n : Nat} (h : n < 1000) : atoiZ (numL n) = (n : Int) := by
  unfold atoiZ; rw [Tx.atoi_num (n := n) (by omega)]
theorem txt_data (l : List UInt8) : (txt l).data.toList = l := by unfold txt; simp
theorem rd4_clue {x y z d : Nat} (h1 : x ≤ 20) (h2 : y ≤ 20) (h3 : z ≤ 20) (h4 : d ≤ 20) : rd4 (clueT x y z d) = ((x : Int), (y : Int), (z : Int), (d : Int)) := by
  unfold rd4
  rw [clue_cut]
  simp only [List.getD_cons_zero, List.getD_cons_succ]
  rw [Tx.readZ_num (n := x) (by omega), Tx.readZ_num (n := y) (by omega), Tx.readZ_num (n := z) (by omega), Tx.readZ_num (n := d) (by omega)]
theorem clueG_clue {x y z d : Nat} (h1 : x ≤ 20) (h2 : y ≤ 20) (h3 : z ≤ 20) (h4 : d ≤ 20) : clueG (clueT x y z d) = ((x : Int), (y : Int), (z : Int), (d : Int)) := by
  unfold clueG clueK numG
  rw [clue_fields]
  simp only [List.getD_cons_zero, List.getD_cons_succ, List.length_cons, List.length_nil, txt_data]
  rw [atoiZ_num (n := x) (by omega), atoiZ_num (n := y) (by omega), atoiZ_num (n := z) (by omega), atoiZ_num (n := d) (by omega)]
  rfl

/-! a good puzzle's text -/
structure GoodN (n : Nat) (cs : List RClue) : Prop where
  pos : 1 ≤ n
  few : n ≤ 8
  six : cs.length ≤ 6
  each : ∀ k, k < cs.length → ∃ x y z d : Nat, cs.getD k zClue = ((x : Int), (y : Int), (z : Int), (d : Int)) ∧ x ≤ 20 ∧ y ≤ 20 ∧ z ≤ 20 ∧ d ≤ 20
  size : (puzT n cs).size ≤ 120
theorem good_n {v : Int} {cs : List RClue} (h : goodP v cs = true) : ∃ n : Nat, v = (n : Int) ∧ GoodN n cs := by
  obtain ⟨⟨n, rfl, hn1, hn8⟩, hl6, hcl⟩ := pz_of h
  refine ⟨n, rfl, hn1, hn8, hl6, fun k hk => ?_, ?_⟩
  · obtain ⟨x, y, z, d, hcc, g1, g2, g3, g4⟩ := clue_nat hn8 (hcl k hk)
    exact ⟨x, y, z, d, hcc, g1, g2, g3, g4⟩
  · have := size_puzTo hn8 hcl cs.length (Nat.le_refl _)
    show (puzTo n cs cs.length).size ≤ 120
    omega
variable {n : Nat} {cs : List RClue}
theorem clue_at (h : GoodN n cs) {k : Nat} (hk : k < cs.length) : ∃ x y z d : Nat, clueTC (cs.getD k zClue) = clueT x y z d ∧ cs.getD k zClue = ((x : Int), (y : Int), (z : Int), (d : Int)) ∧ x ≤ 20 ∧ y ≤ 20 ∧ z ≤ 20 ∧ d ≤ 20 := by
  obtain ⟨x, y, z, d, hcc, h1, h2, h3, h4⟩ := h.each k hk
  refine ⟨x, y, z, d, ?_, hcc, h1, h2, h3, h4⟩
  unfold clueTC; rw [hcc]; simp only [Int.toNat_natCast]
theorem clues_no (h : GoodN n cs) {b : UInt8} (h1 : b.toNat < 48 ∨ 57 < b.toNat) (h2 : b ≠ 46) : ∀ y ∈ (cluesTo cs cs.length).map (·.data.toList), b ∉ y := by
  intro y hy
  obtain ⟨t, ht, rfl⟩ := List.mem_map.1 hy
  unfold cluesTo at ht
  obtain ⟨i, hi, rfl⟩ := List.mem_map.1 ht
  obtain ⟨x, y, z, d, e, _⟩ := clue_at h (List.mem_range.1 hi)
  rw [e]
  exact clue_no h1 h2 x y z d
theorem map_clues (h : GoodN n cs) (f : ByteArray → RClue) (hf : ∀ x y z d : Nat, x ≤ 20 → y ≤ 20 → z ≤ 20 → d ≤ 20 → f (clueT x y z d) = ((x : Int), (y : Int), (z : Int), (d : Int))) : (cluesTo cs cs.length).map f = cs := by
  refine List.ext_getElem (by rw [List.length_map, length_cluesTo]) (fun i h1 h2 => ?_)
  obtain ⟨x, y, z, d, e, e2, g1, g2, g3, g4⟩ := clue_at h h2
  have e3 : (cluesTo cs cs.length)[i]'(by rw [length_cluesTo]; exact h2) = clueTC (cs.getD i zClue) := by
    unfold cluesTo; rw [List.getElem_map, List.getElem_range]
  rw [List.getElem_map, e3, e, hf x y z d g1 g2 g3 g4, ← e2, List.getD_eq_getElem?_getD, List.getElem?_eq_getElem h2]; rfl
theorem puz_data : (puzT n cs).data.toList = numL n ++ 58 :: (joinB (cluesTo cs cs.length)).data.toList := by
  unfold puzT
  rw [puz_join, data_appendZ, txt_data]
  simp
theorem rest_size (h : GoodN n cs) : (joinB (cluesTo cs cs.length)).size = 0 ↔ cs.length = 0 := by
  rw [size_listZ, joinB_data]
  constructor
  · intro e
    rcases hk : cs.length with _ | k
    · rfl
    · exfalso
      rw [hk] at e
      have hl : (cluesTo cs (k + 1)).length = k + 1 := length_cluesTo _ _
      match hc : cluesTo cs (k + 1), hl with
      | t :: r, _ =>
        rw [hc, List.map_cons] at e
        have h0 : t.data.toList.length = 0 := by rw [Lib.join_cons, List.length_append] at e; omega
        have ht : t ∈ cluesTo cs cs.length := by rw [hk, hc]; simp
        unfold cluesTo at ht
        obtain ⟨i, hi, rfl⟩ := List.mem_map.1 ht
        obtain ⟨x, y, z, d, e1, _⟩ := clue_at h (List.mem_range.1 hi)
        rw [e1] at h0
        have := clue_len x y z d
        omega
  · intro e
    rw [e]
    show (Lib.join [] [44]).length = 0
    rw [Lib.join_nil]; rfl
theorem rest_len (h : GoodN n cs) : cs.length ≤ (joinB (cluesTo cs cs.length)).size := by
  rw [size_listZ, joinB_data]
  have hl : (cluesTo cs cs.length).length = cs.length := length_cluesTo _ _
  match hc : cluesTo cs cs.length, hl with
  | [], hl => rw [← hl]; exact Nat.zero_le _
  | t :: r, hl =>
    rw [List.map_cons]
    have ht : t ∈ cluesTo cs cs.length := by rw [hc]; simp
    unfold cluesTo at ht
    obtain ⟨i, hi, rfl⟩ := List.mem_map.1 ht
    obtain ⟨x, y, z, d, e1, _⟩ := clue_at h (List.mem_range.1 hi)
    have := join_len 44 (clueTC (cs.getD i zClue)).data.toList (r.map (·.data.toList)) (by rw [e1]; have := clue_len x y z d; omega)
    rw [List.length_cons, List.length_map] at this
    rw [List.length_cons] at hl
    omega
theorem clues_ne (hk : cs.length ≠ 0) : (cluesTo cs cs.length).map (·.data.toList) ≠ [] := fun e => by
  have := congrArg List.length e
  rw [List.length_map, length_cluesTo] at this
  exact hk this
/-- the program reads it -/
theorem prog_reads (h : GoodN n cs) : headG (puzT n cs) = (n : Int) ∧ cluesG (puzT n cs) = cs := by
  have hc : Lib.cut (puzT n cs).data.toList [58] = (numL n, (joinB (cluesTo cs cs.length)).data.toList, true) := by
    rw [puz_data]; exact Tx.cut_at (Tx.dg_mem (by decide) n)
  have hr : restG (puzT n cs) = joinB (cluesTo cs cs.length) := by
    unfold restG; rw [hc]
  have hp : partsC (puzT n cs) = cluesTo cs cs.length := by
    unfold partsC
    rw [hr]
    by_cases hk : cs.length = 0
    · rw [if_pos ((rest_size h).2 hk), hk]; rfl
    · rw [if_neg (fun e => hk ((rest_size h).1 e))]
      refine map_data_injZ ?_
      have h1 := rest_len h
      have h6 := h.six
      rw [Lib.splitB_data, joinB_data]
      exact Tx.split_join (clues_ne hk) (by rw [List.length_map, length_cluesTo]; omega) (clues_no h (by decide) (by decide))
  refine ⟨?_, ?_⟩
  · unfold headG; rw [hc]
    exact atoiZ_num (by have := h.few; omega)
  · unfold cluesG cluesTG
    rw [range_mapZ _ _ clueG, hp]
    exact map_clues h _ (fun x y z d g1 g2 g3 g4 => clueG_clue g1 g2 g3 g4)
/-- the model reads it -/
theorem model_reads (h : GoodN n cs) : headB (puzT n cs) = true ∧ foursB (puzT n cs) = true ∧ soldZ (puzT n cs) = (n : Int) ∧ cluesZ (puzT n cs) = cs := by
  have hc : cutL (puzT n cs) 58 = [txt (numL n), joinB (cluesTo cs cs.length)] := by
    refine map_data_injZ ?_
    rw [Tx.cutL_eq _ 58 (by decide), puz_data]
    have e : numL n ++ 58 :: (joinB (cluesTo cs cs.length)).data.toList = Lib.join [numL n, (joinB (cluesTo cs cs.length)).data.toList] [58] := by rw [Lib.join_cons]; simp [Lib.joinTail]
    rw [e]
    refine (Tx.pieces_join (by simp) (fun q hq => ?_)).trans (by rw [List.map_cons, List.map_cons, List.map_nil, txt_data])
    simp only [List.mem_cons, List.not_mem_nil, or_false] at hq
    rcases hq with rfl | rfl
    · exact Tx.dg_mem (by decide) _
    · rw [joinB_data]; exact join_no (by decide) _ (clues_no h (by decide) (by decide))
  have hr : restT (puzT n cs) = joinB (cluesTo cs cs.length) := by unfold restT; rw [hc]; rfl
  have hp : textsL (puzT n cs) = cluesTo cs cs.length := by
    unfold textsL
    rw [hr]
    by_cases hk : cs.length = 0
    · rw [if_pos ((rest_size h).2 hk), hk]; rfl
    · rw [if_neg (fun e => hk ((rest_size h).1 e))]
      refine map_data_injZ ?_
      rw [Tx.cutL_eq _ 44 (by decide), joinB_data]
      exact Tx.pieces_join (clues_ne hk) (clues_no h (by decide) (by decide))
  refine ⟨?_, ?_, ?_, ?_⟩
  · unfold headB; rw [hc, decide_eq_true h.size]; rfl
  · unfold foursB
    rw [List.all_eq_true]
    intro i hi
    rw [hp] at hi ⊢
    have hi2 : i < cs.length := by have := List.mem_range.1 hi; rwa [length_cluesTo] at this
    obtain ⟨x, y, z, d, e, _⟩ := clue_at h hi2
    have e3 : (cluesTo cs cs.length).getD i ByteArray.empty = clueTC (cs.getD i zClue) := by
      rw [List.getD_eq_getElem?_getD, List.getElem?_eq_getElem (by rw [length_cluesTo]; exact hi2)]
      show (cluesTo cs cs.length)[i]'_ = _
      unfold cluesTo; rw [List.getElem_map, List.getElem_range]
    rw [e3, e, clue_cut]; rfl
  · unfold soldZ; rw [hc]
    exact Tx.readZ_num (by have := h.few; omega)
  · unfold cluesZ rdTo
    rw [range_mapZ _ _ rd4, hp]
    exact map_clues h _ (fun x y z d g1 g2 g3 g4 => rd4_clue g1 g2 g3 g4)
theorem prog_is (s : ByteArray) : progZ s = parP s ∧ (parP s = true → headG s = soldZ s ∧ cluesG s = cluesZ s) := by
  have hB : parP s = true → headG s = soldZ s ∧ cluesG s = cluesZ s ∧ goodP (soldZ s) (cluesZ s) = true ∧ puzT (soldZ s).toNat (cluesZ s) = s := by
    intro h
    unfold parP at h
    simp only [Bool.and_eq_true, decide_eq_true_eq] at h
    obtain ⟨_, _, hg, ht⟩ := h
    obtain ⟨n, hn, hgn⟩ := good_n hg
    have h2 := prog_reads hgn
    rw [hn, Int.toNat_natCast] at ht
    rw [ht] at h2
    exact ⟨by rw [h2.1, hn], h2.2, hg, by rw [hn, Int.toNat_natCast]; exact ht⟩
  rcases hp : parP s with _ | _
  · refine ⟨?_, fun h => by cases h⟩
    rcases hq : progZ s with _ | _
    · rfl
    · exfalso
      unfold progZ at hq
      simp only [Bool.and_eq_true, decide_eq_true_eq] at hq
      obtain ⟨hg, ht⟩ := hq
      obtain ⟨n, hn, hgn⟩ := good_n hg
      obtain ⟨a1, a2, a3, a4⟩ := model_reads hgn
      rw [hn, Int.toNat_natCast] at ht
      rw [ht] at a1 a2 a3 a4
      have : parP s = true := by
        unfold parP
        rw [a1, a2, a3, a4, Int.toNat_natCast, decide_eq_true ht, ← hn, hg]; rfl
      rw [hp] at this; cases this
  · obtain ⟨h1, h2, h3, h4⟩ := hB hp
    refine ⟨?_, fun _ => ⟨h1, h2⟩⟩
    unfold progZ
    rw [h1, h2, h3, decide_eq_true h4]; rfl
def outParsePuzzle_0 (s : ByteArray) : Int := if parP s then soldZ s else 0
def outParsePuzzle_1 (s : ByteArray) : List RClue := if parP s then cluesZ s else []
def outParsePuzzle_2 (s : ByteArray) : Bool := parP s
end Pz
end Go.Proofs.YtodlpdbmiicdfabDoor
