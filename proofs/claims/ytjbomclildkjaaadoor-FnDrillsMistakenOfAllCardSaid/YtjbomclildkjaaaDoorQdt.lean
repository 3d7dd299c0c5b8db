/- Plain facts for the walk of FnDrillsTurnOfAll. -/
import Derived.Test.YtjbomclildkjaaaDoorDrB
import Derived.Test.YtjbomclildkjaaaDoorDrC
import Derived.Test.YtjbomclildkjaaaDoorDrD
import Derived.Test.YtjbomclildkjaaaDoorDrE
namespace Go.Proofs.YtjbomclildkjaaaDoor
open Go.ChangeShapes Go.WideShapes Go.ChangeAt Go.RowKit
open Dr
namespace Dt
theorem getD_word (ts : List Nat) (i : Nat) (h : i < ts.length) : (word ts).extract i (i + 1) = word [ts.getD i 0] := by
  unfold word
  apply ByteArray.ext
  simp only [ByteArray.data_extract, txt]
  rw [List.extract_toArray]
  simp only [List.extract_eq_take_drop, List.map_cons, List.map_nil]
  congr 1
  rw [show i + 1 - i = 1 by omega]
  rw [List.drop_eq_getElem_cons (by simpa using h)]
  simp [List.getD_eq_getElem?_getD, h]
theorem wordB_word {ts : List Nat} (h1 : ts.length ≤ 60) (h2 : ∀ t ∈ ts, t < 4) : wordB (word ts) = true := by
  unfold wordB
  rw [Bool.and_eq_true, size_word, decide_eq_true_eq, List.all_eq_true]
  refine ⟨h1, fun b hb => ?_⟩
  have hb' : b ∈ ts.map sg := by simpa [word, txt] using hb
  obtain ⟨t, ht, rfl⟩ := List.mem_map.1 hb'
  rw [decide_eq_true_eq, sg_turn (h2 t ht)]; omega
theorem faceB_face {fs : List Nat} (h0 : 1 ≤ fs.length) (h1 : fs.length ≤ 30) (h2 : ∀ t ∈ fs, t < 4) : faceB (face fs) = true := by
  unfold faceB
  rw [Bool.and_eq_true, size_face, decide_eq_true_eq, List.all_eq_true]
  refine ⟨⟨h0, h1⟩, fun b hb => ?_⟩
  have hb' : b ∈ fs.map dg := by simpa [face, txt] using hb
  obtain ⟨t, ht, rfl⟩ := List.mem_map.1 hb'
  have := h2 t ht
  rw [decide_eq_true_eq, dg_nat (by omega)]; omega
theorem sumTo_sum : ∀ (ts : List Nat), sumTo ts ts.length = ts.sum := by
  have key : ∀ (ts : List Nat) (k : Nat), k ≤ ts.length → sumTo ts k = (ts.take k).sum := by
    intro ts k
    induction k with
    | zero => intro _; rfl
    | succ k ih =>
      intro h
      rw [sumTo, ih (by omega), List.take_succ_eq_append_getElem (by omega), List.sum_append]
      simp [List.getD_eq_getElem?_getD, List.getElem?_eq_getElem (show k < ts.length by omega)]
  intro ts
  rw [key ts _ (Nat.le_refl _), List.take_length]
theorem net_sum (ts : List Nat) : net ts = ts.sum % 4 := by unfold net; rw [sumTo_sum]
theorem sum_other : ∀ (ts : List Nat), (∀ t ∈ ts, t < 4) → ((ts.map other).sum + ts.sum) % 4 = 0
  | [], _ => rfl
  | t :: ts, h => by
    have := sum_other ts (fun x hx => h x (by simp [hx]))
    have ht := h t (by simp)
    simp only [List.map_cons, List.sum_cons]
    have e : other t = (4 - t) % 4 := rfl
    omega
theorem other_other {t : Nat} (h : t < 4) : other (other t) = t := by unfold other; omega
theorem map_other2 (ts : List Nat) (h : ∀ t ∈ ts, t < 4) : (ts.map other).map other = ts := by
  rw [List.map_map]
  exact (List.map_congr_left fun t ht => other_other (h t ht)).trans (List.map_id _)
theorem other_mem {ts : List Nat} {t : Nat} (h : t ∈ ts.map other) : t < 4 := by
  obtain ⟨x, _, rfl⟩ := List.mem_map.1 h
  exact other_lt x
/-- all that holds of a word -/
structure WordF (s : ByteArray) (ts : List Nat) : Prop where
  eq : s = word ts
  len : ts.length ≤ 60
  lt : ∀ t ∈ ts, t < 4
theorem wordF {s : ByteArray} (h : wordB s = true) : WordF s (tsOf s) := by
  obtain ⟨ts, rfl, h1, h2⟩ := word_of h
  rw [tsOf_word h2]
  exact ⟨rfl, h1, h2⟩
variable {s : ByteArray} {ts : List Nat}
theorem WordF.good (h : WordF s ts) : wordB s = true := by rw [h.eq]; exact wordB_word h.len h.lt
theorem WordF.tsEq (h : WordF s ts) : tsOf s = ts := by rw [h.eq, tsOf_word h.lt]
theorem WordF.mir (h : WordF s ts) : WordF (word (ts.map other)) (ts.map other) := ⟨rfl, by rw [List.length_map]; exact h.len, fun _ => other_mem⟩
theorem WordF.bak (h : WordF s ts) : WordF (word (ts.map other).reverse) (ts.map other).reverse :=
  ⟨rfl, by rw [List.length_reverse, List.length_map]; exact h.len, fun t ht => other_mem (List.mem_reverse.1 ht)⟩
def shortL (ts : List Nat) : List Nat := if net ts = 0 then [] else [net ts]
theorem WordF.sho (_h : WordF s ts) : WordF (word (shortL ts)) (shortL ts) := by
  refine ⟨rfl, ?_, fun t ht => ?_⟩
  · unfold shortL; split <;> simp
  · unfold shortL at ht
    split at ht
    · simp at ht
    · simp only [List.mem_singleton] at ht; rw [ht]; exact net_lt _
-- what the functions give
theorem WordF.net0 (h : WordF s ts) : outNetTurn_0 s = (net ts : Nat) := by unfold outNetTurn_0; rw [h.good, if_pos rfl, h.tsEq]
theorem WordF.short0 (h : WordF s ts) : outShortCommands_0 s = word (shortL ts) := by
  unfold outShortCommands_0 shortL; rw [h.good, if_pos rfl, h.tsEq]; split <;> rfl
theorem WordF.mir0 (h : WordF s ts) : outMirrorCommands_0 s = word (ts.map other) := by unfold outMirrorCommands_0; rw [h.good, if_pos rfl, h.tsEq]
theorem WordF.bak0 (h : WordF s ts) : outBackCommands_0 s = word (ts.map other).reverse := by unfold outBackCommands_0; rw [h.good, if_pos rfl, h.tsEq]
theorem WordF.rep0 (h : WordF s ts) : outRepeatsToFront_0 s = if net ts = 0 then 1 else if net ts = 2 then 2 else 4 := by unfold outRepeatsToFront_0; rw [h.good, if_pos rfl, h.tsEq]
theorem net_short (ts : List Nat) : net (shortL ts) = net ts := by
  unfold shortL
  have := net_lt ts
  split
  · rename_i h; rw [h]; rfl
  · rw [net_sum]; simp; omega
theorem net_rev (ts : List Nat) : net ts.reverse = net ts := by rw [net_sum, net_sum, List.sum_reverse]
theorem net_other {ts : List Nat} (h : ∀ t ∈ ts, t < 4) : (net (ts.map other) + net ts) % 4 = 0 := by
  have := sum_other ts h
  rw [net_sum, net_sum]; omega
theorem bak_bak {ts : List Nat} (h : ∀ t ∈ ts, t < 4) : ((ts.map other).reverse.map other).reverse = ts := by
  rw [List.map_reverse, List.reverse_reverse, map_other2 ts h]
/-! ### facings -/
structure FaceF (s : ByteArray) (fs : List Nat) : Prop where
  eq : s = face fs
  n1 : 1 ≤ fs.length
  len : fs.length ≤ 30
  lt : ∀ t ∈ fs, t < 4
theorem faceF {s : ByteArray} (h : faceB s = true) : FaceF s (fsOf s) := by
  obtain ⟨fs, rfl, h0, h1, h2⟩ := face_of h
  rw [fsOf_face h2]
  exact ⟨rfl, h0, h1, h2⟩
variable {f : ByteArray} {fs : List Nat}
theorem FaceF.good (h : FaceF f fs) : faceB f = true := by rw [h.eq]; exact faceB_face h.n1 h.len h.lt
theorem FaceF.fsEq (h : FaceF f fs) : fsOf f = fs := by rw [h.eq, fsOf_face h.lt]
theorem FaceF.size (h : FaceF f fs) : f.size = fs.length := by rw [h.eq, size_face]
def turnL (fs : List Nat) (n : Nat) : List Nat := fs.map fun x => (x + n) % 4
theorem FaceF.turn (h : FaceF f fs) (n : Nat) : FaceF (face (turnL fs n)) (turnL fs n) :=
  ⟨rfl, by unfold turnL; rw [List.length_map]; exact h.n1, by unfold turnL; rw [List.length_map]; exact h.len, fun t ht => by
    obtain ⟨x, _, rfl⟩ := List.mem_map.1 ht; exact Nat.mod_lt _ (by omega)⟩
theorem after0 (h : FaceF f fs) (k : WordF s ts) : outFacingAfter_0 f s = face (turnL fs (net ts)) := by
  unfold outFacingAfter_0 turnL; rw [h.good, k.good, if_pos rfl, if_pos rfl, h.fsEq, k.tsEq]
theorem turn_turn (fs : List Nat) (a b : Nat) (h : (a + b) % 4 = 0) (hl : ∀ t ∈ fs, t < 4) : turnL (turnL fs a) b = fs := by
  unfold turnL
  rw [List.map_map]
  exact (List.map_congr_left fun t ht => by have := hl t ht; show ((t + a) % 4 + b) % 4 = t; omega).trans (List.map_id _)
theorem getD_turn (fs : List Nat) (n i : Nat) (h : i < fs.length) : (turnL fs n).getD i 0 = (fs.getD i 0 + n) % 4 := by
  unfold turnL; simp [List.getD_eq_getElem?_getD, h]
theorem betw0 (h : FaceF f fs) (n : Nat) : outCommandsBetween_0 f (face (turnL fs n)) = comTo fs (turnL fs n) fs.length := by
  have hl : (turnL fs n).length = fs.length := by unfold turnL; rw [List.length_map]
  unfold outCommandsBetween_0
  rw [h.good, (h.turn n).good, if_pos rfl, if_pos rfl, if_pos (by rw [decide_eq_true_eq, h.size, (h.turn n).size, hl]), h.fsEq, (h.turn n).fsEq, h.size]
theorem betwB_yes (h : FaceF f fs) (n : Nat) : betwB f (face (turnL fs n)) = true := by
  have hl : (turnL fs n).length = fs.length := by unfold turnL; rw [List.length_map]
  unfold betwB
  rw [h.good, (h.turn n).good, decide_eq_true (by rw [h.size, (h.turn n).size, hl])]; rfl
theorem com_each (h : FaceF f fs) (n : Nat) (hn : n < 4) (i : Nat) (hi : i < fs.length) : (comTo fs (turnL fs n) fs.length).extract i (i + 1) = word [n] := by
  unfold comTo
  rw [getD_word _ i (by simpa using hi)]
  congr 2
  have hg : fs.getD i 0 < 4 := getD_lt h.lt (by omega) i
  have : ((List.range fs.length).map (comAt fs (turnL fs n))).getD i 0 = comAt fs (turnL fs n) i := by simp [List.getD_eq_getElem?_getD, hi]
  rw [this, comAt, getD_turn fs n i hi]
  omega
theorem one_word (n : Nat) (hn : n < 4) : WordF (word [n]) [n] := ⟨rfl, by simp, fun t ht => by simp only [List.mem_singleton] at ht; omega⟩
theorem net_one (n : Nat) (hn : n < 4) : net [n] = n := by rw [net_sum]; simp; omega
/-! ### words by their turns -/
theorem cnt_all (n : Int) (h : inB n 0 24 = true) : outCountCommandWords_0 n 0 + outCountCommandWords_0 n 1 + outCountCommandWords_0 n 2 + outCountCommandWords_0 n 3 = ((4 ^ n.toNat : Nat) : Int) := by
  unfold outCountCommandWords_0
  have e0 : inB 0 0 3 = true := rfl
  have e1 : inB 1 0 3 = true := rfl
  have e2 : inB 2 0 3 = true := rfl
  have e3 : inB 3 0 3 = true := rfl
  rw [h, e0, e1, e2, e3]
  simp only [if_true]
  have hn : 0 ≤ n := by unfold inB at h; simp at h; exact h.1
  by_cases z : n = 0
  · subst z; simp
  · simp only [if_neg z]
    obtain ⟨m, hm⟩ : ∃ m : Nat, n.toNat = m + 1 := ⟨n.toNat - 1, by omega⟩
    rw [hm, Nat.add_sub_cancel, Nat.pow_succ]
    omega
theorem cnt_bd (n t : Int) (h : inB n 0 24 = true) : 0 ≤ outCountCommandWords_0 n t ∧ outCountCommandWords_0 n t ≤ ((4 ^ n.toNat : Nat) : Int) := by
  unfold outCountCommandWords_0
  have hn : 0 ≤ n := by unfold inB at h; simp at h; exact h.1
  rw [h]
  simp only [if_true]
  by_cases z : n = 0
  · subst z
    simp only [if_true]
    have : ((4 ^ (0 : Int).toNat : Nat) : Int) = 1 := rfl
    rw [this]
    split
    · split <;> omega
    · omega
  · simp only [if_neg z]
    obtain ⟨m, hm⟩ : ∃ m : Nat, n.toNat = m + 1 := ⟨n.toNat - 1, by omega⟩
    rw [hm, Nat.add_sub_cancel, Nat.pow_succ]
    obtain ⟨q, hq⟩ : ∃ q : Nat, q = 4 ^ m := ⟨_, rfl⟩
    rw [← hq]
    split <;> omega
/-! ### the most faced way -/
theorem most_is (fs : List Nat) : ∀ w, ∀ v, v < w → cntS fs 0 v fs.length ≤ (most fs w).2
  | 0, _, h => absurd h (Nat.not_lt_zero _)
  | w + 1, v, h => by
    by_cases e : (most fs w).2 < cntS fs 0 w fs.length
    · rw [most_yes e]
      by_cases hv : v = w
      · subst hv; exact Nat.le_refl _
      · have := most_is fs w v (by omega); simp only; omega
    · rw [most_no e]
      by_cases hv : v = w
      · subst hv; omega
      · exact most_is fs w v (by omega)
theorem most_at (fs : List Nat) : ∀ w, 0 < (most fs w).2 → (most fs w).1 < w ∧ cntS fs 0 (most fs w).1 fs.length = (most fs w).2
  | 0, h => by simp [most] at h
  | w + 1, h => by
    by_cases e : (most fs w).2 < cntS fs 0 w fs.length
    · rw [most_yes e]; exact ⟨by simp only; omega, rfl⟩
    · rw [most_no e] at h ⊢
      have := most_at fs w h
      exact ⟨by omega, this.2⟩
theorem cnt_ways (fs : List Nat) (h : ∀ t ∈ fs, t < 4) : ∀ k, k ≤ fs.length → cntS fs 0 0 k + cntS fs 0 1 k + cntS fs 0 2 k + cntS fs 0 3 k = k
  | 0, _ => rfl
  | k + 1, hk => by
    have ih := cnt_ways fs h k (by omega)
    have hg : fs.getD k 0 < 4 := getD_lt h (by omega) k
    simp only [cntS, Nat.add_zero]
    rcases (by omega : fs.getD k 0 = 0 ∨ fs.getD k 0 = 1 ∨ fs.getD k 0 = 2 ∨ fs.getD k 0 = 3) with e | e | e | e <;> rw [e] <;> simp <;> omega
theorem most_all (fs : List Nat) (h0 : 1 ≤ fs.length) (h : ∀ t ∈ fs, t < 4) : fs.length ≤ 4 * (most fs 4).2 ∧ (most fs 4).1 < 4 := by
  have e := cnt_ways fs h fs.length (Nat.le_refl _)
  have q0 := most_is fs 4 0 (by omega)
  have q1 := most_is fs 4 1 (by omega)
  have q2 := most_is fs 4 2 (by omega)
  have q3 := most_is fs 4 3 (by omega)
  refine ⟨by omega, (most_at fs 4 (by omega)).1⟩
theorem cntS_turn (fs : List Nat) (h : ∀ t ∈ fs, t < 4) (t w : Nat) (ht : t < 4) (hw : w < 4) : ∀ k, cntS fs t w k = cntS fs 0 ((w + other t) % 4) k
  | 0 => rfl
  | k + 1 => by
    have hg : fs.getD k 0 < 4 := getD_lt h (by omega) k
    simp only [cntS, cntS_turn fs h t w ht hw k, Nat.add_zero]
    have : ((fs.getD k 0 + t) % 4 = w) ↔ (fs.getD k 0 % 4 = (w + other t) % 4) := by unfold other; omega
    by_cases e : (fs.getD k 0 + t) % 4 = w
    · rw [if_pos e, if_pos (this.1 e)]
    · rw [if_neg e, if_neg (fun x => e (this.2 x))]
theorem best_is (fs : List Nat) (w : Nat) : ∀ j, (∀ i, i < j → ((cntS fs (tried i) w fs.length : Nat) : Int) ≤ (bestC fs w j).2) ∧ (0 < j → ∃ i, i < j ∧ (bestC fs w j) = (word [tried i], ((cntS fs (tried i) w fs.length : Nat) : Int)))
  | 0 => ⟨fun _ h => absurd h (Nat.not_lt_zero _), fun h => absurd h (Nat.lt_irrefl _)⟩
  | j + 1 => by
    obtain ⟨h1, h2⟩ := best_is fs w j
    by_cases e : (bestC fs w j).2 < ((cntS fs (tried j) w fs.length : Nat) : Int)
    · rw [bestC_yes e]
      refine ⟨fun i hi => ?_, fun _ => ⟨j, by omega, rfl⟩⟩
      by_cases hv : i = j
      · subst hv; exact Int.le_refl _
      · have := h1 i (by omega); simp only; omega
    · rw [bestC_no e]
      refine ⟨fun i hi => ?_, fun _ => ?_⟩
      · by_cases hv : i = j
        · subst hv; omega
        · exact h1 i (by omega)
      · by_cases hj : 0 < j
        · obtain ⟨i, hi, q⟩ := h2 hj; exact ⟨i, by omega, q⟩
        · have : j = 0 := by omega
          subst this
          exfalso; apply e
          simp only [bestC]; omega
theorem best_most (fs : List Nat) (h0 : 1 ≤ fs.length) (h : ∀ t ∈ fs, t < 4) (w : Nat) (hw : w < 4) : (bestC fs w 4).2 = ((most fs 4).2 : Nat) ∧ ∃ t, t < 4 ∧ (bestC fs w 4).1 = word [t] := by
  obtain ⟨h1, h2⟩ := best_is fs w 4
  obtain ⟨i, hi, q⟩ := h2 (by omega)
  refine ⟨?_, tried i, tried_lt i, by rw [q]⟩
  have up : (bestC fs w 4).2 ≤ ((most fs 4).2 : Nat) := by
    rw [q]
    have := most_is fs 4 ((w + other (tried i)) % 4) (Nat.mod_lt _ (by omega))
    rw [cntS_turn fs h _ w (tried_lt i) hw]
    simp only; omega
  have hm := most_all fs h0 h
  obtain ⟨m1, m2⟩ := most_at fs 4 (by omega)
  have down : ((most fs 4).2 : Nat) ≤ (bestC fs w 4).2 := by
    -- the turn that brings the most faced way to w
    obtain ⟨j, hj, hjt⟩ : ∃ j, j < 4 ∧ (w + other (tried j)) % 4 = (most fs 4).1 := by
      have key : ∀ w m : Fin 4, ∃ j : Fin 4, (w.val + other (tried j.val)) % 4 = m.val := by decide
      obtain ⟨j, hj⟩ := key ⟨w, hw⟩ ⟨_, m1⟩
      exact ⟨j.val, j.isLt, hj⟩
    have := h1 j hj
    rw [cntS_turn fs h _ w (tried_lt j) hw, hjt, m2] at this
    exact this
  omega
def sumC (n : Int) : Nat → Int
  | 0 => 0
  | k + 1 => sumC n k + outCountCommandWords_0 n (k : Int)
theorem sumC_succ (n : Int) (k : Nat) : sumC n (k + 1) = sumC n k + outCountCommandWords_0 n (k : Int) := rfl
theorem sumC_bd (n : Int) : ∀ (k : Nat), k ≤ 4 → ∀ (P : Nat), (∀ t : Int, 0 ≤ outCountCommandWords_0 n t ∧ outCountCommandWords_0 n t ≤ (P : Int)) → 0 ≤ sumC n k ∧ sumC n k ≤ (k : Int) * (P : Int)
  | 0, _, P, _ => by simp [sumC]
  | k + 1, h, P, c => by
    have ih := sumC_bd n k (by omega) P c
    have := c (k : Int)
    rw [sumC_succ, show (((k + 1 : Nat) : Int)) * (P : Int) = (k : Int) * (P : Int) + (P : Int) by rw [Int.natCast_add, Int.add_mul]; simp]
    omega
theorem sumC_four (n : Int) : sumC n 4 = outCountCommandWords_0 n 0 + outCountCommandWords_0 n 1 + outCountCommandWords_0 n 2 + outCountCommandWords_0 n 3 := by
  simp [sumC]
theorem word_asc {s : ByteArray} {ts : List Nat} (h : s = word ts) (hl : ∀ t ∈ ts, t < 4) (i : Nat) (hi : i < s.size) : (s[i]).toNat < 128 := by
  subst h
  have h2 : i < ts.length := by rwa [size_word] at hi
  have e : (word ts)[i] = sg (ts.getD i 0) := (txt_get (ts.map sg) i hi).trans (getD_mapZ _ _ _ h2)
  rw [e]
  have := getD_lt hl (by omega) i
  rcases (by omega : ts.getD i 0 = 0 ∨ ts.getD i 0 = 1 ∨ ts.getD i 0 = 2 ∨ ts.getD i 0 = 3) with q | q | q | q <;> rw [q] <;> decide
end Dt
end Go.Proofs.YtjbomclildkjaaaDoor
