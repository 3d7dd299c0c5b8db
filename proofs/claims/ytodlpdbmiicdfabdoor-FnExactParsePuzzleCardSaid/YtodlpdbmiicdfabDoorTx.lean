/- Texts cut and joined, numbers written and read: plain facts on lists of bytes (for the texts of chapters 5, 6, 8, 9). -/
import Derived.Test.YtodlpdbmiicdfabDoorSplit
import Derived.Test.YtodlpdbmiicdfabDoorNum
import Derived.Lib.Join
import Derived.Lib.Split
import Derived.Lib.IndexMore
import Derived.Lib.IndexLaws
import Derived.Lib.AtoiAll
namespace Go.Proofs.YtodlpdbmiicdfabDoor
open Dr Rd

namespace Tx
theorem join_snoc (xs : List (List UInt8)) (y sep : List UInt8) (h : xs ≠ []) : Lib.join (xs ++ [y]) sep = Lib.join xs sep ++ sep ++ y := by
  cases xs with
  | nil => exact absurd rfl h
  | cons x r =>
    rw [List.cons_append, Lib.join_cons, Lib.join_cons]
    simp [Lib.joinTail, List.append_assoc]
/-- one byte more: the pieces that are done, and the one that is begun -/
def stp (b : UInt8) (a : List (List UInt8) × List UInt8) (c : UInt8) : List (List UInt8) × List UInt8 := if c = b then (a.1 ++ [a.2], []) else (a.1, a.2 ++ [c])
def cutF (b : UInt8) (l : List UInt8) : List (List UInt8) × List UInt8 := l.foldl (stp b) ([], [])
def fin (a : List (List UInt8) × List UInt8) : List (List UInt8) := a.1 ++ [a.2]
/-- the pieces of a text, cut at each b -/
def pieces (b : UInt8) (l : List UInt8) : List (List UInt8) := fin (cutF b l)
theorem cutF_snoc (b : UInt8) (l : List UInt8) (c : UInt8) : cutF b (l ++ [c]) = stp b (cutF b l) c := by unfold cutF; rw [List.foldl_append]; rfl
theorem fold_none {b : UInt8} : ∀ (x : List UInt8) (a : List (List UInt8) × List UInt8), b ∉ x → x.foldl (stp b) a = (a.1, a.2 ++ x)
  | [], a, _ => by simp
  | c :: x, a, h => by
    have hc : c ≠ b := fun e => h (by rw [e]; simp)
    rw [List.foldl_cons, fold_none x _ (fun e => h (List.mem_cons_of_mem _ e))]
    unfold stp; rw [if_neg hc]; simp
theorem fold_tail {b : UInt8} : ∀ (r : List (List UInt8)) (a : List (List UInt8) × List UInt8), (∀ y ∈ r, b ∉ y) → fin ((Lib.joinTail [b] r).foldl (stp b) a) = a.1 ++ a.2 :: r
  | [], a, _ => rfl
  | y :: r, a, h => by
    have e : Lib.joinTail [b] (y :: r) = [b] ++ (y ++ Lib.joinTail [b] r) := by simp [Lib.joinTail]
    rw [e, List.foldl_append, List.foldl_append, fold_none y _ (h y (by simp)), fold_tail r _ (fun z hz => h z (by simp [hz]))]
    simp [stp]
theorem pieces_join {b : UInt8} {xs : List (List UInt8)} (h0 : xs ≠ []) (h : ∀ y ∈ xs, b ∉ y) : pieces b (Lib.join xs [b]) = xs := by
  cases xs with
  | nil => exact absurd rfl h0
  | cons x r =>
    unfold pieces cutF
    rw [Lib.join_cons, List.foldl_append, fold_none x _ (h x (by simp)), fold_tail r _ (fun z hz => h z (by simp [hz]))]
    rfl
theorem join_more (acc : List (List UInt8)) (cur t sep : List UInt8) : Lib.join (acc ++ [cur ++ t]) sep = Lib.join (acc ++ [cur]) sep ++ t := by
  by_cases h : acc = []
  · subst h; rw [List.nil_append, List.nil_append, Lib.join_one, Lib.join_one]
  · rw [join_snoc _ _ _ h, join_snoc _ _ _ h]; simp
theorem join_fold (b : UInt8) : ∀ l : List UInt8, Lib.join (fin (cutF b l.reverse)) [b] = l.reverse
  | [] => by show Lib.join [[]] [b] = []; rw [Lib.join_one]
  | c :: l => by
    rw [List.reverse_cons, cutF_snoc]
    have ih := join_fold b l
    unfold stp
    by_cases h : c = b
    · rw [if_pos h]
      show Lib.join ((cutF b l.reverse).1 ++ [(cutF b l.reverse).2] ++ [[]]) [b] = _
      rw [join_snoc _ _ _ (by simp), show (cutF b l.reverse).1 ++ [(cutF b l.reverse).2] = fin (cutF b l.reverse) from rfl, ih, h]; simp
    · rw [if_neg h]
      show Lib.join ((cutF b l.reverse).1 ++ [(cutF b l.reverse).2 ++ [c]]) [b] = _
      rw [join_more, show (cutF b l.reverse).1 ++ [(cutF b l.reverse).2] = fin (cutF b l.reverse) from rfl, ih]
theorem join_pieces (b : UInt8) (l : List UInt8) : Lib.join (pieces b l) [b] = l := by
  have := join_fold b l.reverse
  rw [List.reverse_reverse] at this
  exact this

/-- the model's pieces are these -/
theorem extract_list (s : ByteArray) (i j : Nat) : (s.extract i j).data.toList = (s.data.toList.take j).drop i := by
  rw [ByteArray.data_extract, Array.toList_extract, List.extract_eq_take_drop, List.drop_take]
theorem cutTo_eq (s : ByteArray) (b : Nat) (hb : b < 256) : ∀ k, k ≤ s.size → (cutF (UInt8.ofNat b) (s.data.toList.take k)) = ((cutTo s b k).1.map (·.data.toList), (s.data.toList.take k).drop (cutTo s b k).2)
  | 0, _ => rfl
  | k + 1, h => by
    have hk : k < s.data.toList.length := by rw [Array.length_toList]; exact h
    have ih := cutTo_eq s b hb k (by omega)
    have hl := (cutTo_len s b k).2
    have hby : byteN s k = (s.data.toList[k]).toNat := by unfold byteN; rw [dif_pos (show k < s.size by omega), Array.getElem_toList]; rfl
    have hlen : (s.data.toList.take k).length = k := by rw [List.length_take]; omega
    rw [List.take_add_one, List.getElem?_eq_getElem hk, Option.toList_some, cutF_snoc, ih]
    unfold stp
    by_cases hc : byteN s k = b
    · have he : s.data.toList[k] = UInt8.ofNat b := UInt8.toNat_inj.1 (by rw [← hby, hc, UInt8.toNat_ofNat']; omega)
      rw [if_pos he, cutTo_yes hc]
      refine Prod.ext ?_ ?_
      · simp only [List.map_append, List.map_cons, List.map_nil, extract_list]
      · simp only
        rw [List.drop_of_length_le (by rw [List.length_append, hlen]; exact Nat.le_refl _)]
    · have he : s.data.toList[k] ≠ UInt8.ofNat b := fun e => hc (by rw [hby, e, UInt8.toNat_ofNat']; omega)
      rw [if_neg he, cutTo_no hc]
      refine Prod.ext rfl ?_
      simp only
      rw [List.drop_append_of_le_length (by rw [hlen]; exact hl)]
theorem cutL_eq (s : ByteArray) (b : Nat) (hb : b < 256) : (cutL s b).map (·.data.toList) = pieces (UInt8.ofNat b) s.data.toList := by
  have h := cutTo_eq s b hb s.size (Nat.le_refl _)
  have e : s.data.toList.take s.size = s.data.toList := List.take_of_length_le (by rw [Array.length_toList]; exact Nat.le_refl _)
  rw [e] at h
  unfold pieces fin cutL
  rw [h, List.map_append, List.map_cons, List.map_nil, extract_list, e]

/-- Go's pieces are these, where there is room -/
theorem index_none' {b : UInt8} : ∀ x : List UInt8, b ∉ x → Lib.indexByte x b = -1
  | [], _ => rfl
  | c :: x, h => by
    have hc : (c == b) = false := by rw [beq_eq_false_iff_ne]; exact fun e => h (by rw [e]; simp)
    rw [Lib.indexByte, hc, index_none' x (fun e => h (List.mem_cons_of_mem _ e))]; rfl
theorem index_at {b : UInt8} : ∀ (x t : List UInt8), b ∉ x → Lib.indexByte (x ++ b :: t) b = (x.length : Nat)
  | [], t, _ => by rw [List.nil_append, Lib.indexByte]; simp
  | c :: x, t, h => by
    have hc : (c == b) = false := by rw [beq_eq_false_iff_ne]; exact fun e => h (by rw [e]; simp)
    have ih := index_at x t (fun e => h (List.mem_cons_of_mem _ e))
    have h1 : (((x.length : Nat) : Int) == -1) = false := by rw [beq_eq_false_iff_ne]; omega
    rw [List.cons_append, Lib.indexByte, hc, ih, h1]; simp
theorem splitK_join {b : UInt8} : ∀ (r : List (List UInt8)) (x : List UInt8) (k : Nat), r.length ≤ k → (∀ y ∈ x :: r, b ∉ y) → Lib.splitK [b] 0 k (x ++ Lib.joinTail [b] r) = x :: r
  | [], x, k, _, h => by
    have e : Lib.joinTail [b] [] = [] := rfl
    rw [e, List.append_nil]
    cases k with
    | zero => rfl
    | succ k => rw [Lib.splitK, Lib.index_one, index_none' x (h x (by simp))]; rfl
  | y :: r, x, 0, hk, _ => by simp at hk
  | y :: r, x, k + 1, hk, h => by
    have e : Lib.joinTail [b] (y :: r) = b :: (y ++ Lib.joinTail [b] r) := by simp [Lib.joinTail]
    have h1 : (((x.length : Nat) : Int) == -1) = false := by rw [beq_eq_false_iff_ne]; omega
    have ih := splitK_join r y k (by simpa using hk) (fun z hz => h z (List.mem_cons_of_mem _ hz))
    rw [e, Lib.splitK, Lib.index_one, index_at x _ (h x (by simp)), h1, if_neg (by decide)]
    rw [show ((x.length : Nat) : Int).toNat + 0 = x.length by omega, List.take_left', show ((x.length : Nat) : Int).toNat + [b].length = x.length + 1 by simp]
    · have e3 : (x ++ b :: (y ++ Lib.joinTail [b] r)).drop (x.length + 1) = y ++ Lib.joinTail [b] r := by
        rw [show x ++ b :: (y ++ Lib.joinTail [b] r) = (x ++ [b]) ++ (y ++ Lib.joinTail [b] r) by simp, List.drop_left' (by simp)]
      rw [e3, ih]
    · rfl
theorem split_join {b : UInt8} {xs : List (List UInt8)} {k : Nat} (h0 : xs ≠ []) (hk : xs.length ≤ k + 1) (h : ∀ y ∈ xs, b ∉ y) : Lib.splitK [b] 0 k (Lib.join xs [b]) = xs := by
  cases xs with
  | nil => exact absurd rfl h0
  | cons x r => rw [Lib.join_cons]; exact splitK_join r x k (by simpa using hk) h
theorem cut_at {b : UInt8} {x t : List UInt8} (h : b ∉ x) : Lib.cut (x ++ b :: t) [b] = (x, t, true) := by
  unfold Lib.cut
  rw [Lib.index_one, index_at x t h, if_pos (by omega)]
  have e2 : (x ++ b :: t).drop (x.length + 1) = t := by rw [show x ++ b :: t = (x ++ [b]) ++ t by simp, List.drop_left' (by simp)]
  simp only [Int.toNat_natCast, List.length_singleton, e2, List.take_left' rfl]

/-! ### numbers -/
theorem dg_mem {b : UInt8} (h1 : b.toNat < 48 ∨ 57 < b.toNat) : ∀ n : Nat, b ∉ numL n := by
  intro n
  induction n using Nat.strongRecOn with
  | _ n ih =>
    have hd : ∀ d, d < 10 → b ≠ dg d := fun d hd e => by
      have := dg_nat hd
      rw [← e] at this
      omega
    by_cases h : n < 10
    · rw [numL_small h, List.mem_singleton]; exact hd n h
    · rw [numL_big h, List.mem_append, List.mem_singleton]
      rintro (h2 | h2)
      · exact ih (n / 10) (by omega) h2
      · exact hd _ (Nat.mod_lt _ (by omega)) h2
theorem numL_step {v d : Nat} (h1 : 1 ≤ v) (h2 : d < 10) : numL (10 * v + d) = numL v ++ [dg d] := by
  rw [numL_big (by omega), show (10 * v + d) / 10 = v by omega, show (10 * v + d) % 10 = d by omega]
theorem byteN_txt (l : List UInt8) (k : Nat) (h : k < l.length) : byteN (txt l) k = (l[k]).toNat := by
  unfold byteN
  rw [dif_pos (by rw [size_txt]; exact h), txt_get, List.getD_eq_getElem?_getD, List.getElem?_eq_getElem h]; rfl
theorem readTo_txt_snoc (l : List UInt8) (c : UInt8) : ∀ k, k ≤ l.length → readTo (txt (l ++ [c])) k = readTo (txt l) k
  | 0, _ => rfl
  | k + 1, h => by
    rw [readTo, readTo, readTo_txt_snoc l c k (by omega), byteN_txt _ k (by rw [List.length_append]; omega), byteN_txt _ k (by omega), List.getElem_append_left (by omega)]
theorem readTo_num : ∀ n : Nat, readTo (txt (numL n)) (numL n).length = n := by
  intro n
  induction n using Nat.strongRecOn with
  | _ n ih =>
    by_cases h : n < 10
    · rw [numL_small h]
      show 10 * 0 + (byteN (txt [dg n]) 0 - 48) = n
      have := dg_nat h
      have hb : byteN (txt [dg n]) 0 = (dg n).toNat := byteN_txt [dg n] 0 (by simp)
      rw [hb]; omega
    · rw [numL_big h, List.length_append, List.length_singleton, readTo, readTo_txt_snoc _ _ _ (Nat.le_refl _), ih (n / 10) (by omega), byteN_txt _ _ (by rw [List.length_append, List.length_singleton]; omega), List.getElem_append_right (Nat.le_refl _)]
      have := dg_nat (show n % 10 < 10 from Nat.mod_lt _ (by omega))
      simp only [Nat.sub_self, List.getElem_singleton]
      omega
theorem num_digits : ∀ (n : Nat) (c : UInt8), c ∈ numL n → 48 ≤ c.toNat ∧ c.toNat ≤ 57 := fun n c hc => by
  apply Decidable.byContradiction
  intro hn
  exact dg_mem (b := c) (by omega) n hc
theorem num_first : ∀ n : Nat, 10 ≤ n → ∃ (c : UInt8) (r : List UInt8), numL n = c :: r ∧ c.toNat ≠ 48 := by
  intro n
  induction n using Nat.strongRecOn with
  | _ n ih =>
    intro h
    rw [numL_big (by omega)]
    by_cases h1 : n / 10 < 10
    · rw [numL_small h1]
      refine ⟨dg (n / 10), [dg (n % 10)], rfl, ?_⟩
      have := dg_nat h1; omega
    · obtain ⟨c, r, e, hc⟩ := ih (n / 10) (by omega) (by omega)
      exact ⟨c, r ++ [dg (n % 10)], by rw [e]; rfl, hc⟩
theorem num_pos (n : Nat) : 1 ≤ (numL n).length := by
  by_cases h : n < 10
  · rw [numL_small h]; simp
  · rw [numL_big h]; simp
/-- a number is read back -/
theorem readZ_num {n : Nat} (h : n < 1000000) : readZ (txt (numL n)) = (n : Int) := by
  have hl := numL_len n 6 (by omega) (by omega)
  have hp := num_pos n
  have hb : readB (txt (numL n)) = true := by
    unfold readB
    rw [Bool.and_eq_true, Bool.and_eq_true]
    refine ⟨inB_of (by rw [size_txt]; omega), ?_, ?_⟩
    · by_cases h10 : n < 10
      · rw [size_txt, numL_small h10]; simp
      · obtain ⟨c, r, e, hc⟩ := num_first n (by omega)
        have : byteN (txt (numL n)) 0 = c.toNat := by rw [byteN_txt _ 0 (by omega)]; simp [e]
        rw [this]; simp [hc]
    · rw [List.all_eq_true]
      intro k hk
      rw [List.mem_range, size_txt] at hk
      have := num_digits n ((numL n)[k]) (List.getElem_mem hk)
      unfold digB
      rw [byteN_txt _ k hk, decide_eq_true this.1, decide_eq_true this.2]; rfl
  unfold readZ
  rw [if_pos hb, size_txt, readTo_num]
/-- what is read is the text of its number -/
theorem num_of_read {s : ByteArray} (h : readB s = true) : s = txt (numL (readTo s s.size)) := by
  unfold readB at h
  rw [Bool.and_eq_true, Bool.and_eq_true, List.all_eq_true] at h
  obtain ⟨h1, h2, h3⟩ := h
  have hs := inB_yes h1
  have hd : ∀ k, k < s.size → 48 ≤ byteN s k ∧ byteN s k ≤ 57 := fun k hk => by
    have := h3 k (List.mem_range.2 hk)
    unfold digB at this
    rw [Bool.and_eq_true] at this
    exact ⟨of_decide_eq_true this.1, of_decide_eq_true this.2⟩
  have hat : ∀ k (hk : k < s.size), s.data.toList[k]'(by rw [Array.length_toList]; exact hk) = dg (byteN s k - 48) := fun k hk => by
    refine UInt8.toNat_inj.1 ?_
    have hb : byteN s k = (s.data.toList[k]'(by rw [Array.length_toList]; exact hk)).toNat := by unfold byteN; rw [dif_pos hk, Array.getElem_toList]; rfl
    have h4 := dg_nat (f := byteN s k - 48) (by have := hd k hk; omega)
    have := hd k hk
    omega
  have key : ∀ k, 1 ≤ k → k ≤ s.size → numL (readTo s k) = s.data.toList.take k ∧ (1 < s.size → 1 ≤ readTo s k) := by
    intro k
    induction k with
    | zero => intro h; omega
    | succ k ih =>
      intro _ hk
      have hb := hd k (by omega)
      have hlt : k < s.data.toList.length := by rw [Array.length_toList]; exact hk
      rw [List.take_add_one, List.getElem?_eq_getElem hlt, Option.toList_some, hat k (by omega)]
      rcases Nat.eq_zero_or_pos k with rfl | hp
      · have e : readTo s (0 + 1) = byteN s 0 - 48 := by show 10 * 0 + (byteN s 0 - 48) = _; omega
        rw [e, numL_small (by omega)]
        refine ⟨rfl, fun h1s => ?_⟩
        rw [Bool.not_eq_true', Bool.and_eq_false_iff] at h2
        rcases h2 with h2 | h2
        · have := of_decide_eq_false h2; omega
        · have := of_decide_eq_false h2; omega
      · obtain ⟨ih1, ih2⟩ := ih hp (by omega)
        have h1r := ih2 (by omega)
        rw [readTo, numL_step h1r (by omega), ih1]
        exact ⟨rfl, fun _ => by omega⟩
  have hk := (key s.size (by omega) (Nat.le_refl _)).1
  rw [hk, List.take_of_length_le (by rw [Array.length_toList]; exact Nat.le_refl _)]
  exact txt_all s
theorem read_nonneg {s : ByteArray} (h : 0 ≤ readZ s) : readB s = true := by
  unfold readZ at h
  rcases hb : readB s with _ | _
  · rw [hb] at h; simp at h
  · rfl
theorem num_of_readZ {s : ByteArray} {n : Nat} (h : readZ s = (n : Int)) : s = txt (numL n) := by
  have hb := read_nonneg (s := s) (by omega)
  have e : readTo s s.size = n := by
    unfold readZ at h
    rw [if_pos hb] at h
    omega
  rw [← e]; exact num_of_read hb
/-- Go reads it back too -/
theorem parse_snoc {d : Nat} (hd : d < 10) : ∀ (l : List UInt8) (acc u : Nat), Lib.parseUint10 acc l = .ok u → u < 1844674407370955161 → Lib.parseUint10 acc (l ++ [dg d]) = .ok (u * 10 + d)
  | [], acc, u, h, hu => by
    simp only [Lib.parseUint10] at h
    injection h with h
    subst h
    have := dg_nat hd
    rw [List.nil_append, Lib.parseUint10, if_pos (by omega), if_neg (by omega), if_neg (by omega)]
    rw [show (dg d).toNat - 48 = d by omega]; rfl
  | c :: r, acc, u, h, hu => by
    rw [Lib.parseUint10] at h
    split at h
    · rename_i h1
      split at h
      · cases h
      · rename_i h2
        split at h
        · cases h
        · rename_i h3
          rw [List.cons_append, Lib.parseUint10, if_pos h1, if_neg h2, if_neg h3]
          exact parse_snoc hd r _ u h hu
    · cases h
theorem parse_num : ∀ n : Nat, n < 1000000000000000000 → Lib.parseUint10 0 (numL n) = .ok n := by
  intro n
  induction n using Nat.strongRecOn with
  | _ n ih =>
    intro h
    by_cases h1 : n < 10
    · have := dg_nat h1
      rw [numL_small h1, Lib.parseUint10, if_pos (by omega), if_neg (by omega), if_neg (by omega)]
      rw [show 0 * 10 + ((dg n).toNat - 48) = n by omega]; rfl
    · rw [numL_big h1, parse_snoc (Nat.mod_lt _ (by omega)) _ _ _ (ih (n / 10) (by omega) (by omega)) (by omega)]
      congr 1
      omega
theorem atoi_num {n : Nat} (h : n < 1000000000000000000) : Lib.atoiAll (numL n) = .ok (n : Int) := by
  obtain ⟨c, r, e⟩ : ∃ c r, numL n = c :: r := by
    cases hn : numL n with
    | nil => have := num_pos n; rw [hn] at this; simp at this
    | cons c r => exact ⟨c, r, rfl⟩
  have hc := num_digits n c (by rw [e]; simp)
  have hp := parse_num n h
  unfold Lib.atoiAll
  rw [e]
  simp only
  rw [if_neg (by omega), ← e]
  unfold Lib.parseMag
  rw [if_neg (by rw [e]; simp), hp]
  simp only
  rw [if_neg (by omega), if_neg (by omega), if_neg (by omega)]
theorem dig_lt {d : Nat} (h : d < 10) : (dg d).toNat = 48 + d := by have := dg_nat h; omega
end Tx
end Go.Proofs.YtodlpdbmiicdfabDoor
