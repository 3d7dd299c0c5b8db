/- Chapter 7, the program, plain: the orders that leave nobody turned, found from the left on; windows and neighbours in these words. -/
import Derived.Test.YtkdpjimbhpclaabVa
namespace Go.Proofs.Ytkdpjimbhpclaab
open Go.ChangeShapes Go.WideShapes Go.ChangeAt Go.RowKit
open Rx Od

namespace Ed
/-- the first soldiers of the orders that leave nobody turned, from soldier p on, where rn tells the run from a soldier on -/
def rep (rn : Nat → Option (Nat × Nat)) : Nat → Nat → List Bool → List Int → Option (List Int)
  | 0, _, _, st => some st
  | f + 1, p, d, st => if d.getD p false then (rn p).bind fun r => rep rn f (p + 1) (turnTo d r.1 (r.2 + 1)) (st ++ [(p : Int)]) else rep rn f (p + 1) d st
theorem rep_no {rn : Nat → Option (Nat × Nat)} {f p : Nat} {d : List Bool} {st : List Int} (h : d.getD p false = false) : rep rn (f + 1) p d st = rep rn f (p + 1) d st := by
  rw [rep, h]; rfl
theorem rep_fail {rn : Nat → Option (Nat × Nat)} {f p : Nat} {d : List Bool} {st : List Int} (h : d.getD p false = true) (hr : rn p = none) : rep rn (f + 1) p d st = none := by
  rw [rep, h, hr]; rfl
theorem rep_yes {rn : Nat → Option (Nat × Nat)} {f p : Nat} {d : List Bool} {st : List Int} {a b : Nat} (h : d.getD p false = true) (hr : rn p = some (a, b)) : rep rn (f + 1) p d st = rep rn f (p + 1) (turnTo d a (b + 1)) (st ++ [(p : Int)]) := by
  rw [rep, h, hr]; rfl
theorem rep_skip (rn : Nat → Option (Nat × Nat)) (d : List Bool) (st : List Int) (f : Nat) : ∀ j p, (∀ i, p ≤ i → i < p + j → d.getD i false = false) → rep rn (j + f) p d st = rep rn f (p + j) d st
  | 0, p, _ => by rw [Nat.zero_add]; rfl
  | j + 1, p, h => by
    rw [show j + 1 + f = (j + f) + 1 by omega, rep_no (h p (Nat.le_refl _) (by omega)), rep_skip rn d st f j (p + 1) (fun i h1 h2 => h i (by omega) (by omega)), show p + 1 + j = p + (j + 1) by omega]
theorem rep_none (rn : Nat → Option (Nat × Nat)) (d : List Bool) (st : List Int) (f p : Nat) (h : ∀ i, p ≤ i → i < p + f → d.getD i false = false) : rep rn f p d st = some st := by
  have := rep_skip rn d st 0 f p h
  rw [Nat.add_zero] at this
  rw [this]; rfl
/-- the first one who is left to turn -/
theorem rep_first (rn : Nat → Option (Nat × Nat)) (d : List Bool) (st : List Int) (n p q : Nat) (hpq : p ≤ q) (hq : q < n) (h : ∀ i, p ≤ i → i < q → d.getD i false = false) : rep rn (n - p) p d st = rep rn (n - q) q d st := by
  have := rep_skip rn d st (n - q) (q - p) p (fun i h1 h2 => h i h1 (by omega))
  rw [show q - p + (n - q) = n - p by omega, show p + (q - p) = q by omega] at this
  exact this

/-- the same, as far as there are such runs -/
def scan (rn : Nat → Option (Nat × Nat)) (d : List Bool) : Nat → List Bool × List Int
  | 0 => (d, [])
  | k + 1 => if (scan rn d k).1.getD k false then (turnTo (scan rn d k).1 k (((rn k).getD (0, 0)).2 + 1), (scan rn d k).2 ++ [(k : Int)]) else scan rn d k
def Good (rn : Nat → Option (Nat × Nat)) (n K : Nat) : Prop := K ≤ n ∧ (∀ i, i < K → ∃ b, rn i = some (i, b) ∧ i ≤ b ∧ b < n) ∧ ∀ i, K ≤ i → rn i = none
theorem scan_len (rn : Nat → Option (Nat × Nat)) (d : List Bool) : ∀ k, (scan rn d k).1.length = d.length
  | 0 => rfl
  | k + 1 => by
    rw [scan]
    split
    · rw [length_turnTo]; exact scan_len rn d k
    · exact scan_len rn d k
theorem scan_pos (rn : Nat → Option (Nat × Nat)) (d : List Bool) : ∀ k, ∀ x ∈ (scan rn d k).2, 0 ≤ x ∧ x < (k : Int)
  | 0, x, h => by simp [scan] at h
  | k + 1, x, h => by
    rw [scan] at h
    split at h
    · rw [List.mem_append, List.mem_singleton] at h
      rcases h with h | h
      · have := scan_pos rn d k x h
        omega
      · omega
    · have := scan_pos rn d k x h
      omega
theorem scan_clear {rn : Nat → Option (Nat × Nat)} {n K : Nat} (g : Good rn n K) (d : List Bool) (hd : d.length = n) : ∀ k, k ≤ K → ∀ i, i < k → (scan rn d k).1.getD i false = false
  | 0, _, i, hi => absurd hi (Nat.not_lt_zero _)
  | k + 1, hk, i, hi => by
    obtain ⟨b, hb, h1, h2⟩ := g.2.1 k (by omega)
    have ih := scan_clear g d hd k (by omega)
    have hl := scan_len rn d k
    rw [scan]
    split
    · rename_i h
      rw [hb]
      show (turnTo (scan rn d k).1 k (b + 1)).getD i false = false
      rw [turn_all _ _ _ _ (by omega)]
      by_cases e : i = k
      · subst e; rw [h, decide_eq_true (by omega)]; rfl
      · rw [ih i (by omega), decide_eq_false (by omega)]; rfl
    · rename_i h
      by_cases e : i = k
      · subst e; simpa using h
      · exact ih i (by omega)
theorem rep_scan {rn : Nat → Option (Nat × Nat)} {n K : Nat} (g : Good rn n K) (d : List Bool) : ∀ k, k ≤ K → rep rn n 0 d [] = rep rn (n - k) k (scan rn d k).1 (scan rn d k).2
  | 0, _ => rfl
  | k + 1, hk => by
    obtain ⟨b, hb, h1, h2⟩ := g.2.1 k (by omega)
    have := g.1
    rw [rep_scan g d k (by omega), show n - k = (n - (k + 1)) + 1 by omega, scan]
    rcases h : (scan rn d k).1.getD k false with _ | _
    · rw [rep_no h]; rfl
    · rw [rep_yes h hb, if_pos rfl, hb]; rfl
theorem rep_scan_all {rn : Nat → Option (Nat × Nat)} {n K : Nat} (g : Good rn n K) (d : List Bool) (hd : d.length = n) :
    rep rn n 0 d [] = if (scan rn d K).1 = zeros n then some (scan rn d K).2 else none := by
  rw [rep_scan g d K (Nat.le_refl _)]
  have hc := scan_clear g d hd K (Nat.le_refl _)
  have hl := scan_len rn d K
  rw [hd] at hl
  generalize scan rn d K = s at hc hl
  by_cases h : s.1 = zeros n
  · rw [if_pos h]
    exact rep_none _ _ _ _ _ fun i _ _ => by rw [h]; exact zeros_get _ _
  · rw [if_neg h]
    have : ∃ q, s.1.getD q false = true := by
      by_cases hn : ∃ q, s.1.getD q false = true
      · exact hn
      · exact absurd (by have := zeros_of s.1 (fun i => by cases e : s.1.getD i false; rfl; exact absurd ⟨i, e⟩ hn); rw [hl] at this; exact this) h
    have hq : ∃ q, s.1.getD q false = true ∧ ∀ i, i < q → s.1.getD i false = false := by
      obtain ⟨q, hq⟩ := this
      induction q using Nat.strongRecOn with
      | ind q ih =>
        by_cases hs : ∃ i, i < q ∧ s.1.getD i false = true
        · obtain ⟨i, h1, h2⟩ := hs; exact ih i h1 h2
        · exact ⟨q, hq, fun i hi => by cases e : s.1.getD i false; rfl; exact absurd ⟨i, hi, e⟩ hs⟩
    obtain ⟨q, h1, h2⟩ := hq
    have hqK : K ≤ q := by
      by_cases e : K ≤ q
      · exact e
      · rw [hc q (by omega)] at h1; cases h1
    have hqn : q < n := by
      by_cases e : q < n
      · exact e
      · rw [getD_over _ _ (by omega)] at h1; cases h1
    rw [rep_first rn s.1 s.2 n K q hqK hqn (fun i _ hi => h2 i hi), show n - q = (n - q - 1) + 1 by omega]
    exact rep_fail h1 (g.2.2 q hqK)

theorem dif_turn (l m : List Bool) (a b : Nat) (hb : b ≤ l.length) : dif (turnTo l a b) m = turnTo (dif l m) a b := by
  refine ext_getD false (by rw [length_dif, length_turnTo, length_turnTo, length_dif]) fun i hi => ?_
  rw [length_dif, length_turnTo] at hi
  rw [dif_get, turn_all _ _ _ _ (by rw [length_dif]; exact hb), dif_get]
  unfold difB
  rw [length_turnTo, decide_eq_true hi, turn_all _ _ _ _ hb]
  cases l.getD i false <;> cases m.getD i false <;> cases decide (a ≤ i ∧ i < b) <;> rfl
theorem dif_same (l m : List Bool) (hm : m.length = l.length) : dif l m = zeros l.length ↔ l = m := by
  constructor
  · intro h
    have := xorL_dif l m hm
    rw [h, xorL_zeros] at this
    exact this
  · rintro rfl
    refine ext_getD false (by rw [length_dif, length_zeros]) fun i _ => ?_
    rw [dif_get, zeros_get]
    unfold difB
    cases decide (i < l.length) <;> cases l.getD i false <;> rfl

/-! ### windows -/
def rnW (n wd p : Nat) : Option (Nat × Nat) := if p + wd ≤ n then some (p, p + wd - 1) else none
theorem good_W (n wd : Nat) (h1 : 1 ≤ wd) (h2 : wd ≤ n) : Good (rnW n wd) n (n - wd + 1) :=
  ⟨by omega, fun i hi => ⟨i + wd - 1, by unfold rnW; rw [if_pos (by omega)], by omega, by omega⟩, fun i hi => by unfold rnW; rw [if_neg (by omega)]⟩
theorem wi_scan (l m : List Bool) (wd : Nat) (h1 : 1 ≤ wd) (h2 : wd ≤ l.length) : ∀ k, k ≤ l.length - wd + 1 → dif (wiTo l m wd k).1 m = (scan (rnW l.length wd) (dif l m) k).1 ∧ (wiTo l m wd k).2 = (scan (rnW l.length wd) (dif l m) k).2
  | 0, _ => ⟨rfl, rfl⟩
  | k + 1, hk => by
    obtain ⟨e1, e2⟩ := wi_scan l m wd h1 h2 k (by omega)
    have hl := (wiTo_len l m wd k).1
    have hg : (scan (rnW l.length wd) (dif l m) k).1.getD k false = ((wiTo l m wd k).1.getD k false != m.getD k false) := by
      rw [← e1, dif_get]
      unfold difB
      rw [decide_eq_true (by omega)]; rfl
    rw [wiTo, scan, hg]
    split
    · refine ⟨?_, by rw [e2]⟩
      show dif (turnTo (wiTo l m wd k).1 k (k + wd)) m = turnTo _ k (((rnW l.length wd k).getD (0, 0)).2 + 1)
      rw [dif_turn _ _ _ _ (by omega), e1]
      unfold rnW
      rw [if_pos (by omega)]
      show _ = turnTo _ k (k + wd - 1 + 1)
      rw [show k + wd - 1 + 1 = k + wd by omega]
    · exact ⟨e1, e2⟩
theorem win_rep (l m : List Bool) (wd : Nat) (hm : m.length = l.length) (h1 : 1 ≤ wd) (h2 : wd ≤ l.length) : rep (rnW l.length wd) l.length 0 (dif l m) [] = if winB l m wd then some (winL l m wd) else none := by
  obtain ⟨e1, e2⟩ := wi_scan l m wd h1 h2 (l.length - wd + 1) (Nat.le_refl _)
  rw [rep_scan_all (good_W l.length wd h1 h2) _ (length_dif _ _), ← e1, ← e2]
  have hl := (wiTo_len l m wd (l.length - wd + 1)).1
  unfold winB winL
  by_cases h : (wiTo l m wd (l.length - wd + 1)).1 = m
  · rw [if_pos (((dif_same _ _ (by omega)).2 h).trans (by rw [hl])), decide_eq_true h]; rfl
  · rw [if_neg (fun x => h ((dif_same _ _ (by omega)).1 (x.trans (by rw [hl])))), decide_eq_false h]; rfl

/-! ### neighbours -/
def rnN (n p : Nat) : Option (Nat × Nat) := if p + 1 < n then some (p, min (n - 1) (p + 2)) else none
theorem good_N (n : Nat) (h1 : 1 ≤ n) : Good (rnN n) n (n - 1) :=
  ⟨by omega, fun i hi => ⟨min (n - 1) (i + 2), by unfold rnN; rw [if_pos (by omega)], by omega, by omega⟩, fun i hi => by unfold rnN; rw [if_neg (by omega)]⟩
def preL (f : Bool) : List Int := if f then [0] else []
def stL (l : List Bool) (f : Bool) : List Bool := if f then aroundL l 0 else l
theorem length_stL (l : List Bool) (f : Bool) : (stL l f).length = l.length := by unfold stL; split <;> simp [length_aroundL]
def upL (zs : List Int) : List Int := zs.map fun x => x + 1
theorem ch_scan (l m : List Bool) (f : Bool) (h1 : 1 ≤ l.length) : ∀ k, k ≤ l.length - 1 → dif (chTo l m f k).1 m = (scan (rnN l.length) (dif (stL l f) m) k).1 ∧ (chTo l m f k).2 = preL f ++ upL (scan (rnN l.length) (dif (stL l f) m) k).2
  | 0, _ => by
    unfold stL preL
    rw [chTo]
    cases f <;> exact ⟨rfl, rfl⟩
  | k + 1, hk => by
    obtain ⟨e1, e2⟩ := ch_scan l m f h1 k (by omega)
    have hl := (chTo_len l m f k).1
    have hg : (scan (rnN l.length) (dif (stL l f) m) k).1.getD k false = ((chTo l m f k).1.getD k false != m.getD k false) := by
      rw [← e1, dif_get]
      unfold difB
      rw [decide_eq_true (by omega)]; rfl
    rw [chTo, scan, hg]
    split
    · refine ⟨?_, by rw [e2]; unfold upL; rw [List.map_append, List.append_assoc]; rfl⟩
      show dif (aroundL (chTo l m f k).1 (k + 1)) m = turnTo _ k (((rnN l.length k).getD (0, 0)).2 + 1)
      unfold aroundL
      rw [dif_turn _ _ _ _ (by omega), e1, hl, Nat.add_sub_cancel]
      unfold rnN
      rw [if_pos (by omega)]; rfl
    · exact ⟨e1, e2⟩
theorem ch_rep (l m : List Bool) (f : Bool) (hm : m.length = l.length) (h1 : 1 ≤ l.length) : ∃ sts : List Int, rep (rnN l.length) l.length 0 (dif (stL l f) m) [] = (if chB l m f then some sts else none) ∧ chL l m f = preL f ++ upL sts ∧ (∀ x ∈ sts, 0 ≤ x ∧ x < (l.length : Int)) ∧ sts.length ≤ l.length := by
  obtain ⟨e1, e2⟩ := ch_scan l m f h1 (l.length - 1) (Nat.le_refl _)
  have hl := (chTo_len l m f (l.length - 1)).1
  have hlen := (chTo_len l m f (l.length - 1)).2
  refine ⟨(scan (rnN l.length) (dif (stL l f) m) (l.length - 1)).2, ?_, e2, fun x hx => by have := scan_pos _ _ _ x hx; omega, ?_⟩
  · rw [rep_scan_all (good_N l.length h1) _ (by rw [length_dif, length_stL]), ← e1]
    unfold chB
    by_cases h : (chTo l m f (l.length - 1)).1 = m
    · rw [if_pos (((dif_same _ _ (by omega)).2 h).trans (by rw [hl])), decide_eq_true h]; rfl
    · rw [if_neg (fun x => h ((dif_same _ _ (by omega)).1 (x.trans (by rw [hl])))), decide_eq_false h]; rfl
  · rw [e2, List.length_append] at hlen
    unfold upL at hlen
    rw [List.length_map] at hlen
    omega
end Ed

end Go.Proofs.Ytkdpjimbhpclaab
