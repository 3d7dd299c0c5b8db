/- Chapter 2, plain: orders one after another, and the first one that is seen so. Nothing of the program. -/
import Derived.Test.YtkolkigpppfhcaaHe
namespace Go.Proofs.Ytkolkigpppfhcaa

namespace Pm
/-- x ahead of a decreasing rest: the smallest greater one takes its place, and the rest is turned -/
def bump (x : Nat) (xs : List Nat) : Option (List Nat) :=
  match (xs.takeWhile (fun y => decide (x < y))).reverse with
  | [] => none
  | y :: a => some (y :: (a.reverse ++ x :: xs.dropWhile (fun y => decide (x < y))).reverse)
/-- the order that comes next -/
def nextL : List Nat → Option (List Nat)
  | [] => none
  | x :: xs => match nextL xs with
    | some ys => some (x :: ys)
    | none => bump x xs
theorem bump_split (x y : Nat) (a b : List Nat) (ha : ∀ z ∈ a, x < z) (hy : x < y) (hb : ∀ z ∈ b, ¬ x < z) : bump x (a ++ y :: b) = some (y :: (a ++ x :: b).reverse) := by
  have e : a ++ y :: b = (a ++ [y]) ++ b := by simp
  have hp : ∀ z ∈ a ++ [y], (fun y => decide (x < y)) z = true := by
    intro z hz
    rcases List.mem_append.1 hz with h | h
    · exact decide_eq_true (ha z h)
    · rw [List.mem_singleton.1 h]; exact decide_eq_true hy
  have hb1 : b.takeWhile (fun y => decide (x < y)) = [] := by
    cases b with
    | nil => rfl
    | cons z t => rw [List.takeWhile_cons_of_neg]; simpa using hb z (by simp)
  have hb2 : b.dropWhile (fun y => decide (x < y)) = b := by
    cases b with
    | nil => rfl
    | cons z t => rw [List.dropWhile_cons_of_neg]; simpa using hb z (by simp)
  unfold bump
  rw [e, List.takeWhile_append_of_pos hp, List.dropWhile_append_of_pos hp, hb1, hb2, List.append_nil, List.reverse_append]
  simp
theorem bump_none (x : Nat) (xs : List Nat) (h : ∀ z ∈ xs, ¬ x < z) : bump x xs = none := by
  have : xs.takeWhile (fun y => decide (x < y)) = [] := by
    cases xs with
    | nil => rfl
    | cons z t => rw [List.takeWhile_cons_of_neg]; simpa using h z (by simp)
  unfold bump
  rw [this]; rfl
def Dec (l : List Nat) : Prop := l.Pairwise (fun a b => b < a)
def Inc (l : List Nat) : Prop := l.Pairwise (fun a b => a < b)
theorem nextL_dec : ∀ xs, Dec xs → nextL xs = none
  | [], _ => rfl
  | x :: xs, h => by
    have h2 := List.pairwise_cons.1 h
    rw [nextL, nextL_dec xs h2.2]
    exact bump_none x xs (fun z hz => by have := h2.1 z hz; omega)
theorem nextL_pre (xs ys : List Nat) (h : nextL xs = some ys) : ∀ p : List Nat, nextL (p ++ xs) = some (p ++ ys)
  | [] => h
  | x :: p => by
    show nextL (x :: (p ++ xs)) = _
    rw [nextL, nextL_pre xs ys h p]; rfl
theorem nextL_bump (x : Nat) (xs : List Nat) (h : Dec xs) : nextL (x :: xs) = bump x xs := by
  rw [nextL, nextL_dec xs h]

/-- each one follows the one ahead of it, up to the last one -/
def run : List (List Nat) → List Nat → Prop
  | [], _ => False
  | [a], z => a = z
  | a :: b :: t, z => nextL a = some b ∧ run (b :: t) z
theorem run_map (x : Nat) : ∀ (L : List (List Nat)) (z : List Nat), run L z → run (L.map (x :: ·)) (x :: z)
  | [], _, h => h
  | [a], z, h => by
    have h2 : a = z := h
    show x :: a = x :: z
    rw [h2]
  | a :: b :: t, z, h => ⟨nextL_pre a b h.1 [x], run_map x (b :: t) z h.2⟩
theorem run_append : ∀ (L1 : List (List Nat)) (z1 : List Nat) (L2 : List (List Nat)) (z2 b : List Nat), run L1 z1 → L2.head? = some b → nextL z1 = some b → run L2 z2 → run (L1 ++ L2) z2
  | [], _, _, _, _, h, _, _, _ => h.elim
  | [_], _, [], _, _, _, h2, _, _ => by simp at h2
  | [a], z1, c :: t, z2, b, h, h2, h3, h4 => by
    have e : a = z1 := h
    have e2 : c = b := by simpa using h2
    exact ⟨by rw [e, h3, e2], h4⟩
  | a :: c :: t, z1, L2, z2, b, h, h2, h3, h4 => ⟨h.1, run_append (c :: t) z1 L2 z2 b h.2 h2 h3 h4⟩
theorem run_next (o : List Nat) (rest : List (List Nat)) (z : List Nat) (h : run (o :: rest) z) (hz : nextL z = none) : nextL o = rest.head? ∧ ∀ c t, rest = c :: t → run (c :: t) z := by
  cases rest with
  | nil =>
    have e : o = z := h
    exact ⟨by rw [e, hz]; rfl, fun c t k => by cases k⟩
  | cons c t => exact ⟨h.1, fun c2 t2 k => by rw [← k]; exact h.2⟩

/-- all orders of a list's numbers -/
def perms : Nat → List Nat → List (List Nat)
  | 0, _ => [[]]
  | k + 1, S => S.flatMap fun x => (perms k (S.erase x)).map (x :: ·)
theorem inc_rev {l : List Nat} (h : Inc l) : Dec l.reverse := List.pairwise_reverse.2 h
theorem erase_mid {p q : List Nat} {x : Nat} (h : Inc (p ++ x :: q)) : (p ++ x :: q).erase x = p ++ q := by
  have hn : x ∉ p := fun hx => by
    have := (List.pairwise_append.1 h).2.2 x hx x (by simp)
    omega
  rw [List.erase_append_right _ hn, List.erase_cons_head]
theorem perms_run : ∀ (k : Nat) (S : List Nat), S.length = k → Inc S → run (perms k S) S.reverse ∧ (perms k S).head? = some S
  | 0, S, hl, _ => by
    have : S = [] := List.eq_nil_of_length_eq_zero hl
    subst this
    exact ⟨rfl, rfl⟩
  | k + 1, S, hl, hi => by
    have key : ∀ (q : List Nat) (x : Nat) (p : List Nat), S = p ++ x :: q → run ((x :: q).flatMap fun x => (perms k (S.erase x)).map (x :: ·)) S.reverse ∧ ((x :: q).flatMap fun x => (perms k (S.erase x)).map (x :: ·)).head? = some (x :: S.erase x) := by
      intro q
      induction q with
      | nil =>
        intro x p hS
        have he : S.erase x = p := by rw [hS, erase_mid (hS ▸ hi), List.append_nil]
        have hle : (S.erase x).length = k := by rw [he]; rw [hS] at hl; simp at hl; omega
        obtain ⟨h1, h2⟩ := perms_run k (S.erase x) hle (List.Pairwise.sublist (List.erase_sublist) hi)
        rw [List.flatMap_cons, List.flatMap_nil, List.append_nil]
        refine ⟨?_, by rw [List.head?_map, h2]; rfl⟩
        have := run_map x _ _ h1
        rw [he] at this
        rw [he, hS]
        simpa using this
      | cons y q ih =>
        intro x p hS
        have he : S.erase x = p ++ y :: q := by rw [hS, erase_mid (hS ▸ hi)]
        have hle : (S.erase x).length = k := by rw [he]; rw [hS] at hl; simp at hl ⊢; omega
        obtain ⟨h1, h2⟩ := perms_run k (S.erase x) hle (List.Pairwise.sublist (List.erase_sublist) hi)
        obtain ⟨h3, h4⟩ := ih y (p ++ [x]) (by rw [hS]; simp)
        have he2 : S.erase y = p ++ x :: q := by
          have e : S = (p ++ [x]) ++ y :: q := by rw [hS]; simp
          rw [e, erase_mid (e ▸ hi)]; simp
        rw [List.flatMap_cons]
        refine ⟨?_, by rw [List.head?_append, List.head?_map, h2]; rfl⟩
        refine run_append _ (x :: (S.erase x).reverse) _ _ (y :: S.erase y) (run_map x _ _ h1) h4 ?_ h3
        rw [nextL_bump x _ (inc_rev (List.Pairwise.sublist (List.erase_sublist) hi)), he, he2]
        rw [show (p ++ y :: q).reverse = q.reverse ++ y :: p.reverse by simp]
        have hi2 : Inc (p ++ x :: y :: q) := hS ▸ hi
        have hpa := List.pairwise_append.1 hi2
        have hxq := List.pairwise_cons.1 hpa.2.1
        rw [bump_split x y q.reverse p.reverse (fun z hz => hxq.1 z (by simp at hz ⊢; exact Or.inr hz)) (hxq.1 y (by simp)) (fun z hz => by
          have := hpa.2.2 z (by simpa using hz) x (by simp)
          omega)]
        simp
    cases S with
    | nil => simp at hl
    | cons x q =>
      obtain ⟨h1, h2⟩ := key q x [] rfl
      refine ⟨h1, ?_⟩
      rw [List.erase_cons_head] at h2
      exact h2
theorem perms_perm : ∀ (k : Nat) (S : List Nat), S.length = k → ∀ o ∈ perms k S, o.Perm S
  | 0, S, hl, o, ho => by
    have : S = [] := List.eq_nil_of_length_eq_zero hl
    subst this
    rw [perms, List.mem_singleton] at ho
    rw [ho]
  | k + 1, S, hl, o, ho => by
    rw [perms, List.mem_flatMap] at ho
    obtain ⟨x, hx, h2⟩ := ho
    rw [List.mem_map] at h2
    obtain ⟨t, ht, rfl⟩ := h2
    have := perms_perm k (S.erase x) (by rw [List.length_erase_of_mem hx, hl]; rfl) t ht
    exact (this.cons x).trans (List.perm_cons_erase hx).symm

/-- 1, .., n -/
def ones (n : Nat) : List Nat := (List.range n).map (· + 1)
theorem ones_inc (n : Nat) : Inc (ones n) := by
  unfold ones Inc
  rw [List.pairwise_map]
  exact List.pairwise_lt_range.imp (fun h => by omega)
theorem length_ones (n : Nat) : (ones n).length = n := by simp [ones]
theorem mem_ones {n x : Nat} : x ∈ ones n ↔ 1 ≤ x ∧ x ≤ n := by
  unfold ones
  rw [List.mem_map]
  constructor
  · rintro ⟨a, ha, rfl⟩; rw [List.mem_range] at ha; omega
  · intro h; exact ⟨x - 1, by rw [List.mem_range]; omega, by omega⟩
theorem ones_nodup (n : Nat) : (ones n).Nodup := (ones_inc n).imp (fun h => by omega)

/-! ### the search from the front -/
def seenN (l : List Nat) : Nat := (He.seen l).length
def okL (l r : Nat) (o : List Nat) : Bool := decide (seenN o = l) && decide (seenN o.reverse = r)
def lookL (n l r : Nat) : Nat → List Nat → Option (List Nat)
  | 0, b => if l < seenN b then none else if okL l r b then some b else none
  | k + 1, b => if l < seenN b then none else (ones n).findSome? fun h => if b.contains h then none else lookL n l r k (b ++ [h])
theorem mostTo_append (b e : List Nat) : ∀ j, j ≤ b.length → He.mostTo (b ++ e) j = He.mostTo b j
  | 0, _ => rfl
  | j + 1, h => by
    rw [He.mostTo, He.mostTo, mostTo_append b e j (by omega), List.getD_eq_getElem?_getD, List.getElem?_append_left (by omega), ← List.getD_eq_getElem?_getD]
theorem seenTo_append (b e : List Nat) (j : Nat) (h : j ≤ b.length) : He.seenTo (b ++ e) j = He.seenTo b j := by
  unfold He.seenTo
  apply List.filter_congr
  intro i hi
  rw [List.mem_range] at hi
  rw [mostTo_append b e i (by omega), List.getD_eq_getElem?_getD, List.getElem?_append_left (by omega), ← List.getD_eq_getElem?_getD]
theorem seenTo_mono (hs : List Nat) (j : Nat) : ∀ m, (He.seenTo hs j).length ≤ (He.seenTo hs (j + m)).length
  | 0 => Nat.le_refl _
  | m + 1 => by
    refine Nat.le_trans (seenTo_mono hs j m) ?_
    by_cases h : He.mostTo hs (j + m) < hs.getD (j + m) 0
    · rw [show j + (m + 1) = (j + m) + 1 from rfl, He.seenTo_yes hs (j + m) h]; simp
    · rw [show j + (m + 1) = (j + m) + 1 from rfl, He.seenTo_no hs (j + m) h]; exact Nat.le_refl _
theorem seenN_append (b e : List Nat) : seenN b ≤ seenN (b ++ e) := by
  unfold seenN He.seen
  rw [List.length_append, ← seenTo_append b e b.length (Nat.le_refl _)]
  exact seenTo_mono (b ++ e) b.length e.length
theorem findSome_filter {α β : Type} (f : α → Option β) (p : α → Bool) : ∀ L : List α, (L.filter p).findSome? f = L.findSome? (fun x => if p x then f x else none)
  | [] => rfl
  | x :: t => by
    rcases hp : p x with _ | _
    · rw [List.filter_cons_of_neg (by simp [hp]), findSome_filter f p t, List.findSome?_cons, hp]; rfl
    · rw [List.filter_cons_of_pos hp, List.findSome?_cons, List.findSome?_cons, hp, findSome_filter f p t]; rfl
theorem findSome_congr {α β : Type} {f g : α → Option β} : ∀ L : List α, (∀ x ∈ L, f x = g x) → L.findSome? f = L.findSome? g
  | [], _ => rfl
  | x :: t, h => by
    rw [List.findSome?_cons, List.findSome?_cons, h x (by simp), findSome_congr t (fun y hy => h y (by simp [hy]))]
theorem look_perms (n l r : Nat) : ∀ (k : Nat) (b : List Nat), ((ones n).filter (fun h => !b.contains h)).length = k → lookL n l r k b = ((perms k ((ones n).filter (fun h => !b.contains h))).map (b ++ ·)).find? (okL l r) := by
  have prune : ∀ (k : Nat) (b S : List Nat), l < seenN b → ((perms k S).map (b ++ ·)).find? (okL l r) = none := fun k b S h => by
    rw [List.find?_eq_none]
    intro o ho
    rw [List.mem_map] at ho
    obtain ⟨e, _, rfl⟩ := ho
    have := seenN_append b e
    unfold okL
    rw [decide_eq_false (by omega)]
    simp
  intro k
  induction k with
  | zero =>
    intro b _
    rw [lookL]
    by_cases h : l < seenN b
    · rw [if_pos h, prune 0 b _ h]
    · rw [if_neg h, perms, List.map_singleton, List.append_nil]
      rcases hk : okL l r b with _ | _
      · simp [hk]
      · simp [hk]
  | succ k ih =>
    intro b hS
    rw [lookL]
    by_cases h : l < seenN b
    · rw [if_pos h, prune (k + 1) b _ h]
    · rw [if_neg h, perms, List.map_flatMap, List.find?_flatMap, findSome_filter]
      apply findSome_congr
      intro x hx
      rcases hc : b.contains x with _ | _
      · have hmem : x ∈ (ones n).filter (fun h => !b.contains h) := List.mem_filter.2 ⟨hx, by rw [hc]; rfl⟩
        have hnd : ((ones n).filter (fun h => !b.contains h)).Nodup := (ones_nodup n).filter _
        have he : ((ones n).filter (fun h => !b.contains h)).erase x = (ones n).filter (fun h => !(b ++ [x]).contains h) := by
          rw [hnd.erase_eq_filter, List.filter_filter]
          apply List.filter_congr
          intro y _
          have e : (b ++ [x]).contains y = (b.contains y || y == x) := by
            rw [Bool.eq_iff_iff]; simp
          rw [e, Bool.not_or, Bool.and_comm]
          congr 1
        have hlen : ((ones n).filter (fun h => !(b ++ [x]).contains h)).length = k := by rw [← he, List.length_erase_of_mem hmem, hS]; rfl
        rw [if_neg (by simp), if_pos (by simp), ih (b ++ [x]) hlen, he, List.map_map]
        congr 1
        apply List.map_congr_left
        intro t _
        simp
      · rw [if_pos rfl, if_neg (by simp)]
theorem look_top (n l r : Nat) : lookL n l r n [] = (perms n (ones n)).find? (okL l r) := by
  have e : (ones n).filter (fun h => !([] : List Nat).contains h) = ones n := by
    rw [List.filter_eq_self]; intro a _; rfl
  have := look_perms n l r n [] (by rw [e, length_ones])
  rw [e] at this
  rw [this]
  congr 1
  simp
end Pm

end Go.Proofs.Ytkolkigpppfhcaa
