/- Lists of records as rows of cells: plain facts. -/
import Derived.Test.YtjbomclildkjaaaDoorOwn
import Derived.Laws.MakeOwn
namespace Go.Proofs.YtjbomclildkjaaaDoor
open Go.ChangeShapes Go.WideShapes Go.ChangeAt Go.RowKit

theorem rec_same {w w' : World} {B : Nat} {e : TypeId} {size n : Nat} {v : Value} {xs : List Value} (h : w.ownsRow B e size v n xs) (hk : ∀ k, v.ownBlock = some k → w'.heap[k]? = w.heap[k]?) : w'.ownsRow B e size v n xs := by
  obtain ⟨e0, e1⟩ := h
  refine ⟨e0, ?_⟩
  rcases e1 with e1 | ⟨g, cap, cur, e1, e2, e3, e4⟩
  · exact .inl e1
  · subst e1
    exact .inr ⟨g, cap, cur, rfl, e2, by rw [hk g rfl]; exact e3, e4⟩
theorem flat_len {α : Type} {f : α → List Value} {F : Nat} (hf : ∀ a, (f a).length = F) : ∀ xs : List α, (xs.flatMap f).length = xs.length * F
  | [] => by simp
  | a :: t => by rw [List.flatMap_cons, List.length_append, hf, flat_len hf t, List.length_cons, Nat.succ_mul, Nat.add_comm]
theorem flat_get {α : Type} {f : α → List Value} {F : Nat} (hf : ∀ a, (f a).length = F) (d : α) : ∀ (xs : List α) (k j : Nat), k < xs.length → j < F → (xs.flatMap f)[k * F + j]? = (f (xs.getD k d))[j]?
  | [], k, j, hk, _ => absurd hk (Nat.not_lt_zero _)
  | a :: t, 0, j, _, hj => by
    rw [List.flatMap_cons, Nat.zero_mul, Nat.zero_add, List.getElem?_append_left (by rw [hf]; exact hj)]
    rfl
  | a :: t, k + 1, j, hk, hj => by
    rw [List.flatMap_cons, List.getElem?_append_right (by rw [hf, Nat.succ_mul]; omega), hf, show (k + 1) * F + j - F = k * F + j by rw [Nat.succ_mul]; omega, flat_get hf d t k j (by simpa using hk) hj]
    rfl
theorem flat_set {α : Type} {f : α → List Value} {F : Nat} (hf : ∀ a, (f a).length = F) (d : α) (v : Value) (a' : α) : ∀ (xs : List α) (k j : Nat), k < xs.length → j < F → f a' = (f (xs.getD k d)).set j v → (xs.flatMap f).set (k * F + j) v = (xs.set k a').flatMap f
  | [], k, j, hk, _, _ => absurd hk (Nat.not_lt_zero _)
  | a :: t, 0, j, _, hj, h => by
    rw [List.flatMap_cons, Nat.zero_mul, Nat.zero_add, List.set_append_left _ _ (by rw [hf]; exact hj), List.set_cons_zero, List.flatMap_cons, h]
    rfl
  | a :: t, k + 1, j, hk, hj, h => by
    rw [List.flatMap_cons, List.set_append_right _ _ (by rw [hf, Nat.succ_mul]; omega), hf, show (k + 1) * F + j - F = k * F + j by rw [Nat.succ_mul]; omega, flat_set hf d v a' t k j (by simpa using hk) hj (by rw [h]; rfl), List.set_cons_succ, List.flatMap_cons]
theorem made_flat {α : Type} {f : α → List Value} {F : Nat} (hf : ∀ a, (f a).length = F) (z : α) (n : Nat) (hF : 0 < F) : (madeCells (f z).toArray (n * F)).toList = (List.replicate n z).flatMap f := by
  apply List.ext_getElem?
  intro i
  by_cases hi : i < n * F
  · have hk : i / F < n := Nat.div_lt_of_lt_mul (by rw [Nat.mul_comm]; exact hi)
    have hj := Nat.mod_lt i hF
    have e : i = i / F * F + i % F := by rw [Nat.mul_comm]; exact (Nat.div_add_mod i F).symm
    have h1 : ((List.replicate n z).flatMap f)[i]? = (f z)[i % F]? := by
      rw [e, flat_get hf z _ _ _ (by rw [List.length_replicate]; exact hk) hj]
      congr 2
      simp [List.getD_eq_getElem?_getD, hk]
    rw [h1]
    unfold madeCells
    simp only [Array.toList_map, Array.toList_range, List.getElem?_map, List.getElem?_range hi, Option.map_some, List.size_toArray, hf]
    rw [List.getElem?_eq_getElem (by rw [hf]; exact hj)]
    congr 1
    rw [getElem!_pos (f z).toArray (i % F) (by simpa [hf] using hj)]
    simp
  · rw [List.getElem?_eq_none (by simp [madeCells]; omega), List.getElem?_eq_none (by rw [flat_len hf, List.length_replicate]; omega)]

theorem getD_set_same {α : Type} {l : List α} {k : Nat} (hk : k < l.length) (a d : α) : (l.set k a).getD k d = a := by simp [List.getD_eq_getElem?_getD, hk]
/-- the list as far as it has been copied -/
def copyR {α : Type} (z : α) (ps : List α) (k : Nat) : List α := ps.take k ++ List.replicate (ps.length - k) z
theorem length_copyR {α : Type} (z : α) (ps : List α) (k : Nat) (hk : k ≤ ps.length) : (copyR z ps k).length = ps.length := by simp [copyR]; omega
theorem copyR_zero {α : Type} (z : α) (ps : List α) : copyR z ps 0 = List.replicate ps.length z := by simp [copyR]
theorem copyR_all {α : Type} (z : α) (ps : List α) : copyR z ps ps.length = ps := by simp [copyR]
theorem copyR_succ {α : Type} (z : α) (ps : List α) (k : Nat) (hk : k < ps.length) (x : α) (hx : x = ps.getD k z) : (copyR z ps k).set k x = copyR z ps (k + 1) := by
  subst hx
  unfold copyR
  rw [show ps.length - k = (ps.length - (k + 1)) + 1 by omega, List.replicate_succ, List.set_append_right _ _ (by rw [List.length_take]; omega), List.take_succ_eq_append_getElem hk, List.append_assoc]
  congr 1
  rw [List.length_take, Nat.min_eq_left (by omega), Nat.sub_self, List.set_cons_zero]
  simp [List.getD_eq_getElem?_getD, hk]
/-- the list as far as it has been marked -/
def markedR {α : Type} (mk : Nat → α) (ps : List α) (k : Nat) : List α := (List.range k).map mk ++ ps.drop k
theorem length_markedR {α : Type} (mk : Nat → α) (ps : List α) (k : Nat) (hk : k ≤ ps.length) : (markedR mk ps k).length = ps.length := by simp [markedR]; omega
theorem markedR_zero {α : Type} (mk : Nat → α) (ps : List α) : markedR mk ps 0 = ps := by simp [markedR]
theorem markedR_succ {α : Type} (mk : Nat → α) (ps : List α) (k : Nat) (hk : k < ps.length) (x : α) (hx : x = mk k) : (markedR mk ps k).set k x = markedR mk ps (k + 1) := by
  subst hx
  unfold markedR
  rw [List.drop_eq_getElem_cons hk, List.range_succ, List.map_append, List.append_assoc, List.set_append_right _ _ (by simp), List.length_map, List.length_range, Nat.sub_self, List.set_cons_zero]
  rfl
theorem markedR_all {α : Type} (mk : Nat → α) (ps : List α) : markedR mk ps ps.length = (List.range ps.length).map mk := by simp [markedR]
theorem getD_range {α : Type} (mk : Nat → α) (n k : Nat) (hk : k < n) (d : α) : ((List.range n).map mk).getD k d = mk k := by simp [List.getD_eq_getElem?_getD, hk]
theorem below_drewB {B : Nat} {w0 w w' : World} {n : Nat} (h : Below B w0 w) (hb : Below (w.drewN n).heap.size (w.drewN n) w') (hB : B ≤ w.heap.size) : Below B w0 w' :=
  h.trans ⟨hb.os, hb.tape, hb.output, hb.size, fun k hk => hb.block k (Nat.lt_of_lt_of_le hk hB)⟩

end Go.Proofs.YtjbomclildkjaaaDoor
