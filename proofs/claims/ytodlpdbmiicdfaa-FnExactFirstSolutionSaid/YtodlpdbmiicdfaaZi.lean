/- Chapter 9, the program: sureSigns, plain: the signs behind so many rows. -/
import Derived.Test.YtodlpdbmiicdfaaZh
import Derived.Test.YtodlpdbmiicdfaaPzg
import Derived.Lib.ConvBytes
namespace Go.Proofs.Ytodlpdbmiicdfaa
open Go.ChangeShapes Go.WideShapes Go.ChangeAt Go.RowKit
open Pz Tp

namespace Pz
/-- the sign of a place behind the first j rows -/
def sgnAt (M : List (List Bool)) (j k : Nat) : Int := if (M.take j).all (fun m => m.getD k false == (M.getD 0 []).getD k false) then sgnI ((M.getD 0 []).getD k false) else 63
theorem sgnI_inj {a b : Bool} : sgnI a = sgnI b ↔ a = b := by cases a <;> cases b <;> simp [sgnI]
theorem sgnI_ne (a : Bool) : sgnI a ≠ 63 := by cases a <;> simp [sgnI]
theorem sgnAt_one {M : List (List Bool)} (h : 0 < M.length) (k : Nat) : sgnAt M 1 k = sgnI ((M.getD 0 []).getD k false) := by
  unfold sgnAt
  rw [if_pos]
  rcases M with _ | ⟨m, t⟩
  · simp at h
  · simp
theorem sgnAt_succ {M : List (List Bool)} {j k : Nat} (hj : j < M.length) : sgnAt M (j + 1) k = if sgnI ((M.getD j []).getD k false) = sgnAt M j k then sgnAt M j k else 63 := by
  unfold sgnAt
  rw [List.take_succ_eq_append_getElem hj, List.all_append]
  have e : M.getD j [] = M[j] := by rw [List.getD_eq_getElem?_getD, List.getElem?_eq_getElem hj]; rfl
  rw [e]
  rcases h : (M.take j).all (fun m => m.getD k false == (M.getD 0 []).getD k false) with _ | _
  · simp [sgnI_ne]
  · simp only [Bool.true_and, if_true, List.all_cons, List.all_nil, Bool.and_true, beq_iff_eq, sgnI_inj]
def sgs (M : List (List Bool)) (n j : Nat) : List Int := (List.range n).map (sgnAt M j)
theorem sgs_one {M : List (List Bool)} {n : Nat} (h : 0 < M.length) (hl : (M.getD 0 []).length = n) : (M.getD 0 []).map sgnI = sgs M n 1 := by
  unfold sgs
  apply List.ext_getElem?
  intro i
  rw [List.getElem?_map, List.getElem?_map]
  by_cases hi : i < n
  · rw [List.getElem?_range hi, Option.map_some, sgnAt_one h]
    generalize M.getD 0 [] = m at hl
    subst hl
    rw [List.getElem?_eq_getElem hi, List.getD_eq_getElem?_getD, List.getElem?_eq_getElem hi]; rfl
  · rw [List.getElem?_eq_none (by omega), List.getElem?_eq_none (by simp; omega)]; rfl
def mix (M : List (List Bool)) (n j k : Nat) : List Int := (List.range n).map (fun i => if i < k then sgnAt M (j + 1) i else sgnAt M j i)
theorem length_sgs (M : List (List Bool)) (n j : Nat) : (sgs M n j).length = n := by simp [sgs]
theorem length_mix (M : List (List Bool)) (n j k : Nat) : (mix M n j k).length = n := by simp [mix]
theorem mix_zero (M : List (List Bool)) (n j : Nat) : mix M n j 0 = sgs M n j := by simp [mix, sgs]
theorem mix_all (M : List (List Bool)) (n j : Nat) : mix M n j n = sgs M n (j + 1) := by
  unfold mix sgs
  apply List.map_congr_left
  intro i hi
  rw [if_pos (List.mem_range.1 hi)]
theorem getD_mix (M : List (List Bool)) {n j k : Nat} (hk : k < n) : (mix M n j k).getD k 0 = sgnAt M j k := by
  unfold mix
  rw [List.getD_eq_getElem?_getD, List.getElem?_map, List.getElem?_range hk]
  simp
theorem mix_same {M : List (List Bool)} {n j k : Nat} (h : sgnAt M (j + 1) k = sgnAt M j k) : mix M n j (k + 1) = mix M n j k := by
  unfold mix
  apply List.map_congr_left
  intro i _
  by_cases h1 : i < k
  · rw [if_pos (by omega), if_pos h1]
  · by_cases h2 : i = k
    · subst h2; rw [if_pos (by omega), if_neg h1]; exact h
    · rw [if_neg (by omega), if_neg h1]
theorem mix_set {M : List (List Bool)} {n j k : Nat} (hk : k < n) : (mix M n j k).set k (sgnAt M (j + 1) k) = mix M n j (k + 1) := by
  apply List.ext_getElem?
  intro i
  unfold mix
  rw [List.getElem?_set]
  by_cases h1 : k = i
  · subst h1
    rw [if_pos rfl, if_pos (by simp; exact hk), List.getElem?_map, List.getElem?_range hk]
    simp
  · rw [if_neg h1, List.getElem?_map, List.getElem?_map]
    by_cases h2 : i < n
    · rw [List.getElem?_range h2]
      simp only [Option.map_some, Option.some.injEq]
      by_cases h3 : i < k
      · rw [if_pos h3, if_pos (by omega)]
      · rw [if_neg h3, if_neg (by omega)]
    · rw [List.getElem?_eq_none (by simp; omega)]; rfl
/-- what the model says of the signs -/
theorem cut_row {n k : Nat} (hk : k < n) {m : List Bool} (hm : m.length = n) : cutAt (Rw.str m) k = Rw.str [m.getD k false] := str_one m k (by omega)
theorem row_one {a b : Bool} : Rw.str [a] = Rw.str [b] ↔ a = b := ⟨fun h => by have := Rw.str_inj h; simpa using this, fun h => by rw [h]⟩
theorem signAt_is {M : List (List Bool)} {n k : Nat} (h0 : 0 < M.length) (hM : ∀ m ∈ M, m.length = n) (hk : k < n) : signAt (M.map Rw.str) k = strOfNums [sgnAt M M.length k] := by
  rcases M with _ | ⟨m0, t⟩
  · simp at h0
  have hm0 : m0.length = n := hM m0 (.head _)
  have e0 : ((m0 :: t).map Rw.str).getD 0 ByteArray.empty = Rw.str m0 := rfl
  have e1 : ((m0 :: t).getD 0 []) = m0 := rfl
  have es : sameAt ((m0 :: t).map Rw.str) k = (m0 :: t).all (fun m => m.getD k false == m0.getD k false) := by
    unfold sameAt
    rw [e0, List.all_map]
    rw [Bool.eq_iff_iff, List.all_eq_true, List.all_eq_true]
    constructor
    · intro h m hm
      have h2 := h m hm
      simp only [Function.comp, decide_eq_true_eq] at h2
      rw [cut_row hk (hM m hm), cut_row hk hm0, row_one] at h2
      rw [beq_iff_eq]; exact h2
    · intro h m hm
      have h2 := h m hm
      rw [beq_iff_eq] at h2
      simp only [Function.comp, decide_eq_true_eq]
      rw [cut_row hk (hM m hm), cut_row hk hm0, row_one]; exact h2
  unfold signAt sgnAt
  rw [e0, e1, List.take_length, ← es]
  rcases sameAt ((m0 :: t).map Rw.str) k with _ | _
  · rfl
  · simp only [if_true]
    rw [cut_row hk hm0, ← str_nums]; rfl
theorem nums_app (a b : List Int) : strOfNums (a ++ b) = strOfNums a ++ strOfNums b := by
  apply ByteArray.ext
  apply Array.ext'
  simp [strOfNums, ByteArray.data_append]
theorem sure_is {M : List (List Bool)} {n : Nat} (h0 : 0 < M.length) (hM : ∀ m ∈ M, m.length = n) : ∀ k, k ≤ n → sureTo (M.map Rw.str) k = strOfNums ((List.range k).map (sgnAt M M.length))
  | 0, _ => rfl
  | k + 1, h => by
    rw [sureTo, sure_is h0 hM k (by omega), signAt_is h0 hM (by omega), List.range_succ, List.map_append, nums_app]; rfl
/-- the rows of the solutions -/
def solM (n : Nat) (cs : List RClue) : List (List Bool) := (solN n cs (2 ^ n)).map (Rw.make n)
theorem solM_is (n : Nat) (cs : List RClue) : solL n cs = (solM n cs).map Rw.str := by
  unfold solL solTo solM; rw [List.map_map]; rfl
theorem solM_len (n : Nat) (cs : List RClue) : ∀ m ∈ solM n cs, m.length = n := by
  intro m hm
  unfold solM at hm
  obtain ⟨k, _, rfl⟩ := List.mem_map.1 hm
  exact length_make n k
end Pz

/-- a block begins with these bytes, and they may be written -/
structure Sg (w : World) (g : Nat) (xs : List Int) : Prop where
  lt : g < w.heap.size
  cell : ∀ k, k < xs.length → w.cell? ⟨g, k, none⟩ = some (.int .u8 (xs.getD k 0))
  free : ∀ k, k < xs.length → w.frozen? ⟨g, k, none⟩ = false
theorem Sg.of_block {w w' : World} {g : Nat} {xs : List Int} (h : Sg w g xs) (hs : g < w'.heap.size) (e : w'.heap[g]? = w.heap[g]?) : Sg w' g xs :=
  ⟨hs, fun k hk => (World.cell?_of_block (a := ⟨g, k, none⟩) e).trans (h.cell k hk), fun k hk => by simp only [World.frozen?, e]; exact h.free k hk⟩
theorem Sg.below {w w' : World} {C g : Nat} {xs : List Int} (h : Sg w g xs) (hb : Below C w w') (hC : g < C) : Sg w' g xs := h.of_block (by have := h.lt; have := hb.size; omega) (hb.block g hC)
theorem Sg.drewN {w : World} {g : Nat} {xs : List Int} (h : Sg w g xs) (n : Nat) : Sg (w.drewN n) g xs := ⟨h.lt, h.cell, h.free⟩
theorem Sg.set {w : World} {g : Nat} {xs : List Int} (h : Sg w g xs) (k : Nat) (hk : k < xs.length) (x : Int) : Sg (w.setCell ⟨g, k, none⟩ (.int .u8 x)) g (xs.set k x) := by
  refine ⟨by have := h.lt; simpa [World.setCell] using this, fun j hj => ?_, fun j hj => ?_⟩
  · rw [List.length_set] at hj
    rw [getD_set]
    by_cases e : k = j
    · subst e; rw [if_pos ⟨rfl, hj⟩]; exact World.cell?_setCell_same _ _ _ (h.cell k hk)
    · rw [if_neg (fun q => e q.1), World.cell?_setCell_other _ _ _ _ (by intro q; simp only [Addr.mk.injEq] at q; omega)]; exact h.cell j hj
  · rw [List.length_set] at hj
    exact (World.frozen?_setCell _ _ _ _).trans (h.free j hj)
theorem sg_conv (w : World) (e : TypeId) (m : List Bool) : Sg (Lib.bytesWorld w e (Rw.str m)) w.heap.size (m.map sgnI) := by
  refine ⟨by rw [Lib.bytesWorld_size]; omega, fun k hk => ?_, fun k hk => ?_⟩
  · rw [List.length_map] at hk
    rw [Lib.bytesWorld_cell w e _ k (by rw [Rw.size_str]; exact hk)]
    congr 2
    simp only [Rw.str, Rw.txt, List.getD_eq_getElem?_getD, List.getElem?_map, List.getElem?_eq_getElem hk, Option.map_some, Option.getD_some]
    cases m[k] <;> rfl
  · rw [List.length_map] at hk
    simp only [World.frozen?, Lib.bytesWorld_at_new]
    have : k < (Lib.bytesCells w e (Rw.str m)).size := by
      unfold Lib.bytesCells
      rw [Array.size_append, Array.size_map]
      have : (Rw.str m).data.size = m.length := Rw.size_str m
      omega
    simp; omega
theorem below_conv (w : World) (e : TypeId) (s : ByteArray) : Below w.heap.size w (Lib.bytesWorld w e s) := by
  refine ⟨?_, ?_, ?_, by rw [Lib.bytesWorld_size]; omega, fun k hk => Lib.bytesWorld_at_old w e s k hk⟩ <;> rfl

end Go.Proofs.Ytodlpdbmiicdfaa
