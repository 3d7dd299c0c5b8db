
/- The verifier's markText, eqStringS, markStringS and heldStringS at slices that a call made. -/
import Derived.Test.YtacchefmblfobaaC1Slices
import Derived.Test.YtacchefmblfobaaC1Troop
import Derived.Deep.RegionHeld3
import Derived.Laws.BytesArg
namespace Go.Proofs.Ytacchefmblfobaa.C1
open Go.ChangeShapes Go.WideShapes Go.ChangeAt Go.RowKit

theorem Try.info_string : (Try.prog.info? 9).map (fun i => (i.zero, i.size, i.bytes)) = some (some (.string ByteArray.empty), 1, 16) := by kernel_rfl

/-- v is a slice of these texts, in memory from B on that a call made -/
def OwnS (w : World) (B : Nat) (v : Value) (zs : List ByteArray) : Prop := w.ownsRow B 9 1 v zs.length (zs.map Value.string)
theorem OwnS.shape {w : World} {B : Nat} {v : Value} {zs : List ByteArray} (h : OwnS w B v zs) :
    (v = .slice none 0 0 ∧ zs.length = 0) ∨ ∃ g cap, v = .slice (some ⟨g, 0, none⟩) zs.length cap ∧ B ≤ g ∧ g < w.heap.size := by
  rcases h.2 with ⟨h1, h2⟩ | ⟨g, cap, cur, hv, hg, hh, _⟩
  · exact .inl ⟨h1, h2⟩
  · exact .inr ⟨g, cap, hv, hg, lt_of_block hh⟩
theorem OwnS.any {w : World} {B : Nat} {v : Value} {zs : List ByteArray} (h : OwnS w B v zs) : ∃ ao cap, v = .slice ao zs.length cap := by
  rcases h.shape with ⟨h1, h2⟩ | ⟨g, cap, h1, _⟩
  · exact ⟨none, 0, by rw [h1, h2]⟩
  · exact ⟨_, _, h1⟩
theorem OwnS.point {w : World} {B : Nat} {v : Value} {zs : List ByteArray} (h : OwnS w B v zs) (hn : 0 < zs.length) : ∃ g cap, v = .slice (some ⟨g, 0, none⟩) zs.length cap ∧ B ≤ g ∧ g < w.heap.size := by
  rcases h.shape with ⟨_, h2⟩ | h1
  · omega
  · exact h1
theorem OwnS.cell {w : World} {B g cap n : Nat} {zs : List ByteArray} (h : OwnS w B (.slice (some ⟨g, 0, none⟩) n cap) zs) (hn : n = zs.length) (j : Nat) (hj : j < zs.length) : w.cell? ⟨g, j, none⟩ = some (.string (zs.getD j ByteArray.empty)) := by
  subst hn
  unfold OwnS at h
  rw [h.cellAt j (by omega)]
  simp [hj]
theorem OwnS.free {w : World} {B g cap n : Nat} {zs : List ByteArray} (h : OwnS w B (.slice (some ⟨g, 0, none⟩) n cap) zs) (hn : n = zs.length) (j : Nat) : w.frozen? ⟨g, j, none⟩ = false := by
  subst hn
  unfold OwnS at h
  exact h.frozenAt j
theorem OwnS.below {w w' : World} {B C : Nat} {v : Value} {zs : List ByteArray} (h : OwnS w B v zs) (hb : Below C w w') (hC : w.heap.size ≤ C) : OwnS w' B v zs := by
  unfold OwnS at h ⊢
  exact h.kept (row := none) ⟨hb.os, hb.tape, hb.output, hb.size, fun k hk _ => hb.block k (by omega)⟩ (by cases v.ownBlock <;> simp)
theorem OwnS.grown {w w' : World} {B : Nat} {v : Value} {zs : List ByteArray} {r : Option Nat} (h : OwnS w B v zs) (hg : w.grownBy w' r) (hr : ∀ k, r = some k → w.heap.size ≤ k ∨ v.ownBlock ≠ some k) : OwnS w' B v zs := by
  unfold OwnS at h ⊢
  refine h.kept hg ?_
  rcases hv : v.ownBlock with _ | b
  · exact .inl rfl
  · refine .inr (fun e => ?_)
    rcases hr b e.symm with h1 | h1
    · have := (World.ownsRow.lt h b hv).2; omega
    · exact h1 hv
theorem OwnS.set {w : World} {B g cap n : Nat} {zs : List ByteArray} (h : OwnS w B (.slice (some ⟨g, 0, none⟩) n cap) zs) (hn : n = zs.length) (j : Nat) (z : ByteArray) : OwnS (w.setCell ⟨g, j, none⟩ (.string z)) B (.slice (some ⟨g, 0, none⟩) n cap) (zs.set j z) := by
  subst hn
  unfold OwnS at h ⊢
  rw [List.length_set, List.map_set]
  exact (h.stored j _).1
theorem ownS_nil (w : World) (B : Nat) : OwnS w B (.slice none 0 0) [] := World.ownsRow_nil _ _ _ _
theorem OwnS.mono {w : World} {B B' : Nat} {v : Value} {zs : List ByteArray} (h : OwnS w B v zs) (hb : B' ≤ B) : OwnS w B' v zs := by
  unfold OwnS at h ⊢
  refine ⟨h.1, ?_⟩
  rcases h.2 with h2 | ⟨g, cap, cur, a, b, r⟩
  · exact .inl h2
  · exact .inr ⟨g, cap, cur, a, Nat.le_trans hb b, r⟩

/-- a number's digits -/
def digits : Nat → Nat → List Int
  | 0, _ => []
  | f + 1, k => if k = 0 then [] else digits f (k / 10) ++ [48 + ((k % 10 : Nat) : Int)]
def markOf (k : Nat) : ByteArray := strOfNums (109 :: digits k k)
theorem digits_more : ∀ (f k : Nat) (r : List Int), 0 < k → digits f (k / 10) ++ ((48 + ((k % 10 : Nat) : Int)) :: r) = digits (f + 1) k ++ r := by
  intro f k r hk
  rw [digits, if_neg (by omega), List.append_assoc]; rfl
theorem digits_fuel : ∀ (f g k : Nat), k ≤ f → k ≤ g → digits f k = digits g k := by
  intro f
  induction f with
  | zero =>
    intro g k h1 h2
    obtain rfl : k = 0 := by omega
    cases g with
    | zero => rfl
    | succ g => rw [digits, digits, if_pos rfl]
  | succ f ih =>
    intro g k h1 h2
    by_cases hk : k = 0
    · subst hk
      cases g with
      | zero => rw [digits, digits, if_pos rfl]
      | succ g => rw [digits, digits, if_pos rfl, if_pos rfl]
    · cases g with
      | zero => omega
      | succ g => rw [digits, digits, if_neg hk, if_neg hk, ih g (k / 10) (by omega) (by omega)]
theorem digits_step (k : Nat) (hk : 0 < k) (r : List Int) : digits (k / 10) (k / 10) ++ ((48 + ((k % 10 : Nat) : Int)) :: r) = digits k k ++ r := by
  obtain ⟨f, rfl⟩ : ∃ f, k = f + 1 := ⟨k - 1, by omega⟩
  rw [digits_fuel ((f + 1) / 10) f _ (by omega) (by omega)]
  exact digits_more f (f + 1) r hk
theorem strOfNums_append (a b : List Int) : strOfNums a ++ strOfNums b = strOfNums (a ++ b) := by
  apply ByteArray.ext
  apply Array.ext'
  simp [strOfNums, ByteArray.data_append]
@[simp] theorem size_strOfNums (a : List Int) : (strOfNums a).size = a.length := strOfNums_size a
theorem str_cons {x : Int} {o : ByteArray} {r : List Int} (ho : o = strOfNums r) : Value.string (strOfNums [x] ++ o) = .string (strOfNums (x :: r)) := by
  rw [ho, strOfNums_append]; rfl
theorem digits_len : ∀ (f k : Nat), (digits f k).length ≤ f
  | 0, _ => by simp [digits]
  | f + 1, k => by
    rw [digits]
    split
    · simp
    · have := digits_len f (k / 10)
      simp; omega

/-- the texts of the marks from k0 on -/
def marksS (k0 n : Nat) : List ByteArray := (List.range n).map fun i => markOf (k0 + i)
@[simp] theorem length_marksS (k0 n : Nat) : (marksS k0 n).length = n := by simp [marksS]
theorem getD_marksS (k0 n j : Nat) (hj : j < n) : (marksS k0 n).getD j ByteArray.empty = markOf (k0 + j) := by simp [marksS, List.getD_eq_getElem?_getD, hj]
def markedS (zs : List ByteArray) (k0 j : Nat) : List ByteArray := (List.range j).map (fun i => markOf (k0 + i)) ++ zs.drop j
theorem length_markedS (zs : List ByteArray) (k0 j : Nat) (hj : j ≤ zs.length) : (markedS zs k0 j).length = zs.length := by simp [markedS]; omega
theorem markedS_zero (zs : List ByteArray) (k0 : Nat) : markedS zs k0 0 = zs := by simp [markedS]
theorem markedS_succ (zs : List ByteArray) (k0 j : Nat) (hj : j < zs.length) : (markedS zs k0 j).set j (markOf (k0 + j)) = markedS zs k0 (j + 1) := by
  unfold markedS
  rw [List.drop_eq_getElem_cons hj, List.range_succ, List.map_append, List.append_assoc, List.set_append_right _ _ (by simp), List.length_map, List.length_range, Nat.sub_self, List.set_cons_zero]
  rfl
theorem markedS_all (zs : List ByteArray) (k0 : Nat) : markedS zs k0 zs.length = marksS k0 zs.length := by simp [markedS, marksS]
theorem sizeOf_mark (k : Nat) (hk : k ≤ 1000000) : (markOf k).size ≤ 1000001 := by
  unfold markOf
  rw [size_strOfNums]
  have := digits_len k k
  simp only [List.length_cons]; omega

theorem keep_one {w w' : World} {g a : Nat} {x : Value} (hb : Below w.heap.size w w') (hg : g < w.heap.size) (h : w.cell? ⟨g, a, none⟩ = some x) : w'.cell? ⟨g, a, none⟩ = some x := (hb.cell (p := ⟨g, a, none⟩) hg).trans h

end Go.Proofs.Ytacchefmblfobaa.C1
