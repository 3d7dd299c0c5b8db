/- Chapter 6, the program, plain: texts of files joined, cut and read back. -/
import Derived.Test.YtpoceonmlpnhlabDoorFic
import Derived.Test.YtpoceonmlpnhlabDoorTx
import Derived.Lib.Split
import Derived.Lib.SplitLaws
import Derived.Lib.ItoaNum
import Derived.Lib.Join
namespace Go.Proofs.YtpoceonmlpnhlabDoor
open Go.ChangeShapes Go.WideShapes Go.ChangeAt Go.RowKit
open Dr Fi Rd

namespace Fi
theorem digitsF (n : Nat) : Lib.decDigits n = numL n := by
  induction n using Nat.strongRecOn with
  | _ n ih =>
    rw [Lib.decDigits, numL]
    by_cases h : n < 10
    · rw [dif_pos h, dif_pos h]; rfl
    · rw [dif_neg h, dif_neg h, ih (n / 10) (by omega)]; rfl
theorem dataF (a b : ByteArray) : (a ++ b).data.toList = a.data.toList ++ b.data.toList := by rw [ByteArray.data_append, Array.toList_append]
theorem bytesF {a b : ByteArray} (h : a.data.toList = b.data.toList) : a = b := ByteArray.ext (Array.ext' h)
theorem mapDataF {xs ys : List ByteArray} (h : xs.map (·.data.toList) = ys.map (·.data.toList)) : xs = ys :=
  List.map_inj_right (f := fun b : ByteArray => b.data.toList) (fun _ _ e => bytesF e) |>.1 h
theorem emptyF (a : ByteArray) : ByteArray.empty ++ a = a := bytesF (by rw [dataF]; rfl)
/-- a number's text -/
def numT (z : Int) : ByteArray := txt (numL z.toNat)
def segR (r : List Int) (k : Nat) : List ByteArray := (List.range k).map fun j => numT (r.getD j 0)
theorem segR_succ (r : List Int) (k : Nat) : segR r (k + 1) = segR r k ++ [numT (r.getD k 0)] := by unfold segR; rw [List.range_succ, List.map_append]; rfl
theorem length_segR (r : List Int) (k : Nat) : (segR r k).length = k := by unfold segR; rw [List.length_map, List.length_range]
theorem rowT_front (p : ByteArray) (r : List Int) : ∀ k, rowT p r k = p ++ rowT ByteArray.empty r k
  | 0 => bytesF (by rw [dataF]; show p.data.toList = p.data.toList ++ []; simp)
  | k + 1 => by
    rw [rowT, rowT, rowT_front p r k]
    refine bytesF ?_
    split <;> simp
theorem rowT_join (r : List Int) : ∀ k, (rowT ByteArray.empty r (k + 1)).data.toList = Lib.join ((segR r (k + 1)).map (·.data.toList)) [44]
  | 0 => by
    rw [rowT, if_neg (by omega), dataF, segR_succ, List.map_append]
    have e : (rowT ByteArray.empty r 0).data.toList = [] := rfl
    have e2 : (segR r 0).map (·.data.toList) = [] := rfl
    rw [e, e2, List.nil_append, List.nil_append, List.map_cons, List.map_nil, Lib.join_one]
    rfl
  | k + 1 => by
    rw [rowT, if_pos (by omega), dataF, dataF, rowT_join r k, segR_succ r (k + 1), List.map_append, List.map_cons, List.map_nil, Tx.join_snoc _ _ _ (fun e => by
      have := congrArg List.length e
      rw [List.length_map, length_segR] at this
      cases this)]
    rfl
def rowX (r : List Int) : ByteArray := rowT ByteArray.empty r r.length
theorem rowX_join {r : List Int} (h : 1 ≤ r.length) : (rowX r).data.toList = Lib.join ((segR r r.length).map (·.data.toList)) [44] := by
  obtain ⟨k, hk⟩ : ∃ k, r.length = k + 1 := ⟨r.length - 1, by omega⟩
  unfold rowX; rw [hk]; exact rowT_join r k
def segF (zss : List (List Int)) (k : Nat) : List ByteArray := (List.range k).map fun i => rowX (row zss i)
theorem segF_succ (zss : List (List Int)) (k : Nat) : segF zss (k + 1) = segF zss k ++ [rowX (row zss k)] := by unfold segF; rw [List.range_succ, List.map_append]; rfl
theorem length_segF (zss : List (List Int)) (k : Nat) : (segF zss k).length = k := by unfold segF; rw [List.length_map, List.length_range]
theorem fileT_join (zss : List (List Int)) : ∀ k, (fileT zss (k + 1)).data.toList = Lib.join ((segF zss (k + 1)).map (·.data.toList)) [47]
  | 0 => by
    rw [fileT, if_neg (by omega), rowT_front, dataF, segF_succ, List.map_append]
    have e : (fileT zss 0).data.toList = [] := rfl
    have e2 : (segF zss 0).map (·.data.toList) = [] := rfl
    rw [e, e2, List.nil_append, List.nil_append, List.map_cons, List.map_nil, Lib.join_one]
    rfl
  | k + 1 => by
    rw [fileT, if_pos (by omega), rowT_front, dataF, dataF, fileT_join zss k, segF_succ zss (k + 1), List.map_append, List.map_cons, List.map_nil, Tx.join_snoc _ _ _ (fun e => by
      have := congrArg List.length e
      rw [List.length_map, length_segF] at this
      cases this)]
    rfl
theorem file_join {zss : List (List Int)} (h : 1 ≤ zss.length) : (fileText zss).data.toList = Lib.join ((segF zss zss.length).map (·.data.toList)) [47] := by
  obtain ⟨k, hk⟩ : ∃ k, zss.length = k + 1 := ⟨zss.length - 1, by omega⟩
  unfold fileText; rw [hk]; exact fileT_join zss k
theorem segR_get (r : List Int) (n i : Nat) (h : i < (segR r n).length) : (segR r n)[i] = numT (r.getD i 0) := by
  have hi : i < n := by rw [← length_segR r n]; exact h
  refine (List.getElem_eq_iff h).2 ?_
  unfold segR
  rw [List.getElem?_map, List.getElem?_range hi]; rfl
theorem segF_get (zss : List (List Int)) (n i : Nat) (h : i < (segF zss n).length) : (segF zss n)[i] = rowX (row zss i) := by
  have hi : i < n := by rw [← length_segF zss n]; exact h
  refine (List.getElem_eq_iff h).2 ?_
  unfold segF
  rw [List.getElem?_map, List.getElem?_range hi]; rfl
theorem segR_mem {r : List Int} {k : Nat} {t : ByteArray} (h : t ∈ segR r k) : ∃ n, t = txt (numL n) := by
  unfold segR at h
  obtain ⟨i, _, rfl⟩ := List.mem_map.1 h
  exact ⟨_, rfl⟩
theorem no_num {b : UInt8} (hb : b.toNat < 48 ∨ 57 < b.toNat) (r : List Int) (k : Nat) : ∀ y ∈ (segR r k).map (·.data.toList), b ∉ y := by
  intro y hy
  obtain ⟨t, ht, rfl⟩ := List.mem_map.1 hy
  obtain ⟨n, rfl⟩ := segR_mem ht
  exact Tx.dg_mem hb n
theorem tail_mem {sep : List UInt8} {b : UInt8} (hs : b ∉ sep) : ∀ xs : List (List UInt8), (∀ y ∈ xs, b ∉ y) → b ∉ Lib.joinTail sep xs
  | [], _ => by simp [Lib.joinTail]
  | x :: xs, h => by
    have e : Lib.joinTail sep (x :: xs) = sep ++ (x ++ Lib.joinTail sep xs) := by simp [Lib.joinTail]
    rw [e, List.mem_append, List.mem_append]
    rintro (h1 | h1 | h1)
    · exact hs h1
    · exact h x (by simp) h1
    · exact tail_mem hs xs (fun y hy => h y (by simp [hy])) h1
theorem join_mem {sep : List UInt8} {b : UInt8} (hs : b ∉ sep) : ∀ xs : List (List UInt8), xs ≠ [] → (∀ y ∈ xs, b ∉ y) → b ∉ Lib.join xs sep
  | [], h0, _ => absurd rfl h0
  | x :: xs, _, h => by
    rw [Lib.join_cons, List.mem_append]
    rintro (h1 | h1)
    · exact h x (by simp) h1
    · exact tail_mem hs xs (fun y hy => h y (by simp [hy])) h1
theorem segs_ne {r : List Int} {k : Nat} (h : 1 ≤ k) : (segR r k).map (·.data.toList) ≠ [] := fun e => by
  have := congrArg List.length e
  rw [List.length_map, length_segR] at this
  have e0 : ([] : List (List UInt8)).length = 0 := rfl
  omega
theorem segF_ne {zss : List (List Int)} {k : Nat} (h : 1 ≤ k) : (segF zss k).map (·.data.toList) ≠ [] := fun e => by
  have := congrArg List.length e
  rw [List.length_map, length_segF] at this
  have e0 : ([] : List (List UInt8)).length = 0 := rfl
  omega
theorem rowX_no {r : List Int} (h : 1 ≤ r.length) : (47 : UInt8) ∉ (rowX r).data.toList := by
  rw [rowX_join h]
  exact join_mem (by decide) _ (segs_ne h) (no_num (by decide) r _)
theorem segF_no {zss : List (List Int)} {R C : Nat} (g : Fi.Good zss R C) : ∀ y ∈ (segF zss R).map (·.data.toList), (47 : UInt8) ∉ y := by
  intro y hy
  obtain ⟨t, ht, rfl⟩ := List.mem_map.1 hy
  unfold segF at ht
  obtain ⟨i, hi, rfl⟩ := List.mem_map.1 ht
  exact rowX_no (by rw [g.cols i (List.mem_range.1 hi)]; exact g.c1)
theorem size_rowX (r : List Int) : ∀ k, k ≤ (rowT ByteArray.empty r k).size
  | 0 => Nat.zero_le _
  | k + 1 => by
    have ih := size_rowX r k
    have h1 : 1 ≤ (txt (numL (r.getD k 0).toNat)).size := by rw [size_txt]; exact Tx.num_pos _
    rw [rowT, ByteArray.size_append]
    split
    · rw [ByteArray.size_append]; omega
    · omega
theorem size_fileX {zss : List (List Int)} {R C : Nat} (g : Fi.Good zss R C) : ∀ k, k ≤ R → k ≤ (fileT zss k).size
  | 0, _ => Nat.zero_le _
  | k + 1, hk => by
    have ih := size_fileX g k (by omega)
    have h1 := size_rowX (row zss k) (row zss k).length
    have h2 := g.cols k (by omega)
    have h3 := g.c1
    rw [fileT, rowT_front, ByteArray.size_append]
    split
    · rw [ByteArray.size_append]; omega
    · omega
/-! ### what the program cuts and reads -/
def atoiF (l : List UInt8) : Int := match Lib.atoiAll l with | .ok v => v | .syntax => 0 | .range => Lib.atoiSat l
def splF (b : ByteArray) (s : ByteArray) : List ByteArray := Lib.splitB b 0 (min 9 (s.size + 1) - 1) s
def rowGo (t : ByteArray) (k : Nat) : List Int := upTo (fun i => atoiF ((splF ⟨#[44]⟩ t).getD i ByteArray.empty).data.toList) k
def rowG (t : ByteArray) : List Int := rowGo t (splF ⟨#[44]⟩ t).length
def filesGo (s : ByteArray) (k : Nat) : List (List Int) := (List.range k).map fun i => rowG ((splF ⟨#[47]⟩ s).getD i ByteArray.empty)
def filesG (s : ByteArray) : List (List Int) := filesGo s (splF ⟨#[47]⟩ s).length
theorem filesGo_succ (s : ByteArray) (k : Nat) : filesGo s (k + 1) = filesGo s k ++ [rowG ((splF ⟨#[47]⟩ s).getD k ByteArray.empty)] := by unfold filesGo; rw [List.range_succ, List.map_append]; rfl
theorem length_filesGo (s : ByteArray) (k : Nat) : (filesGo s k).length = k := by simp [filesGo]
theorem rowGo_succ (t : ByteArray) (k : Nat) : rowGo t (k + 1) = rowGo t k ++ [atoiF ((splF ⟨#[44]⟩ t).getD k ByteArray.empty).data.toList] := upTo_succ _ _
theorem length_rowGo (t : ByteArray) (k : Nat) : (rowGo t k).length = k := length_upTo _ _
theorem spl_len (b s : ByteArray) : (splF b s).length ≤ 9 := by
  have := Lib.splitB_length_le b 0 (min 9 (s.size + 1) - 1) s
  unfold splF; omega
theorem spl_cap (b s : ByteArray) : (splF b s).length ≤ min 9 (s.size + 1) := by
  have := Lib.splitB_length_le b 0 (min 9 (s.size + 1) - 1) s
  unfold splF; omega
theorem rangeMapF {α β : Type} (l : List α) (d : α) (f : α → β) : ((List.range l.length).map fun i => f (l.getD i d)) = l.map f := by
  refine List.ext_getElem (by rw [List.length_map, List.length_range, List.length_map]) (fun i h1 h2 => ?_)
  rw [List.getElem_map, List.getElem_range, List.getElem_map, List.getD_eq_getElem?_getD, List.getElem?_eq_getElem (by rw [List.length_map] at h2; exact h2)]; rfl
theorem rowG_map (t : ByteArray) : rowG t = (splF ⟨#[44]⟩ t).map fun u => atoiF u.data.toList := rangeMapF _ _ (fun u : ByteArray => atoiF u.data.toList)
theorem filesG_map (s : ByteArray) : filesG s = (splF ⟨#[47]⟩ s).map rowG := rangeMapF _ _ _
theorem rowAll_map (t : ByteArray) : rowAll t = (cutL t 44).map readZ := rangeMapF _ _ _
theorem readF_map (s : ByteArray) : readF s = (cutL s 47).map rowAll := rangeMapF _ _ _
theorem fits_filesG (s : ByteArray) : FitsSS (filesG s) := by
  have hl : (filesG s).length ≤ 9 := by unfold filesG; rw [length_filesGo]; exact spl_len _ _
  have := tot_rows (filesG s) 9 (fun x hx => by
    unfold filesG filesGo at hx
    obtain ⟨i, _, rfl⟩ := List.mem_map.1 hx
    unfold rowG
    rw [length_rowGo]
    exact spl_len _ _) (filesG s).length
  have h2 : (filesG s).length * 9 ≤ 9 * 9 := Nat.mul_le_mul hl (Nat.le_refl _)
  exact ⟨by omega, by unfold total; omega⟩
/-- a row's text is read back -/
theorem row_back {r : List Int} (h1 : 1 ≤ r.length) (h8 : r.length ≤ 8) (hr : ∀ j, j < r.length → 1 ≤ r.getD j 0 ∧ r.getD j 0 ≤ 999) : rowAll (rowX r) = r ∧ rowG (rowX r) = r := by
  have hc : cutL (rowX r) 44 = segR r r.length := by
    refine mapDataF ?_
    rw [Tx.cutL_eq _ 44 (by decide), rowX_join h1]
    exact Tx.pieces_join (segs_ne h1) (no_num (by decide) r _)
  have hs : splF ⟨#[44]⟩ (rowX r) = segR r r.length := by
    refine mapDataF ?_
    have := size_rowX r r.length
    have h9 : r.length ≤ (rowX r).size := this
    unfold splF
    rw [Lib.splitB_data, rowX_join h1]
    exact Tx.split_join (segs_ne h1) (by rw [List.length_map, length_segR]; omega) (no_num (by decide) r _)
  have key : ∀ f : ByteArray → Int, (∀ n : Nat, n < 1000000 → f (txt (numL n)) = (n : Int)) → (segR r r.length).map f = r := fun f hf => by
    refine List.ext_getElem (by rw [List.length_map, length_segR]) (fun i h2 h3 => ?_)
    have hp := hr i h3
    have e : r.getD i 0 = r[i] := by simp [List.getD_eq_getElem?_getD, h3]
    rw [List.getElem_map, segR_get]
    unfold numT
    rw [hf _ (by omega)]
    omega
  have h2 : ∀ n : Nat, n < 1000000 → atoiF (txt (numL n)).data.toList = (n : Int) := fun n hn => by
    unfold atoiF
    have e : (txt (numL n)).data.toList = numL n := by simp [txt]
    rw [e, Tx.atoi_num (by omega)]
  exact ⟨by rw [rowAll_map, hc]; exact key _ (fun n hn => Tx.readZ_num hn), by rw [rowG_map, hs]; exact key (fun u => atoiF u.data.toList) h2⟩
theorem files_back {zss : List (List Int)} {R C : Nat} (g : Fi.Good zss R C) : readF (fileText zss) = zss ∧ filesG (fileText zss) = zss := by
  have hR := g.rows
  have hr1 := g.r1
  have hr8 := g.r8
  have hj := file_join (zss := zss) (by omega)
  rw [hR] at hj
  have hc : cutL (fileText zss) 47 = segF zss R := by
    refine mapDataF ?_
    rw [Tx.cutL_eq _ 47 (by decide), hj]
    exact Tx.pieces_join (segF_ne hr1) (segF_no g)
  have hs : splF ⟨#[47]⟩ (fileText zss) = segF zss R := by
    refine mapDataF ?_
    have h9 : R ≤ (fileText zss).size := by have := size_fileX g R (Nat.le_refl _); unfold fileText; rw [hR]; exact this
    unfold splF
    rw [Lib.splitB_data, hj]
    exact Tx.split_join (segF_ne hr1) (by rw [List.length_map, length_segF]; omega) (segF_no g)
  have key : ∀ f : ByteArray → List Int, (∀ i, i < R → f (rowX (row zss i)) = row zss i) → (segF zss R).map f = zss := fun f hf => by
    refine List.ext_getElem (by rw [List.length_map, length_segF, hR]) (fun i h2 h3 => ?_)
    have e : row zss i = zss[i] := by unfold row; simp [List.getD_eq_getElem?_getD, h3]
    rw [List.getElem_map, segF_get, hf i (by omega), e]
  have hrow := fun i (hi : i < R) => row_back (r := row zss i) (by rw [g.cols i hi]; exact g.c1) (by rw [g.cols i hi]; exact g.c8) (fun j hj => g.get i j hi (by rw [← g.cols i hi]; exact hj))
  exact ⟨by rw [readF_map, hc]; exact key _ (fun i hi => (hrow i hi).1), by rw [filesG_map, hs]; exact key _ (fun i hi => (hrow i hi).2)⟩
theorem fileText_size {zss : List (List Int)} {R C : Nat} (g : Fi.Good zss R C) : (fileText zss).size ≤ 264 := by
  have := size_fileT g R (Nat.le_refl _)
  have := g.r8
  unfold fileText; rw [g.rows]; omega
theorem progF (s : ByteArray) : (goodF (filesG s) && decide (fileText (filesG s) = s)) = parB s ∧ (parB s = true → filesG s = readF s) := by
  rcases ht : parB s with _ | _
  · refine ⟨?_, fun h => by cases h⟩
    rcases hg : goodF (filesG s) with _ | _
    · rfl
    · rw [Bool.true_and]
      refine decide_eq_false fun e => ?_
      have g := good_of hg
      have hb := files_back g
      rw [e] at hb
      have hsz := fileText_size g
      rw [e] at hsz
      have : parB s = true := by
        unfold parB
        rw [hb.1, hg, e, decide_eq_true (show s.size ≤ 300 by omega), decide_eq_true rfl]; rfl
      rw [this] at ht; cases ht
  · have h := ht
    unfold parB at h
    simp only [Bool.and_eq_true, decide_eq_true_eq] at h
    obtain ⟨_, hg, he⟩ := h
    have hb := (files_back (good_of hg)).2
    rw [he] at hb
    rw [hb]
    exact ⟨by rw [hg, he, decide_eq_true rfl]; rfl, fun _ => rfl⟩
theorem strs_neG {q s : ByteArray} (h : ¬ q = s) : (q.toList == s.toList) = false := strs_neF h
theorem spl_size (b s : ByteArray) : ∀ t ∈ splF b s, t.size ≤ s.size := by
  have h : ∀ (k : Nat) (u : ByteArray), ∀ t ∈ Lib.splitB b 0 k u, t.size ≤ u.size := by
    intro k
    induction k with
    | zero => intro u t ht; rw [Lib.splitB, List.mem_singleton] at ht; rw [ht]; exact Nat.le_refl _
    | succ k ih =>
      intro u t ht
      rw [Lib.splitB] at ht
      split at ht
      · rw [List.mem_singleton] at ht; rw [ht]; exact Nat.le_refl _
      · rcases List.mem_cons.1 ht with ht | ht
        · rw [ht, ByteArray.size_extract]; omega
        · have := ih _ t ht
          rw [ByteArray.size_extract] at this; omega
  exact h _ s
/-- the row's text as the library joins it -/
theorem rowX_is {r : List Int} (h : 1 ≤ r.length) : (⟨(Lib.join ((segR r r.length).map (·.data.toList)) (⟨#[44]⟩ : ByteArray).data.toList).toArray⟩ : ByteArray) = rowX r := by
  have e : (⟨#[44]⟩ : ByteArray).data.toList = [44] := rfl
  rw [e, ← rowX_join h]
theorem fileX_is {zss : List (List Int)} (h : 1 ≤ zss.length) : (⟨(Lib.join ((segF zss zss.length).map (·.data.toList)) (⟨#[47]⟩ : ByteArray).data.toList).toArray⟩ : ByteArray) = fileText zss := by
  have e : (⟨#[47]⟩ : ByteArray).data.toList = [47] := rfl
  rw [e, ← file_join h]
end Fi
end Go.Proofs.YtpoceonmlpnhlabDoor
