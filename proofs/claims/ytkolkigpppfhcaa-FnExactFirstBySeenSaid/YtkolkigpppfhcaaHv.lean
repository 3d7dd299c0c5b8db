/- Heights as a value (the array and the count), AreHeights, heightsOf. -/
import Derived.Test.YtkolkigpppfhcaaAgg
import Derived.Test.YtkolkigpppfhcaaHeSpec2
namespace Go.Proofs.Ytkolkigpppfhcaa
open Go.ChangeShapes Go.WideShapes Go.ChangeAt Go.RowKit

/-- the cells of heights: the heights, zeros up to 40, their number -/
def hc (hs : List Nat) : List Value := (asInts hs).map (Value.int .i64) ++ List.replicate (40 - hs.length) (.int .i64 0) ++ [.int .i64 (hs.length : Nat)]
theorem length_hc (hs : List Nat) (h : hs.length ≤ 40) : (hc hs).length = 41 := by simp [hc, asInts_len]; omega
theorem hc_tall (hs : List Nat) (h : hs.length ≤ 40) (j : Nat) (hj : j < 40) : (hc hs)[j]? = some (.int .i64 (hs.getD j 0 : Nat)) := by
  unfold hc
  rw [List.append_assoc]
  by_cases h1 : j < hs.length
  · rw [List.getElem?_append_left (by simp [asInts_len]; exact h1)]
    simp [asInts, h1]
  · rw [List.getElem?_append_right (by simp [asInts_len]; omega), List.getElem?_append_left (by simp [asInts_len]; omega)]
    rw [List.getElem?_replicate, if_pos (by simp [asInts_len]; omega)]
    simp [List.getD_eq_getElem?_getD, List.getElem?_eq_none (by omega : hs.length ≤ j)]
theorem hc_count (hs : List Nat) (h : hs.length ≤ 40) : (hc hs)[40]? = some (.int .i64 (hs.length : Nat)) := by
  unfold hc
  rw [List.append_assoc, List.getElem?_append_right (by simp [asInts_len]; omega), List.getElem?_append_right (by simp [asInts_len])]
  simp [asInts_len, show 40 - hs.length - (40 - hs.length) = 0 from by omega]
theorem hc_one (hs : List Nat) : ∀ v ∈ hc hs, v.oneCell' = true := by
  intro v hv
  unfold hc at hv
  simp only [List.mem_append, List.mem_map, List.mem_replicate, List.mem_singleton] at hv
  rcases hv with (⟨z, _, rfl⟩ | ⟨_, rfl⟩) | rfl <;> rfl
/-- the count alone -/
def hc0 (n : Nat) : List Value := List.replicate 40 (.int .i64 0) ++ [.int .i64 (n : Nat)]
theorem length_hc0 (n : Nat) : (hc0 n).length = 41 := by simp [hc0]
theorem hc0_one (n : Nat) : ∀ v ∈ hc0 n, v.oneCell' = true := by
  intro v hv
  unfold hc0 at hv
  simp only [List.mem_append, List.mem_replicate, List.mem_singleton] at hv
  rcases hv with ⟨_, rfl⟩ | rfl <;> rfl
theorem splice_hc (hs : List Nat) (h : hs.length ≤ 40) : splice (hc0 hs.length) 0 ((asInts hs).map (Value.int .i64)) = hc hs := by
  unfold splice hc0 hc
  rw [List.take_zero, List.nil_append, List.length_map, asInts_len, Nat.zero_add, List.drop_append_of_le_length (by simpa using h), List.drop_replicate, List.append_assoc]

theorem Try.info_heights : (Try.prog.info? 39).map (fun i => (i.zero, i.size)) = some (some (.agg (hc []).toArray), 41) := by kernel_rfl
theorem built_heights (n : Nat) : Try.prog.built 39 [(1, .int .i64 (n : Nat))] = some (hc0 n).toArray := by kernel_rfl
theorem Try.size_int : (Try.prog.info? 3).map (·.size) = some 1 := by kernel_rfl
theorem Try.size_heights : (Try.prog.info? 39).map (·.size) = some 41 := by kernel_rfl

set_option maxHeartbeats 1000000 in
theorem heightsOf_any (w : World) (a : Option Addr) (len cap : Nat) (hs : List Nat) (hl : len ≤ 40) (hcm : Came w a len (asInts hs)) :
    Calls Try.prog 17 #[.slice a len cap] w fun e w' => e = .returned (.agg (hc hs).toArray) ∧ Below w.heap.size w w' := by
  have HC := Lib.hid hcm
  have HZL : Hid (len = hs.length) := Lib.hid (by rw [← asInts_len]; exact hcm.1.symm)
  clear hcm
  go_enter Try.func17, Try.ntmps17
  go_wp2_with (refine wpList_new 39 rfl rfl _ _ Try.info_heights ?_; intro w1 g1 G1 B1 L1)
  refine ⟨?_⟩
  go_wp2_with (refine wpList_build1 39 _ _ rfl rfl _ (hc0 len) rfl (built_heights len) ?_)
  refine ⟨?_⟩
  go_wp2_with (refine wpList_new 39 rfl rfl _ _ Try.info_heights ?_; intro w2 g2 G2 B2 L2)
  refine ⟨?_⟩
  go_wp2_with (refine wpList_storeAll 39 _ _ rfl rfl g2 _ (hc []) (hc0 len) 41 Try.size_heights rfl rfl B2 (length_hc0 _) (length_hc [] (by simp)) (hc0_one _) ?_; intro w3 B3 L3)
  refine ⟨?_⟩
  have LA : Hid (Below w.heap.size w w2) := L1.out.trans (L2.out.mono L1.out.size)
  have g2l : Hid (w.heap.size ≤ g2) := Lib.hid (by have := G2.out; have := L1.out.size; omega)
  have LB : Hid (Below w.heap.size w w3) := grownBy_below LA.out L3.out (Nat.le_refl _) g2l.out
  have HC3 := Lib.hid (HC.out.below LB.out)
  have HSP : Hid (splice (hc0 len) 0 ((asInts hs).map (Value.int .i64)) = hc hs) := by rw [HZL.out]; exact splice_hc hs (by have := HZL.out; omega)
  go_wp2_with (refine wpList_copyB (.tmp 8) (.tmp 9) 25 25 rfl rfl 3 Try.underlying25 Try.size_int a 40 40 len cap g2 0 rfl rfl (hc0 len) _ B3 ((asInts hs).map (Value.int .i64)) (by rw [List.length_map, asInts_len, ← HZL.out]; exact (Nat.min_eq_left (by omega)).symm) (fun hp => HC3.out.src (by rw [List.length_map, asInts_len, ← HZL.out] at hp; exact hp)) (by rw [List.length_map, asInts_len, ← HZL.out, length_hc0]; omega) (ints_one _) ?_; intro w4 B4 L4)
  refine ⟨?_⟩
  rw [HSP.out] at B4
  have B1' : Hid (Blk w4 g1 39 (hc [])) := Lib.hid (((B1.out.below L2.out B1.out.lt).grown L3.out (fun e => by cases e; have := G2.out; have := B1.out.lt; omega)).grown L4.out (fun e => by cases e; have := G2.out; have := B1.out.lt; omega))
  have LC : Hid (Below w.heap.size w w4) := grownBy_below LB.out L4.out (Nat.le_refl _) g2l.out
  go_wp2_with (refine wpList_loadAll 39 _ rfl rfl g2 _ (hc hs) _ Try.underlying39 rfl 41 Try.size_heights rfl B4 (length_hc hs (by have := HZL.out; omega)) ?_)
  refine ⟨?_⟩
  go_wp2_with (refine wpList_storeAll 39 _ _ rfl rfl g1 _ (hc []) (hc hs) 41 Try.size_heights rfl rfl B1' (length_hc hs (by have := HZL.out; omega)) (length_hc [] (by simp)) (hc_one _) ?_; intro w5 B5 L5)
  refine ⟨?_⟩
  go_wp2
  refine ret_cell 2 39 (by kernel_rfl) g1 _ (hc hs) _ Try.underlying39 rfl 41 Try.size_heights rfl B5.out (length_hc hs (by have := HZL.out; omega)) rfl ?_
  exact ⟨rfl, grownBy_below LC.out L5.out (Nat.le_refl _) (by have := G1.out; omega)⟩

end Go.Proofs.Ytkolkigpppfhcaa
