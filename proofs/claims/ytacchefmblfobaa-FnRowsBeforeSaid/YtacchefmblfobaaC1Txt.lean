
/- text: the signs of a troop. -/
import Derived.Test.YtacchefmblfobaaC1Told
import Derived.Test.YtacchefmblfobaaC1Tick
import Derived.Laws.BytesArg
import Derived.WalkSpells
namespace Go.Proofs.Ytacchefmblfobaa.C1
open Go.ChangeShapes Go.WideShapes Go.ChangeAt Go.RowKit

theorem Try.info_u8 : (Try.prog.info? 5).map (fun i => (i.zero, i.size, i.bytes)) = some (some (.int .u8 0), 1, 1) := by kernel_rfl

def sgnI (b : Bool) : Int := if b then 62 else 60
/-- the bytes as far as they have been written -/
def nums (m : List Bool) (k : Nat) : List Int := (m.take k).map sgnI ++ List.replicate (m.length - k) 0
theorem length_nums (m : List Bool) (k : Nat) (hk : k ≤ m.length) : (nums m k).length = m.length := by simp [nums]; omega
theorem nums_succ (m : List Bool) (k : Nat) (hk : k < m.length) (x : Int) (hx : x = sgnI (m.getD k false)) : (nums m k).set k x = nums m (k + 1) := by
  subst hx
  apply List.ext_getElem?
  intro j
  simp only [nums, List.getElem?_set, List.getElem?_append, List.length_map, List.length_take, List.length_append, List.length_replicate, List.getElem?_map, List.getElem?_take, List.getElem?_replicate, List.getD_eq_getElem?_getD]
  by_cases hj : k = j
  · subst hj
    rw [if_pos rfl, if_pos (by omega), if_pos (by omega), if_pos (by omega)]
    simp [hk]
  · rw [if_neg hj]
    by_cases h1 : j < k
    · rw [if_pos (by omega), if_pos (by omega), if_pos (by omega), if_pos (by omega)]
    · rw [if_neg (by omega)]
      by_cases h2 : j < m.length
      · rw [if_pos (by omega), if_neg (by omega), if_pos (by omega)]
      · rw [if_neg (by omega), if_neg (by omega), if_neg (by omega)]
theorem nums_all (m : List Bool) : nums m m.length = m.map sgnI := by simp [nums]
theorem nums_zero (m : List Bool) : nums m 0 = List.replicate m.length 0 := by simp [nums]
theorem str_nums (m : List Bool) : strOfNums (m.map sgnI) = Rw.str m := by
  apply ByteArray.ext
  apply Array.ext'
  rw [strOfNums_data]
  simp only [Rw.str, Rw.txt, List.map_map]
  apply List.map_congr_left
  intro b _
  cases b <;> rfl

/-- block g holds just these bytes -/
def Byt (w : World) (g : Nat) (xs : List Int) : Prop := w.heap[g]? = some (.cells (xs.map (Value.int .u8)).toArray 5 (0, 0))
theorem Byt.cell {w : World} {g : Nat} {xs : List Int} (h : Byt w g xs) (k : Nat) (hk : k < xs.length) : w.cell? ⟨g, k, none⟩ = some (.int .u8 (xs.getD k 0)) := by
  rw [cell_of_row w g _ _ _ _ h]; simp [hk]
theorem Byt.free {w : World} {g : Nat} {xs : List Int} (h : Byt w g xs) (j : Nat) : w.frozen? ⟨g, j, none⟩ = false := frozen_of_row w g j _ _ h
theorem Byt.set {w : World} {g : Nat} {xs : List Int} (h : Byt w g xs) (k : Nat) (x : Int) : Byt (w.setCell ⟨g, k, none⟩ (.int .u8 x)) g (xs.set k x) := by
  unfold Byt
  rw [heap_setCell_same w g k _ _ _ h, List.map_set]
  simp
theorem Byt.alloc {w : World} {g : Nat} {xs : List Int} (h : Byt w g xs) (o : Obj) : Byt (w.alloc o) g xs := by
  unfold Byt
  rw [heap_alloc_old (h := lt_of_block h)]; exact h
theorem byt_twice {w : World} {g : Nat} {xs : List Int} (h : Byt w g xs) (k : Nat) (o : Obj) : Byt (((w.setCell ⟨g, k, none⟩ (.int .u8 60)).setCell ⟨g, k, none⟩ (.int .u8 62)).alloc o) g (xs.set k 62) := by
  have := ((h.set k 60).set k 62).alloc o
  rw [List.set_set] at this
  exact this
theorem byt_of_own {w : World} {B g n : Nat} {xs : List Int} (h : w.ownsRow B 5 1 (.slice (some ⟨g, 0, none⟩) n n) n (xs.map (Value.int .u8))) : Byt w g xs := by
  obtain ⟨_, h2⟩ := h
  rcases h2 with ⟨h0, _⟩ | ⟨g', cap', cur, hv, hg, hh, hn, hcap, hsz, htake⟩
  · cases h0
  · cases hv
    rw [List.take_of_length_le (by rw [Array.length_toList, hsz]; exact Nat.le_refl _)] at htake
    unfold Byt
    rw [hh, ← htake]
theorem made_byt {w w1 : World} {n : Nat} {m : List Bool} (hn : n = m.length) (h : w1.ownsRow w.heap.size 5 1 (.slice (some ⟨w.heap.size, 0, none⟩) n n) n (madeCells #[.int .u8 0] (n * 1)).toList) : Byt w1 w.heap.size (nums m 0) := by
  rw [nums_zero, ← hn]
  rw [Nat.mul_one, toList_madeCells_one] at h
  exact byt_of_own (by rw [List.map_replicate]; exact h)

set_option maxRecDepth 20000 in
set_option maxHeartbeats 2000000 in
theorem text_any (g : Nat) (m : List Bool) (c : List Nat) (h1 : 1 ≤ m.length) (h2 : m.length ≤ 60) (w : World) (hT : Trp w g m c) :
    Calls Try.prog 84 #[.slice (some ⟨g, 0, none⟩) m.length m.length] w fun e w' => e = .returned (.string (Rw.str m)) ∧ Below w.heap.size w w' := by
  obtain ⟨i0, hi, hz0, hz1, hz2⟩ := info_parts Try.info_u8
  have hgl := hT.lt
  have HT := Lib.hid hT
  obtain ⟨n, hn⟩ : ∃ n, n = m.length := ⟨_, rfl⟩
  rw [← hn] at h1 h2 ⊢
  have HN := Lib.hid hn
  clear hn hT
  go_enter Try.func84, Try.ntmps84
  go_wp2_with (at_make; refine wpList_make_full _ rfl _ _ 22 rfl w.heap.size 5 i0 (.int .u8 0) 1 Try.underlying22 hi hz0 hz1 .i64 .i64 _ _ n rfl rfl rfl rfl (by rw [hz2]; omega) (by unfold maxLen; omega) (Nat.le_refl _) ?_; intro w1 hown hgrow)
  have hB0 := made_byt HN.out hown
  have hb0 := below_made hgrow
  clear hown hgrow
  go_loopw [11] (fun i wr => ∃ k : Nat, k ≤ n ∧ i = .int .i64 k ∧ Byt wr w.heap.size (nums m k) ∧ Below w.heap.size w wr) (fun i _ => n - (intOf i).toNat)
  case atStart => exact ⟨0, Nat.zero_le _, rfl, hB0, hb0⟩
  case round =>
    obtain ⟨k, hk, rfl, hY, hB⟩ := hrel
    by_cases hlt : k < n
    · have hTr := HT.out.below hB hgl
      have e1 := hTr.cellB k (by have := HN.out; omega)
      have e2 := hTr.cellI k (by have := HN.out; omega)
      have hnl : (nums m k).length = m.length := length_nums m k (by have := HN.out; omega)
      have e3 := hY.cell k (by have := HN.out; omega)
      have hf := hY.free k
      obtain ⟨b, hb⟩ : ∃ b, b = m.getD k false := ⟨_, rfl⟩
      obtain ⟨x, hx⟩ : ∃ x, x = c.getD k 0 := ⟨_, rfl⟩
      obtain ⟨y, hy⟩ : ∃ y, y = (nums m k).getD k 0 := ⟨_, rfl⟩
      rw [← hb] at e1
      rw [← hx] at e2
      rw [← hy] at e3
      have HY := Lib.hid hY
      have HB := Lib.hid hB
      have HX := Lib.hid (nums_succ m k (by have := HN.out; omega) (sgnI b) (by rw [hb]))
      have hwr := hB.size
      have hgs : w.heap.size < wr.heap.size := lt_of_block hY
      clear hb hx hy hY hB hTr hnl hB0 hb0
      rcases b with _ | _
      · go_wp2
        go_roundw
        case rel => exact ⟨k + 1, by omega, by go_num, by rw [← HX.out]; exact (HY.out.set k 60).alloc _, (HB.out.setCell (Nat.le_refl _) _).alloc (by simp; omega) _⟩
        case measure => simp [intOf]; omega
      · go_wp2
        go_roundw
        case rel => exact ⟨k + 1, by omega, by go_num, by rw [← HX.out]; exact byt_twice HY.out k _, ((HB.out.setCell (Nat.le_refl _) _).setCell (Nat.le_refl _) _).alloc (by simp; omega) _⟩
        case measure => simp [intOf]; omega
    · have hkn : k = m.length := by have := HN.out; omega
      rw [hkn, nums_all] at hY
      have HB := Lib.hid hB
      have hconv := run_convert_bytes_arg (P := Try.prog) wr 22 5 Try.underlying22 Try.underlying5 w.heap.size 0 n n (m.map sgnI) (by rw [List.length_map]; exact HN.out.symm) (fun i hi => by rw [Nat.zero_add]; exact hY.cell i (by rw [List.length_map]; have := HN.out; omega)) 9 Try.underlying9
      rw [str_nums] at hconv
      clear hkn hY hB hB0 hb0
      go_wp2
      go_ret
      exact ⟨rfl, HB.out⟩

end Go.Proofs.Ytacchefmblfobaa.C1
