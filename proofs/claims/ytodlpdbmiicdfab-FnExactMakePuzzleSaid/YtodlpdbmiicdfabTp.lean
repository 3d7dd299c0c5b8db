/- Chapter 1's troops in a namespace of their own, for later chapters: turn, text, troopOf, how told reads a row. -/
import Derived.Test.YtodlpdbmiicdfabGw
import Derived.Laws.StructEq
import Derived.Deep.RegionHeld3
import Derived.Deep.RegionWith
import Derived.Laws.BytesArg
import Derived.WalkSpells
namespace Go.Proofs.Ytodlpdbmiicdfab
open Go.ChangeShapes Go.WideShapes Go.ChangeAt Go.RowKit
open Rx
namespace Tp
/-- the cells of a troop: each soldier's look, and how often this one has turned -/
def tc : List Bool → List Nat → List Value
  | b :: m, x :: c => .bool b :: .int .i64 (x : Int) :: tc m c
  | _, _ => []
theorem length_tc : ∀ (m : List Bool) (c : List Nat), m.length = c.length → (tc m c).length = m.length * 2
  | [], _, _ => by simp [tc]
  | b :: m, [], h => by simp at h
  | b :: m, x :: c, h => by simp [tc, length_tc m c (by simpa using h)]; omega
theorem tc_b : ∀ (m : List Bool) (c : List Nat) (k : Nat), m.length = c.length → k < m.length → (tc m c)[k * 2]? = some (.bool (m.getD k false))
  | [], _, _, _, h => by simp at h
  | b :: m, [], _, h, _ => by simp at h
  | b :: m, x :: c, 0, _, _ => by simp [tc]
  | b :: m, x :: c, k + 1, h, hk => by
    have := tc_b m c k (by simpa using h) (by simpa using hk)
    rw [show (k + 1) * 2 = k * 2 + 1 + 1 from by omega]
    simpa [tc] using this
theorem tc_i : ∀ (m : List Bool) (c : List Nat) (k : Nat), m.length = c.length → k < m.length → (tc m c)[k * 2 + 1]? = some (.int .i64 (c.getD k 0 : Nat))
  | [], _, _, _, h => by simp at h
  | b :: m, [], _, h, _ => by simp at h
  | b :: m, x :: c, 0, _, _ => by simp [tc]
  | b :: m, x :: c, k + 1, h, hk => by
    have := tc_i m c k (by simpa using h) (by simpa using hk)
    rw [show (k + 1) * 2 + 1 = k * 2 + 1 + 1 + 1 from by omega]
    simpa [tc] using this
theorem tc_set_b : ∀ (m : List Bool) (c : List Nat) (k : Nat) (b : Bool), m.length = c.length → (tc m c).set (k * 2) (.bool b) = tc (m.set k b) c
  | [], _, _, _, _ => by simp [tc]
  | b :: m, [], _, _, h => by simp at h
  | a :: m, x :: c, 0, b, _ => by simp [tc]
  | a :: m, x :: c, k + 1, b, h => by
    have := tc_set_b m c k b (by simpa using h)
    rw [show (k + 1) * 2 = k * 2 + 1 + 1 from by omega]
    simpa [tc] using this
theorem tc_set_i : ∀ (m : List Bool) (c : List Nat) (k x : Nat), m.length = c.length → (tc m c).set (k * 2 + 1) (.int .i64 (x : Int)) = tc m (c.set k x)
  | [], _, _, _, _ => by simp [tc]
  | b :: m, [], _, _, h => by simp at h
  | a :: m, y :: c, 0, x, _ => by simp [tc]
  | a :: m, y :: c, k + 1, x, h => by
    have := tc_set_i m c k x (by simpa using h)
    rw [show (k + 1) * 2 + 1 = k * 2 + 1 + 1 + 1 from by omega]
    simpa [tc] using this

/-- block g holds just this troop -/
def Trp (w : World) (g : Nat) (m : List Bool) (c : List Nat) : Prop := w.heap[g]? = some (.cells (tc m c).toArray 112 (0, 0)) ∧ m.length = c.length

theorem Trp.lt {w : World} {g : Nat} {m : List Bool} {c : List Nat} (h : Trp w g m c) : g < w.heap.size := lt_of_block h.1
theorem Trp.cellB {w : World} {g : Nat} {m : List Bool} {c : List Nat} (h : Trp w g m c) (k : Nat) (hk : k < m.length) : w.cell? ⟨g, k * 2, none⟩ = some (.bool (m.getD k false)) := by
  rw [cell_of_row w g _ _ _ _ h.1]; simpa using tc_b m c k h.2 hk
theorem Trp.cellI {w : World} {g : Nat} {m : List Bool} {c : List Nat} (h : Trp w g m c) (k : Nat) (hk : k < m.length) : w.cell? ⟨g, k * 2 + 1, none⟩ = some (.int .i64 (c.getD k 0 : Nat)) := by
  rw [cell_of_row w g _ _ _ _ h.1]; simpa using tc_i m c k h.2 hk
theorem Trp.free {w : World} {g : Nat} {m : List Bool} {c : List Nat} (h : Trp w g m c) (j : Nat) : w.frozen? ⟨g, j, none⟩ = false := frozen_of_row w g j _ _ h.1
theorem Trp.setB {w : World} {g : Nat} {m : List Bool} {c : List Nat} (h : Trp w g m c) (k : Nat) (b : Bool) : Trp (w.setCell ⟨g, k * 2, none⟩ (.bool b)) g (m.set k b) c := by
  refine ⟨?_, by simpa using h.2⟩
  rw [heap_setCell_same w g (k * 2) _ _ _ h.1, ← tc_set_b m c k b h.2]
  simp
theorem Trp.setI {w : World} {g : Nat} {m : List Bool} {c : List Nat} (h : Trp w g m c) (k x : Nat) : Trp (w.setCell ⟨g, k * 2 + 1, none⟩ (.int .i64 (x : Int))) g m (c.set k x) := by
  refine ⟨?_, by simpa using h.2⟩
  rw [heap_setCell_same w g (k * 2 + 1) _ _ _ h.1, ← tc_set_i m c k x h.2]
  simp
theorem Trp.of_block {w w' : World} {g : Nat} {m : List Bool} {c : List Nat} (h : Trp w g m c) (e : w'.heap[g]? = w.heap[g]?) : Trp w' g m c := ⟨by rw [e]; exact h.1, h.2⟩
theorem Trp.below {w w' : World} {B g : Nat} {m : List Bool} {c : List Nat} (h : Trp w g m c) (hb : Below B w w') (hg : g < B) : Trp w' g m c := h.of_block (hb.block g hg)

theorem byteR {s : ByteArray} {l : List Bool} (h : s = Rw.str l) (k : Nat) (hk : k < s.size) : ((s[k].toNat : Int) == 62) = l.getD k false := by
  subst h
  rw [Rw.str_get _ _ hk]
  cases l.getD k false <;> rfl
set_option maxHeartbeats 400000 in
theorem isRow_any (s : ByteArray) (w : World) (hs : s.size ≤ maxLen) :
    Calls Try.prog 47 #[.string s] w fun e w' => e = .returned (.bool (goodB s)) ∧ w = w' := by
  unfold maxLen at hs
  by_cases hin : 1 ≤ s.size ∧ s.size ≤ 60
  · obtain ⟨i1, i2⟩ := hin
    have b1 : decide ((s.size : Int) < 1) = false := by simp; omega
    have b2 : decide ((60 : Int) < s.size) = false := by simp; omega
    go_enter Try.func47, Try.ntmps47
    go_wp2
    go_loop [14] (fun i => ∃ k : Nat, k ≤ s.size ∧ i = .int .i64 k ∧ goodTo s k) (fun i => s.size - (intOf i).toNat)
    case atStart => exact ⟨0, Nat.zero_le _, rfl, goodTo_zero s⟩
    case round =>
      obtain ⟨k, hk, rfl, hto⟩ := hrel
      have HT := Lib.hid hto
      clear hto
      by_cases hlt : k < s.size
      · by_cases h60 : s[k] = 60
        · have g1 : (s[k].toNat : Int) = 60 := by rw [h60]; rfl
          have g2 : (s[k].toNat : Int) ≤ 60 := by omega
          have g3 : 60 ≤ (s[k].toNat : Int) := by omega
          have H60 := goodTo_succ hlt HT.out (.inl h60)
          have H := Lib.hid H60
          clear g1 h60 H60
          go_wp2
          go_round
          case rel => exact ⟨k + 1, by omega, by go_num, H.out⟩
          case measure => simp [intOf]; omega
        · by_cases h62 : s[k] = 62
          · have g1 : (s[k].toNat : Int) = 62 := by rw [h62]; rfl
            have g2 : ((s[k].toNat : Int) != 60) = true := by simp; omega
            have g3 : ((s[k].toNat : Int) != 62) = false := by simp; omega
            have H60 := goodTo_succ hlt HT.out (.inr h62)
            have H := Lib.hid H60
            clear g1 h60 h62 H60
            go_wp2
            go_round
            case rel => exact ⟨k + 1, by omega, by go_num, H.out⟩
            case measure => simp [intOf]; omega
          · have g1 : ((s[k].toNat : Int) != 60) = true := by
              rw [bne_iff_ne]; intro e; exact h60 (UInt8.toNat_inj.1 (by rw [show (60 : UInt8).toNat = 60 from rfl]; omega))
            have g2 : ((s[k].toNat : Int) != 62) = true := by
              rw [bne_iff_ne]; intro e; exact h62 (UInt8.toNat_inj.1 (by rw [show (62 : UInt8).toNat = 62 from rfl]; omega))
            have H := Lib.hid (goodB_not s k hlt h60 h62)
            clear h60 h62
            go_wp2
            go_ret
            exact ⟨ret_bool H.out.symm, rfl⟩
      · have H := Lib.hid (goodB_of s (by omega) (by omega) (by rw [← (show k = s.size by omega)]; exact HT.out))
        go_wp2
        go_ret
        exact ⟨ret_bool H.out.symm, rfl⟩
  · have H : Hid (goodB s = false) := by
      refine Lib.hid ?_
      unfold goodB; rw [decide_eq_false hin]; rfl
    by_cases h1 : s.size < 1
    · have b1 : decide ((s.size : Int) < 1) = true := by simp; omega
      clear hin
      go_enter Try.func47, Try.ntmps47
      go_wp2
      go_ret
      exact ⟨ret_bool H.out.symm, rfl⟩
    · have b1 : decide ((s.size : Int) < 1) = false := by simp; omega
      have b2 : decide ((60 : Int) < s.size) = true := by simp; omega
      clear hin
      go_enter Try.func47, Try.ntmps47
      go_wp2
      go_ret
      exact ⟨ret_bool H.out.symm, rfl⟩

theorem info_placed : (Try.prog.info? 112).map (fun i => (i.zero, i.size, i.bytes)) = some (some (.agg #[.bool false, .int .i64 0]), 2, 16) := by kernel_rfl

theorem trp_of_own {w : World} {B g n : Nat} {m : List Bool} {c : List Nat} (h : w.ownsRow B 112 2 (.slice (some ⟨g, 0, none⟩) n n) n (tc m c)) (hmc : m.length = c.length) : Trp w g m c := by
  obtain ⟨_, h2⟩ := h
  rcases h2 with ⟨h0, _⟩ | ⟨g', cap', cur, hv, hg, hh, hn, hcap, hsz, htake⟩
  · cases h0
  · cases hv
    rw [List.take_of_length_le (by rw [Array.length_toList, hsz]; exact Nat.le_refl _)] at htake
    refine ⟨?_, hmc⟩
    rw [hh, ← htake]
theorem getD_rep {α : Type} (n j : Nat) (x : α) : (List.replicate n x).getD j x = x := by
  rw [List.getD_eq_getElem?_getD, List.getElem?_replicate]; split <;> rfl
theorem made_tc (n : Nat) : (madeCells #[.bool false, .int .i64 0] (n * 2)).toList = tc (List.replicate n false) (List.replicate n 0) := by
  apply List.ext_getElem?
  intro j
  have hl : (tc (List.replicate n false) (List.replicate n 0)).length = n * 2 := by rw [length_tc _ _ (by simp)]; simp
  by_cases hj : j < n * 2
  · rcases Nat.mod_two_eq_zero_or_one j with h | h
    · have e : j = j / 2 * 2 := by omega
      have := tc_b (List.replicate n false) (List.replicate n 0) (j / 2) (by simp) (by simp; omega)
      rw [← e] at this
      rw [this]
      rw [getD_rep]
      simp [madeCells, hj, h]
    · have e : j = j / 2 * 2 + 1 := by omega
      have := tc_i (List.replicate n false) (List.replicate n 0) (j / 2) (by simp) (by simp; omega)
      rw [← e] at this
      rw [this]
      rw [getD_rep]
      simp [madeCells, hj, h]
  · rw [List.getElem?_eq_none (by rw [Array.length_toList, size_madeCells]; omega), List.getElem?_eq_none (by rw [hl]; omega)]

/-- the row as far as it has been read -/
def seen (l : List Bool) (k : Nat) : List Bool := l.take k ++ List.replicate (l.length - k) false
theorem seen_zero (l : List Bool) : seen l 0 = List.replicate l.length false := by simp [seen]
theorem seen_all (l : List Bool) : seen l l.length = l := by simp [seen]
@[simp] theorem length_seen (l : List Bool) (k : Nat) (hk : k ≤ l.length) : (seen l k).length = l.length := by simp [seen]; omega
theorem seen_succ (l : List Bool) (k : Nat) (hk : k < l.length) : (seen l k).set k (l.getD k false) = seen l (k + 1) := by
  apply List.ext_getElem?
  intro j
  simp only [seen, List.getElem?_set, List.getElem?_append, List.length_take, List.length_append, List.length_replicate, List.getElem?_take, List.getElem?_replicate, List.getD_eq_getElem?_getD]
  by_cases hj : k = j
  · subst hj
    rw [if_pos rfl, if_pos (by omega), if_pos (by omega), if_pos (by omega)]
    simp [hk]
  · rw [if_neg hj]
    by_cases h1 : j < k
    · rw [if_pos (by omega), if_pos (by omega), if_pos (by omega), if_pos (by omega)]
    · rw [if_neg (by omega)]
      by_cases h2 : j < l.length
      · rw [if_pos (by omega), if_neg (by omega), if_pos (by omega)]
      · rw [if_neg (by omega), if_neg (by omega), if_neg (by omega)]
theorem made_trp {w w1 : World} {n : Nat} {l : List Bool} (hn : n = l.length) (h : w1.ownsRow w.heap.size 112 2 (.slice (some ⟨w.heap.size, 0, none⟩) n n) n (madeCells #[.bool false, .int .i64 0] (n * 2)).toList) :
    Trp w1 w.heap.size (seen l 0) (List.replicate l.length 0) := by
  rw [made_tc] at h
  rw [seen_zero, ← hn]
  exact trp_of_own h (by simp)
theorem trp_done {w : World} {g k : Nat} {l : List Bool} {c : List Nat} (hk : k = l.length) (h : Trp w g (seen l k) c) : Trp w g l c := by
  rw [hk, seen_all] at h; exact h
theorem trp_step {wr : World} {g : Nat} {l : List Bool} {k : Nat} {b : Bool} (hk : k < l.length) (hb : b = l.getD k false) (h : Trp wr g (seen l k) (List.replicate l.length 0)) :
    Trp (wr.setCell ⟨g, k * 2, none⟩ (.bool b)) g (seen l (k + 1)) (List.replicate l.length 0) := by
  rw [← seen_succ l k hk, hb]
  exact h.setB k _

theorem turn_any (g k : Nat) (b : Bool) (x : Nat) (hx : x ≤ 1000000000) (w : World) (h1 : w.cell? ⟨g, k * 2, none⟩ = some (.bool b)) (h2 : w.cell? ⟨g, k * 2 + 1, none⟩ = some (.int .i64 (x : Int)))
    (f1 : w.frozen? ⟨g, k * 2, none⟩ = false) (f2 : w.frozen? ⟨g, k * 2 + 1, none⟩ = false) :
    Calls Try.prog 99 #[.pointer (some ⟨g, k * 2, none⟩)] w fun e w' => e = .returned (.tuple #[]) ∧ (w.setCell ⟨g, k * 2, none⟩ (.bool (!b))).setCell ⟨g, k * 2 + 1, none⟩ (.int .i64 ((x + 1 : Nat) : Int)) = w' := by
  go_enter Try.func99, Try.ntmps99
  go_wp2
  go_end0
  exact ⟨rfl, rfl⟩

theorem turn_trp {w : World} {g k : Nat} {m : List Bool} {c : List Nat} (hT : Trp w g m c) (hk : k < m.length) (hc : c.sum ≤ 1000000) :
    Calls Try.prog 99 #[.pointer (some ⟨g, k * 2, none⟩)] w fun e w' => e = .returned (.tuple #[]) ∧ Trp w' g (Rw.flipAt m k) (Rw.inc c k) ∧ w.grownBy w' (some g) := by
  have hx := Rw.getD_le_sum c k
  refine (turn_any g k (m.getD k false) (c.getD k 0) (by omega) w (hT.cellB k hk) (hT.cellI k hk) (hT.free _) (hT.free _)).mono fun e w' ⟨he, hw⟩ => ⟨he, ?_, ?_⟩
  · rw [← hw]; exact (hT.setB k _).setI k _
  · rw [← hw]; exact grownBy_trans (set_grown _ _ _ _) (set_grown _ _ _ _)

theorem info_u8 : (Try.prog.info? 5).map (fun i => (i.zero, i.size, i.bytes)) = some (some (.int .u8 0), 1, 1) := by kernel_rfl

def sgnI (b : Bool) : Int := if b then 62 else 60
/-- the bytes as far as they have been written -/
def nums (m : List Bool) (k : Nat) : List Int := (m.take k).map sgnI ++ List.replicate (m.length - k) 0
theorem length_nums (m : List Bool) (k : Nat) (hk : k ≤ m.length) : (nums m k).length = m.length := by simp [nums]; omega
theorem nums_succ (m : List Bool) (k : Nat) (hk : k < m.length) (x : Int) (hx : x = sgnI (m.getD k false)) : (nums m k).set k x = nums m (k + 1) := by
  subst hx
  apply List.ext_getElem?
  intro j
  simp only [nums, List.getElem?_set, List.getElem?_append, List.length_map, List.length_take, List.length_append, List.length_replicate, List.getElem?_map, List.getElem?_take, List.getElem?_replicate, List.getD_eq_getElem?_getD]
  by_cases hj : k = j
  · subst hj
    rw [if_pos rfl, if_pos (by omega), if_pos (by omega), if_pos (by omega)]
    simp [hk]
  · rw [if_neg hj]
    by_cases h1 : j < k
    · rw [if_pos (by omega), if_pos (by omega), if_pos (by omega), if_pos (by omega)]
    · rw [if_neg (by omega)]
      by_cases h2 : j < m.length
      · rw [if_pos (by omega), if_neg (by omega), if_pos (by omega)]
      · rw [if_neg (by omega), if_neg (by omega), if_neg (by omega)]
theorem nums_all (m : List Bool) : nums m m.length = m.map sgnI := by simp [nums]
theorem nums_zero (m : List Bool) : nums m 0 = List.replicate m.length 0 := by simp [nums]
theorem str_nums (m : List Bool) : strOfNums (m.map sgnI) = Rw.str m := by
  apply ByteArray.ext
  apply Array.ext'
  rw [strOfNums_data]
  simp only [Rw.str, Rw.txt, List.map_map]
  apply List.map_congr_left
  intro b _
  cases b <;> rfl

/-- block g holds just these bytes -/
def Byt (w : World) (g : Nat) (xs : List Int) : Prop := w.heap[g]? = some (.cells (xs.map (Value.int .u8)).toArray 5 (0, 0))
theorem Byt.cell {w : World} {g : Nat} {xs : List Int} (h : Byt w g xs) (k : Nat) (hk : k < xs.length) : w.cell? ⟨g, k, none⟩ = some (.int .u8 (xs.getD k 0)) := by
  rw [cell_of_row w g _ _ _ _ h]; simp [hk]
theorem Byt.free {w : World} {g : Nat} {xs : List Int} (h : Byt w g xs) (j : Nat) : w.frozen? ⟨g, j, none⟩ = false := frozen_of_row w g j _ _ h
theorem Byt.set {w : World} {g : Nat} {xs : List Int} (h : Byt w g xs) (k : Nat) (x : Int) : Byt (w.setCell ⟨g, k, none⟩ (.int .u8 x)) g (xs.set k x) := by
  unfold Byt
  rw [heap_setCell_same w g k _ _ _ h, List.map_set]
  simp
theorem Byt.alloc {w : World} {g : Nat} {xs : List Int} (h : Byt w g xs) (o : Obj) : Byt (w.alloc o) g xs := by
  unfold Byt
  rw [heap_alloc_old (h := lt_of_block h)]; exact h
theorem byt_twice {w : World} {g : Nat} {xs : List Int} (h : Byt w g xs) (k : Nat) (o : Obj) : Byt (((w.setCell ⟨g, k, none⟩ (.int .u8 60)).setCell ⟨g, k, none⟩ (.int .u8 62)).alloc o) g (xs.set k 62) := by
  have := ((h.set k 60).set k 62).alloc o
  rw [List.set_set] at this
  exact this
theorem byt_of_own {w : World} {B g n : Nat} {xs : List Int} (h : w.ownsRow B 5 1 (.slice (some ⟨g, 0, none⟩) n n) n (xs.map (Value.int .u8))) : Byt w g xs := by
  obtain ⟨_, h2⟩ := h
  rcases h2 with ⟨h0, _⟩ | ⟨g', cap', cur, hv, hg, hh, hn, hcap, hsz, htake⟩
  · cases h0
  · cases hv
    rw [List.take_of_length_le (by rw [Array.length_toList, hsz]; exact Nat.le_refl _)] at htake
    unfold Byt
    rw [hh, ← htake]
theorem made_byt {w w1 : World} {n : Nat} {m : List Bool} (hn : n = m.length) (h : w1.ownsRow w.heap.size 5 1 (.slice (some ⟨w.heap.size, 0, none⟩) n n) n (madeCells #[.int .u8 0] (n * 1)).toList) : Byt w1 w.heap.size (nums m 0) := by
  rw [nums_zero, ← hn]
  rw [Nat.mul_one, toList_madeCells_one] at h
  exact byt_of_own (by rw [List.map_replicate]; exact h)

set_option maxHeartbeats 2000000 in
theorem text_any (g : Nat) (m : List Bool) (c : List Nat) (h1 : 1 ≤ m.length) (h2 : m.length ≤ 60) (w : World) (hT : Trp w g m c) :
    Calls Try.prog 85 #[.slice (some ⟨g, 0, none⟩) m.length m.length] w fun e w' => e = .returned (.string (Rw.str m)) ∧ Below w.heap.size w w' := by
  obtain ⟨i0, hi, hz0, hz1, hz2⟩ := info_parts info_u8
  have hgl := hT.lt
  have HT := Lib.hid hT
  obtain ⟨n, hn⟩ : ∃ n, n = m.length := ⟨_, rfl⟩
  rw [← hn] at h1 h2 ⊢
  have HN := Lib.hid hn
  clear hn hT
  go_enter Try.func85, Try.ntmps85
  go_wp2_with (at_make; refine wpList_make_full _ rfl _ _ 113 rfl w.heap.size 5 i0 (.int .u8 0) 1 Try.underlying113 hi hz0 hz1 .i64 .i64 _ _ n rfl rfl rfl rfl (by rw [hz2]; omega) (by unfold maxLen; omega) (Nat.le_refl _) ?_; intro w1 hown hgrow)
  have hB0 := made_byt HN.out hown
  have hb0 := below_made hgrow
  clear hown hgrow
  go_loopw [11] (fun i wr => ∃ k : Nat, k ≤ n ∧ i = .int .i64 k ∧ Byt wr w.heap.size (nums m k) ∧ Below w.heap.size w wr) (fun i _ => n - (intOf i).toNat)
  case atStart => exact ⟨0, Nat.zero_le _, rfl, hB0, hb0⟩
  case round =>
    obtain ⟨k, hk, rfl, hY, hB⟩ := hrel
    by_cases hlt : k < n
    · have hTr := HT.out.below hB hgl
      have e1 := hTr.cellB k (by have := HN.out; omega)
      have e2 := hTr.cellI k (by have := HN.out; omega)
      have hnl : (nums m k).length = m.length := length_nums m k (by have := HN.out; omega)
      have e3 := hY.cell k (by have := HN.out; omega)
      have hf := hY.free k
      obtain ⟨b, hb⟩ : ∃ b, b = m.getD k false := ⟨_, rfl⟩
      obtain ⟨x, hx⟩ : ∃ x, x = c.getD k 0 := ⟨_, rfl⟩
      obtain ⟨y, hy⟩ : ∃ y, y = (nums m k).getD k 0 := ⟨_, rfl⟩
      rw [← hb] at e1
      rw [← hx] at e2
      rw [← hy] at e3
      have HY := Lib.hid hY
      have HB := Lib.hid hB
      have HX := Lib.hid (nums_succ m k (by have := HN.out; omega) (sgnI b) (by rw [hb]))
      have hwr := hB.size
      have hgs : w.heap.size < wr.heap.size := lt_of_block hY
      clear hb hx hy hY hB hTr hnl hB0 hb0
      rcases b with _ | _
      · go_wp2
        go_roundw
        case rel => exact ⟨k + 1, by omega, by go_num, by rw [← HX.out]; exact (HY.out.set k 60).alloc _, (HB.out.setCell (Nat.le_refl _) _).alloc (by simp; omega) _⟩
        case measure => simp [intOf]; omega
      · go_wp2
        go_roundw
        case rel => exact ⟨k + 1, by omega, by go_num, by rw [← HX.out]; exact byt_twice HY.out k _, ((HB.out.setCell (Nat.le_refl _) _).setCell (Nat.le_refl _) _).alloc (by simp; omega) _⟩
        case measure => simp [intOf]; omega
    · have hkn : k = m.length := by have := HN.out; omega
      rw [hkn, nums_all] at hY
      have HB := Lib.hid hB
      have hconv := run_convert_bytes_arg (P := Try.prog) wr 113 5 Try.underlying113 Try.underlying5 w.heap.size 0 n n (m.map sgnI) (by rw [List.length_map]; exact HN.out.symm) (fun i hi => by rw [Nat.zero_add]; exact hY.cell i (by rw [List.length_map]; have := HN.out; omega)) 9 Try.underlying9
      rw [str_nums] at hconv
      clear hkn hY hB hB0 hb0
      go_wp2
      go_ret
      exact ⟨rfl, HB.out⟩

set_option maxHeartbeats 1000000 in
theorem countRows_any (n : Nat) (hn : n ≤ 60) (w : World) :
    Calls Try.prog 83 #[.int .i64 (n : Int)] w fun e w' => e = .returned (.int .i64 (p2w n : Int)) ∧ w = w' := by
  have H := Lib.hid (p2w_wrap n hn)
  go_enter Try.func83, Try.ntmps83
  go_wp2
  go_ret
  exact ⟨ret_int H.out, rfl⟩

/-- the troop of which the soldiers from i on have been placed -/
def laid (i : Nat) (r : List Bool) : List Bool := List.replicate i false ++ r
theorem laid_set (i : Nat) (b : Bool) (r : List Bool) : (laid (i + 1) r).set i b = laid i (b :: r) := by
  unfold laid
  rw [List.replicate_succ', List.append_assoc, List.set_append_right _ _ (by simp)]
  simp

set_option maxHeartbeats 1000000 in
theorem troopOf_any (n k : Nat) (h1 : 1 ≤ n) (hn : n ≤ 60) (hk : k ≤ 4611686018427387904) (w : World) :
    Calls Try.prog 84 #[.int .i64 (n : Int), .int .i64 (k : Int)] w fun e w' => e = .returned (.slice (some ⟨w.heap.size, 0, none⟩) n n) ∧ Trp w' w.heap.size (Rw.make n k) (List.replicate n 0) ∧ Below w.heap.size w w' := by
  obtain ⟨i0, hi, hz0, hz1, hz2⟩ := info_parts info_placed
  go_enter Try.func84, Try.ntmps84
  go_wp2_with (at_make; refine wpList_make_full _ rfl _ _ 98 rfl w.heap.size 112 i0 (.agg #[.bool false, .int .i64 0]) 2 Try.underlying98 hi hz0 hz1 .i64 .i64 _ _ n rfl rfl rfl rfl (by rw [hz2]; omega) (by unfold maxLen; omega) (Nat.le_refl _) ?_; intro w1 hown hgrow)
  have hT0 : Trp w1 w.heap.size (laid n []) (List.replicate n 0) := by
    have h := hown
    rw [show (Value.agg #[.bool false, .int .i64 0]).cells = #[.bool false, .int .i64 0] from rfl, made_tc] at h
    unfold laid; rw [List.append_nil]; exact trp_of_own h (by simp)
  have hb0 := below_made hgrow
  clear hown hgrow
  go_loopw [1, 6] (fun q i wr => ∃ (j kj : Nat) (r : List Bool), j ≤ n ∧ kj ≤ 4611686018427387904 ∧ i = .int .i64 ((j : Int) - 1) ∧ q = .int .i64 (kj : Int) ∧ Rw.make j kj ++ r = Rw.make n k ∧ r.length + j = n ∧ Trp wr w.heap.size (laid j r) (List.replicate n 0) ∧ Below w.heap.size w wr) (fun _ i _ => (intOf i + 1).toNat)
  case atStart => exact ⟨n, k, [], Nat.le_refl _, hk, rfl, rfl, List.append_nil _, by simp, hT0, hb0⟩
  case round =>
    obtain ⟨j, kj, r, hj, hkj, rfl, rfl, hm, hl, hT, hB⟩ := hrel
    have HM := Lib.hid hm
    have HB := Lib.hid hB
    clear hm hT0 hb0
    rcases j with _ | j
    · have H1 : Hid (Trp wr w.heap.size (Rw.make n k) (List.replicate n 0)) := by rw [← HM.out]; exact hT
      clear hT hB
      go_wp2
      go_ret
      exact ⟨rfl, H1.out, HB.out⟩
    · have HN : Hid (Rw.make j (kj / 2) ++ (kj % 2 == 1) :: r = Rw.make n k) := by rw [make_moreW]; exact HM.out
      have hll : (laid (j + 1) r).length = n := by simp [laid]; omega
      have e1 := hT.cellB j (by omega)
      have f1 := hT.free (j * 2)
      obtain ⟨b0, hb⟩ : ∃ b, b = (laid (j + 1) r).getD j false := ⟨_, rfl⟩
      rw [← hb] at e1
      have HT : Hid (∀ b, Trp (wr.setCell ⟨w.heap.size, j * 2, none⟩ (.bool b)) w.heap.size (laid j (b :: r)) (List.replicate n 0)) := by
        refine Lib.hid (fun b => ?_)
        rw [← laid_set]; exact hT.setB j b
      have HB2 : Hid (∀ b, Below w.heap.size w (wr.setCell ⟨w.heap.size, j * 2, none⟩ (.bool b))) := Lib.hid (fun b => hB.setCell (Nat.le_refl _) _)
      have ej : ((j + 1 : Nat) : Int) - 1 = (j : Int) := by omega
      have hjn : j < n := by omega
      rw [ej]
      clear hb hT hB ej hll
      rcases Nat.mod_two_eq_zero_or_one kj with h2 | h2
      · have HE : Hid ((kj % 2 == 1) = false) := by rw [h2]; rfl
        have h3 : (kj : Int) % 2 = 0 := by omega
        have h4 : ((kj : Int) % 2 == 1) = false := by rw [h3]; rfl
        clear h2 h3
        go_wp2
        go_roundw
        case rel => exact ⟨j, kj / 2, _, by omega, by omega, rfl, int_eqW (by omega), HN.out, by simp; omega, by rw [HE.out]; exact HT.out false, HB2.out false⟩
        case measure => simp [intOf]
      · have HE : Hid ((kj % 2 == 1) = true) := by rw [h2]; rfl
        have h3 : (kj : Int) % 2 = 1 := by omega
        have h4 : ((kj : Int) % 2 == 1) = true := by rw [h3]; rfl
        clear h2 h3
        go_wp2
        go_roundw
        case rel => exact ⟨j, kj / 2, _, by omega, by omega, rfl, int_eqW (by omega), HN.out, by simp; omega, by rw [HE.out]; exact HT.out true, HB2.out true⟩
        case measure => simp [intOf]

/-- the troop of which the first k have turned -/
def flipTo (m : List Bool) (k : Nat) : List Bool := (m.take k).map (!·) ++ m.drop k
theorem length_flipTo (m : List Bool) (k : Nat) : (flipTo m k).length = m.length := by simp [flipTo]; omega
theorem flipTo_succ : ∀ (m : List Bool) (k : Nat), k < m.length → Rw.flipAt (flipTo m k) k = flipTo m (k + 1)
  | [], k, h => by simp at h
  | a :: m, 0, _ => by simp [flipTo, Rw.flipAt]
  | a :: m, k + 1, h => by
    have := flipTo_succ m k (by simpa using h)
    simp only [flipTo, Rw.flipAt, List.take_succ_cons, List.drop_succ_cons, List.map_cons, List.cons_append, List.set_cons_succ, List.getD_cons_succ] at this ⊢
    rw [this]
theorem flipTo_all (m : List Bool) : flipTo m m.length = m.map (!·) := by simp [flipTo]

end Tp
end Go.Proofs.Ytodlpdbmiicdfab
