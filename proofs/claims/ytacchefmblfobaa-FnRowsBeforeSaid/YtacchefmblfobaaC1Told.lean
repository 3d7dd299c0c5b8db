
/- told: what a method of troops tells of a row, and that it fails if the text is none; for each method by its own contract. -/
import Derived.Test.YtacchefmblfobaaC1Troop
namespace Go.Proofs.Ytacchefmblfobaa.C1
open Go.ChangeShapes Go.WideShapes Go.ChangeAt Go.RowKit

theorem Try.info_placed : (Try.prog.info? 94).map (fun i => (i.zero, i.size, i.bytes)) = some (some (.agg #[.bool false, .int .i64 0]), 2, 16) := by kernel_rfl

theorem trp_of_own {w : World} {B g n : Nat} {m : List Bool} {c : List Nat} (h : w.ownsRow B 94 2 (.slice (some ⟨g, 0, none⟩) n n) n (tc m c)) (hmc : m.length = c.length) : Trp w g m c := by
  obtain ⟨_, h2⟩ := h
  rcases h2 with ⟨h0, _⟩ | ⟨g', cap', cur, hv, hg, hh, hn, hcap, hsz, htake⟩
  · cases h0
  · cases hv
    rw [List.take_of_length_le (by rw [Array.length_toList, hsz]; exact Nat.le_refl _)] at htake
    refine ⟨?_, hmc⟩
    rw [hh, ← htake]
theorem getD_rep {α : Type} (n j : Nat) (x : α) : (List.replicate n x).getD j x = x := by
  rw [List.getD_eq_getElem?_getD, List.getElem?_replicate]; split <;> rfl
theorem made_tc (n : Nat) : (madeCells #[.bool false, .int .i64 0] (n * 2)).toList = tc (List.replicate n false) (List.replicate n 0) := by
  apply List.ext_getElem?
  intro j
  have hl : (tc (List.replicate n false) (List.replicate n 0)).length = n * 2 := by rw [length_tc _ _ (by simp)]; simp
  by_cases hj : j < n * 2
  · rcases Nat.mod_two_eq_zero_or_one j with h | h
    · have e : j = j / 2 * 2 := by omega
      have := tc_b (List.replicate n false) (List.replicate n 0) (j / 2) (by simp) (by simp; omega)
      rw [← e] at this
      rw [this]
      rw [getD_rep]
      simp [madeCells, hj, h]
    · have e : j = j / 2 * 2 + 1 := by omega
      have := tc_i (List.replicate n false) (List.replicate n 0) (j / 2) (by simp) (by simp; omega)
      rw [← e] at this
      rw [this]
      rw [getD_rep]
      simp [madeCells, hj, h]
  · rw [List.getElem?_eq_none (by rw [Array.length_toList, size_madeCells]; omega), List.getElem?_eq_none (by rw [hl]; omega)]

theorem below_made {w w1 : World} (h : w.grownBy w1 none) : Below w.heap.size w w1 := ⟨h.os, h.tape, h.output, h.size, fun k hk => h.block k hk (by simp)⟩

/-- the row as far as it has been read -/
def seen (l : List Bool) (k : Nat) : List Bool := l.take k ++ List.replicate (l.length - k) false
theorem seen_zero (l : List Bool) : seen l 0 = List.replicate l.length false := by simp [seen]
theorem seen_all (l : List Bool) : seen l l.length = l := by simp [seen]
@[simp] theorem length_seen (l : List Bool) (k : Nat) (hk : k ≤ l.length) : (seen l k).length = l.length := by simp [seen]; omega
theorem seen_succ (l : List Bool) (k : Nat) (hk : k < l.length) : (seen l k).set k (l.getD k false) = seen l (k + 1) := by
  apply List.ext_getElem?
  intro j
  simp only [seen, List.getElem?_set, List.getElem?_append, List.length_take, List.length_append, List.length_replicate, List.getElem?_take, List.getElem?_replicate, List.getD_eq_getElem?_getD]
  by_cases hj : k = j
  · subst hj
    rw [if_pos rfl, if_pos (by omega), if_pos (by omega), if_pos (by omega)]
    simp [hk]
  · rw [if_neg hj]
    by_cases h1 : j < k
    · rw [if_pos (by omega), if_pos (by omega), if_pos (by omega), if_pos (by omega)]
    · rw [if_neg (by omega)]
      by_cases h2 : j < l.length
      · rw [if_pos (by omega), if_neg (by omega), if_pos (by omega)]
      · rw [if_neg (by omega), if_neg (by omega), if_neg (by omega)]
theorem made_trp {w w1 : World} {n : Nat} {l : List Bool} (hn : n = l.length) (h : w1.ownsRow w.heap.size 94 2 (.slice (some ⟨w.heap.size, 0, none⟩) n n) n (madeCells #[.bool false, .int .i64 0] (n * 2)).toList) :
    Trp w1 w.heap.size (seen l 0) (List.replicate l.length 0) := by
  rw [made_tc] at h
  rw [seen_zero, ← hn]
  exact trp_of_own h (by simp)
theorem trp_done {w : World} {g k : Nat} {l : List Bool} {c : List Nat} (hk : k = l.length) (h : Trp w g (seen l k) c) : Trp w g l c := by
  rw [hk, seen_all] at h; exact h
theorem trp_step {wr : World} {g : Nat} {l : List Bool} {k : Nat} {b : Bool} (hk : k < l.length) (hb : b = l.getD k false) (h : Trp wr g (seen l k) (List.replicate l.length 0)) :
    Trp (wr.setCell ⟨g, k * 2, none⟩ (.bool b)) g (seen l (k + 1)) (List.replicate l.length 0) := by
  rw [← seen_succ l k hk, hb]
  exact h.setB k _

set_option maxRecDepth 20000 in
set_option maxHeartbeats 1000000 in
theorem told_pairs_no (s : ByteArray) (hs : s.size ≤ maxLen) (hg : goodB s = false) (w : World) :
    Calls Try.prog 72 #[.string s, .func (.func 74) #[] #[]] w fun e w' => e = .returned (.tuple #[.slice none 0 0, .bool false]) ∧ w = w' := by
  go_enter Try.func72, Try.ntmps72
  go_wp2_with (go_at_call 28; refine (isRow_any _ _ hs).mono ?_; rintro e w' ⟨rfl, rfl⟩)
  go_ret2
  exact ⟨rfl, rfl⟩
set_option maxRecDepth 20000 in
set_option maxHeartbeats 1000000 in
theorem told_pairs (l : List Bool) (h1 : 1 ≤ l.length) (h2 : l.length ≤ 60) (w : World) (Q : Value → World → Prop)
    (hm : ∀ (w2 : World) (g : Nat), Below w.heap.size w w2 → w.heap.size ≤ g → Trp w2 g l (List.replicate l.length 0) →
      Calls Try.prog 74 #[.slice (some ⟨g, 0, none⟩) l.length l.length] w2 fun e w' => ∃ v, e = .returned v ∧ Q v w') :
    Calls Try.prog 72 #[.string (Rw.str l), .func (.func 74) #[] #[]] w fun e w' => ∃ v, e = .returned (.tuple #[v, .bool true]) ∧ Q v w' := by
  obtain ⟨i0, hi, hz0, hz1, hz2⟩ := info_parts Try.info_placed
  have hsz : (Rw.str l).size = l.length := Rw.size_str l
  have hgood := goodB_str h1 h2
  obtain ⟨s, hs⟩ : ∃ s, s = Rw.str l := ⟨_, rfl⟩
  obtain ⟨n, hn⟩ : ∃ n, n = s.size := ⟨_, rfl⟩
  rw [← hs] at hsz hgood ⊢
  have HS := Lib.hid hs
  rw [← hsz] at h1 h2 hm
  have HM := Lib.hid hm
  have HZ := Lib.hid hsz
  have hml : s.size ≤ maxLen := by unfold maxLen; omega
  clear hs hsz hm
  go_enter Try.func72, Try.ntmps72
  go_wp2_with (first | (go_at_call 28; refine (isRow_any _ _ hml).mono ?_; rintro e w' ⟨rfl, rfl⟩) | (at_make; refine wpList_make_full _ rfl _ _ 60 rfl w.heap.size 94 i0 (.agg #[.bool false, .int .i64 0]) 2 Try.underlying60 hi hz0 hz1 .i64 .i64 _ _ s.size rfl rfl rfl rfl (by rw [hz2]; omega) (by unfold maxLen; omega) (Nat.le_refl _) ?_; intro w1 hown hgrow))
  have hT0 := made_trp HZ.out hown
  have hb0 := below_made hgrow
  have hg0 : w.heap.size < w1.heap.size := hT0.lt
  clear hown hgrow
  go_loopw [18] (fun i wr => ∃ k : Nat, k ≤ s.size ∧ i = .int .i64 k ∧ Trp wr w.heap.size (seen l k) (List.replicate l.length 0) ∧ Below w.heap.size w wr)
    (fun i _ => s.size - (intOf i).toNat)
  case atStart => exact ⟨0, Nat.zero_le _, rfl, hT0, hb0⟩
  case round =>
    obtain ⟨k, hk, rfl, hT, hb⟩ := hrel
    by_cases hlt : k < s.size
    · have e1 := byteR HS.out k hlt
      obtain ⟨b, hbb⟩ : ∃ b, b = l.getD k false := ⟨_, rfl⟩
      rw [← hbb] at e1
      have hc := hT.cellB k (by rw [length_seen _ _ (by have := HZ.out; omega)]; have := HZ.out; omega)
      obtain ⟨b0, hb0'⟩ : ∃ b0, b0 = (seen l k).getD k false := ⟨_, rfl⟩
      rw [← hb0'] at hc
      have hf := hT.free (k * 2)
      have R := Lib.hid (trp_step (by have := HZ.out; omega) hbb hT)
      have RB := Lib.hid (hb.setCell (p := ⟨w.heap.size, k * 2, none⟩) (Nat.le_refl _) (.bool b))
      clear hbb hb0' hT hb hT0 hb0
      go_wp2
      go_roundw
      case rel => exact ⟨k + 1, by omega, by go_num, R.out, RB.out⟩
      case measure => simp [intOf]; omega
    · have hT1 : Trp wr w.heap.size l (List.replicate l.length 0) := trp_done (by have := HZ.out; omega) hT
      have HC := Lib.hid (HM.out wr w.heap.size hb (Nat.le_refl _) (by rw [HZ.out]; exact hT1))
      clear hT hT0 hb0 hT1
      go_wp2_with (go_at_call 74; refine HC.out.mono ?_; rintro e w' ⟨v, rfl, hQ⟩)
      go_ret2
      exact ⟨_, rfl, hQ⟩

set_option maxRecDepth 20000 in
set_option maxHeartbeats 1000000 in
theorem told_settle_no (s : ByteArray) (hs : s.size ≤ maxLen) (hg : goodB s = false) (w : World) :
    Calls Try.prog 63 #[.string s, .func (.func 64) #[] #[]] w fun e w' => e = .returned (.tuple #[.int .i64 0, .bool false]) ∧ w = w' := by
  go_enter Try.func63, Try.ntmps63
  go_wp2_with (go_at_call 28; refine (isRow_any _ _ hs).mono ?_; rintro e w' ⟨rfl, rfl⟩)
  go_ret2
  exact ⟨rfl, rfl⟩
set_option maxRecDepth 20000 in
set_option maxHeartbeats 1000000 in
theorem told_settle (l : List Bool) (h1 : 1 ≤ l.length) (h2 : l.length ≤ 60) (w : World) (Q : Value → World → Prop)
    (hm : ∀ (w2 : World) (g : Nat), Below w.heap.size w w2 → w.heap.size ≤ g → Trp w2 g l (List.replicate l.length 0) →
      Calls Try.prog 64 #[.slice (some ⟨g, 0, none⟩) l.length l.length] w2 fun e w' => ∃ v, e = .returned v ∧ Q v w') :
    Calls Try.prog 63 #[.string (Rw.str l), .func (.func 64) #[] #[]] w fun e w' => ∃ v, e = .returned (.tuple #[v, .bool true]) ∧ Q v w' := by
  obtain ⟨i0, hi, hz0, hz1, hz2⟩ := info_parts Try.info_placed
  have hsz : (Rw.str l).size = l.length := Rw.size_str l
  have hgood := goodB_str h1 h2
  obtain ⟨s, hs⟩ : ∃ s, s = Rw.str l := ⟨_, rfl⟩
  obtain ⟨n, hn⟩ : ∃ n, n = s.size := ⟨_, rfl⟩
  rw [← hs] at hsz hgood ⊢
  have HS := Lib.hid hs
  rw [← hsz] at h1 h2 hm
  have HM := Lib.hid hm
  have HZ := Lib.hid hsz
  have hml : s.size ≤ maxLen := by unfold maxLen; omega
  clear hs hsz hm
  go_enter Try.func63, Try.ntmps63
  go_wp2_with (first | (go_at_call 28; refine (isRow_any _ _ hml).mono ?_; rintro e w' ⟨rfl, rfl⟩) | (at_make; refine wpList_make_full _ rfl _ _ 60 rfl w.heap.size 94 i0 (.agg #[.bool false, .int .i64 0]) 2 Try.underlying60 hi hz0 hz1 .i64 .i64 _ _ s.size rfl rfl rfl rfl (by rw [hz2]; omega) (by unfold maxLen; omega) (Nat.le_refl _) ?_; intro w1 hown hgrow))
  have hT0 := made_trp HZ.out hown
  have hb0 := below_made hgrow
  have hg0 : w.heap.size < w1.heap.size := hT0.lt
  clear hown hgrow
  go_loopw [18] (fun i wr => ∃ k : Nat, k ≤ s.size ∧ i = .int .i64 k ∧ Trp wr w.heap.size (seen l k) (List.replicate l.length 0) ∧ Below w.heap.size w wr)
    (fun i _ => s.size - (intOf i).toNat)
  case atStart => exact ⟨0, Nat.zero_le _, rfl, hT0, hb0⟩
  case round =>
    obtain ⟨k, hk, rfl, hT, hb⟩ := hrel
    by_cases hlt : k < s.size
    · have e1 := byteR HS.out k hlt
      obtain ⟨b, hbb⟩ : ∃ b, b = l.getD k false := ⟨_, rfl⟩
      rw [← hbb] at e1
      have hc := hT.cellB k (by rw [length_seen _ _ (by have := HZ.out; omega)]; have := HZ.out; omega)
      obtain ⟨b0, hb0'⟩ : ∃ b0, b0 = (seen l k).getD k false := ⟨_, rfl⟩
      rw [← hb0'] at hc
      have hf := hT.free (k * 2)
      have R := Lib.hid (trp_step (by have := HZ.out; omega) hbb hT)
      have RB := Lib.hid (hb.setCell (p := ⟨w.heap.size, k * 2, none⟩) (Nat.le_refl _) (.bool b))
      clear hbb hb0' hT hb hT0 hb0
      go_wp2
      go_roundw
      case rel => exact ⟨k + 1, by omega, by go_num, R.out, RB.out⟩
      case measure => simp [intOf]; omega
    · have hT1 : Trp wr w.heap.size l (List.replicate l.length 0) := trp_done (by have := HZ.out; omega) hT
      have HC := Lib.hid (HM.out wr w.heap.size hb (Nat.le_refl _) (by rw [HZ.out]; exact hT1))
      clear hT hT0 hb0 hT1
      go_wp2_with (go_at_call 64; refine HC.out.mono ?_; rintro e w' ⟨v, rfl, hQ⟩)
      go_ret2
      exact ⟨_, rfl, hQ⟩

set_option maxRecDepth 20000 in
set_option maxHeartbeats 1000000 in
theorem told_rested_no (s : ByteArray) (hs : s.size ≤ maxLen) (hg : goodB s = false) (w : World) :
    Calls Try.prog 67 #[.string s, .func (.func 68) #[] #[]] w fun e w' => e = .returned (.tuple #[.string ByteArray.empty, .bool false]) ∧ w = w' := by
  go_enter Try.func67, Try.ntmps67
  go_wp2_with (go_at_call 28; refine (isRow_any _ _ hs).mono ?_; rintro e w' ⟨rfl, rfl⟩)
  go_ret2
  exact ⟨rfl, rfl⟩
set_option maxRecDepth 20000 in
set_option maxHeartbeats 1000000 in
theorem told_rested (l : List Bool) (h1 : 1 ≤ l.length) (h2 : l.length ≤ 60) (w : World) (Q : Value → World → Prop)
    (hm : ∀ (w2 : World) (g : Nat), Below w.heap.size w w2 → w.heap.size ≤ g → Trp w2 g l (List.replicate l.length 0) →
      Calls Try.prog 68 #[.slice (some ⟨g, 0, none⟩) l.length l.length] w2 fun e w' => ∃ v, e = .returned v ∧ Q v w') :
    Calls Try.prog 67 #[.string (Rw.str l), .func (.func 68) #[] #[]] w fun e w' => ∃ v, e = .returned (.tuple #[v, .bool true]) ∧ Q v w' := by
  obtain ⟨i0, hi, hz0, hz1, hz2⟩ := info_parts Try.info_placed
  have hsz : (Rw.str l).size = l.length := Rw.size_str l
  have hgood := goodB_str h1 h2
  obtain ⟨s, hs⟩ : ∃ s, s = Rw.str l := ⟨_, rfl⟩
  obtain ⟨n, hn⟩ : ∃ n, n = s.size := ⟨_, rfl⟩
  rw [← hs] at hsz hgood ⊢
  have HS := Lib.hid hs
  rw [← hsz] at h1 h2 hm
  have HM := Lib.hid hm
  have HZ := Lib.hid hsz
  have hml : s.size ≤ maxLen := by unfold maxLen; omega
  clear hs hsz hm
  go_enter Try.func67, Try.ntmps67
  go_wp2_with (first | (go_at_call 28; refine (isRow_any _ _ hml).mono ?_; rintro e w' ⟨rfl, rfl⟩) | (at_make; refine wpList_make_full _ rfl _ _ 60 rfl w.heap.size 94 i0 (.agg #[.bool false, .int .i64 0]) 2 Try.underlying60 hi hz0 hz1 .i64 .i64 _ _ s.size rfl rfl rfl rfl (by rw [hz2]; omega) (by unfold maxLen; omega) (Nat.le_refl _) ?_; intro w1 hown hgrow))
  have hT0 := made_trp HZ.out hown
  have hb0 := below_made hgrow
  have hg0 : w.heap.size < w1.heap.size := hT0.lt
  clear hown hgrow
  go_loopw [18] (fun i wr => ∃ k : Nat, k ≤ s.size ∧ i = .int .i64 k ∧ Trp wr w.heap.size (seen l k) (List.replicate l.length 0) ∧ Below w.heap.size w wr)
    (fun i _ => s.size - (intOf i).toNat)
  case atStart => exact ⟨0, Nat.zero_le _, rfl, hT0, hb0⟩
  case round =>
    obtain ⟨k, hk, rfl, hT, hb⟩ := hrel
    by_cases hlt : k < s.size
    · have e1 := byteR HS.out k hlt
      obtain ⟨b, hbb⟩ : ∃ b, b = l.getD k false := ⟨_, rfl⟩
      rw [← hbb] at e1
      have hc := hT.cellB k (by rw [length_seen _ _ (by have := HZ.out; omega)]; have := HZ.out; omega)
      obtain ⟨b0, hb0'⟩ : ∃ b0, b0 = (seen l k).getD k false := ⟨_, rfl⟩
      rw [← hb0'] at hc
      have hf := hT.free (k * 2)
      have R := Lib.hid (trp_step (by have := HZ.out; omega) hbb hT)
      have RB := Lib.hid (hb.setCell (p := ⟨w.heap.size, k * 2, none⟩) (Nat.le_refl _) (.bool b))
      clear hbb hb0' hT hb hT0 hb0
      go_wp2
      go_roundw
      case rel => exact ⟨k + 1, by omega, by go_num, R.out, RB.out⟩
      case measure => simp [intOf]; omega
    · have hT1 : Trp wr w.heap.size l (List.replicate l.length 0) := trp_done (by have := HZ.out; omega) hT
      have HC := Lib.hid (HM.out wr w.heap.size hb (Nat.le_refl _) (by rw [HZ.out]; exact hT1))
      clear hT hT0 hb0 hT1
      go_wp2_with (go_at_call 68; refine HC.out.mono ?_; rintro e w' ⟨v, rfl, hQ⟩)
      go_ret2
      exact ⟨_, rfl, hQ⟩

set_option maxRecDepth 20000 in
set_option maxHeartbeats 1000000 in
theorem told_isAtRest_no (s : ByteArray) (hs : s.size ≤ maxLen) (hg : goodB s = false) (w : World) :
    Calls Try.prog 76 #[.string s, .func (.func 77) #[] #[]] w fun e w' => e = .returned (.tuple #[.bool false, .bool false]) ∧ w = w' := by
  go_enter Try.func76, Try.ntmps76
  go_wp2_with (go_at_call 28; refine (isRow_any _ _ hs).mono ?_; rintro e w' ⟨rfl, rfl⟩)
  go_ret2
  exact ⟨rfl, rfl⟩
set_option maxRecDepth 20000 in
set_option maxHeartbeats 1000000 in
theorem told_isAtRest (l : List Bool) (h1 : 1 ≤ l.length) (h2 : l.length ≤ 60) (w : World) (Q : Value → World → Prop)
    (hm : ∀ (w2 : World) (g : Nat), Below w.heap.size w w2 → w.heap.size ≤ g → Trp w2 g l (List.replicate l.length 0) →
      Calls Try.prog 77 #[.slice (some ⟨g, 0, none⟩) l.length l.length] w2 fun e w' => ∃ v, e = .returned v ∧ Q v w') :
    Calls Try.prog 76 #[.string (Rw.str l), .func (.func 77) #[] #[]] w fun e w' => ∃ v, e = .returned (.tuple #[v, .bool true]) ∧ Q v w' := by
  obtain ⟨i0, hi, hz0, hz1, hz2⟩ := info_parts Try.info_placed
  have hsz : (Rw.str l).size = l.length := Rw.size_str l
  have hgood := goodB_str h1 h2
  obtain ⟨s, hs⟩ : ∃ s, s = Rw.str l := ⟨_, rfl⟩
  obtain ⟨n, hn⟩ : ∃ n, n = s.size := ⟨_, rfl⟩
  rw [← hs] at hsz hgood ⊢
  have HS := Lib.hid hs
  rw [← hsz] at h1 h2 hm
  have HM := Lib.hid hm
  have HZ := Lib.hid hsz
  have hml : s.size ≤ maxLen := by unfold maxLen; omega
  clear hs hsz hm
  go_enter Try.func76, Try.ntmps76
  go_wp2_with (first | (go_at_call 28; refine (isRow_any _ _ hml).mono ?_; rintro e w' ⟨rfl, rfl⟩) | (at_make; refine wpList_make_full _ rfl _ _ 60 rfl w.heap.size 94 i0 (.agg #[.bool false, .int .i64 0]) 2 Try.underlying60 hi hz0 hz1 .i64 .i64 _ _ s.size rfl rfl rfl rfl (by rw [hz2]; omega) (by unfold maxLen; omega) (Nat.le_refl _) ?_; intro w1 hown hgrow))
  have hT0 := made_trp HZ.out hown
  have hb0 := below_made hgrow
  have hg0 : w.heap.size < w1.heap.size := hT0.lt
  clear hown hgrow
  go_loopw [18] (fun i wr => ∃ k : Nat, k ≤ s.size ∧ i = .int .i64 k ∧ Trp wr w.heap.size (seen l k) (List.replicate l.length 0) ∧ Below w.heap.size w wr)
    (fun i _ => s.size - (intOf i).toNat)
  case atStart => exact ⟨0, Nat.zero_le _, rfl, hT0, hb0⟩
  case round =>
    obtain ⟨k, hk, rfl, hT, hb⟩ := hrel
    by_cases hlt : k < s.size
    · have e1 := byteR HS.out k hlt
      obtain ⟨b, hbb⟩ : ∃ b, b = l.getD k false := ⟨_, rfl⟩
      rw [← hbb] at e1
      have hc := hT.cellB k (by rw [length_seen _ _ (by have := HZ.out; omega)]; have := HZ.out; omega)
      obtain ⟨b0, hb0'⟩ : ∃ b0, b0 = (seen l k).getD k false := ⟨_, rfl⟩
      rw [← hb0'] at hc
      have hf := hT.free (k * 2)
      have R := Lib.hid (trp_step (by have := HZ.out; omega) hbb hT)
      have RB := Lib.hid (hb.setCell (p := ⟨w.heap.size, k * 2, none⟩) (Nat.le_refl _) (.bool b))
      clear hbb hb0' hT hb hT0 hb0
      go_wp2
      go_roundw
      case rel => exact ⟨k + 1, by omega, by go_num, R.out, RB.out⟩
      case measure => simp [intOf]; omega
    · have hT1 : Trp wr w.heap.size l (List.replicate l.length 0) := trp_done (by have := HZ.out; omega) hT
      have HC := Lib.hid (HM.out wr w.heap.size hb (Nat.le_refl _) (by rw [HZ.out]; exact hT1))
      clear hT hT0 hb0 hT1
      go_wp2_with (go_at_call 77; refine HC.out.mono ?_; rintro e w' ⟨v, rfl, hQ⟩)
      go_ret2
      exact ⟨_, rfl, hQ⟩

set_option maxRecDepth 20000 in
set_option maxHeartbeats 1000000 in
theorem told_pairsUntilRest_no (s : ByteArray) (hs : s.size ≤ maxLen) (hg : goodB s = false) (w : World) :
    Calls Try.prog 63 #[.string s, .func (.func 69) #[] #[]] w fun e w' => e = .returned (.tuple #[.int .i64 0, .bool false]) ∧ w = w' := by
  go_enter Try.func63, Try.ntmps63
  go_wp2_with (go_at_call 28; refine (isRow_any _ _ hs).mono ?_; rintro e w' ⟨rfl, rfl⟩)
  go_ret2
  exact ⟨rfl, rfl⟩
set_option maxRecDepth 20000 in
set_option maxHeartbeats 1000000 in
theorem told_pairsUntilRest (l : List Bool) (h1 : 1 ≤ l.length) (h2 : l.length ≤ 60) (w : World) (Q : Value → World → Prop)
    (hm : ∀ (w2 : World) (g : Nat), Below w.heap.size w w2 → w.heap.size ≤ g → Trp w2 g l (List.replicate l.length 0) →
      Calls Try.prog 69 #[.slice (some ⟨g, 0, none⟩) l.length l.length] w2 fun e w' => ∃ v, e = .returned v ∧ Q v w') :
    Calls Try.prog 63 #[.string (Rw.str l), .func (.func 69) #[] #[]] w fun e w' => ∃ v, e = .returned (.tuple #[v, .bool true]) ∧ Q v w' := by
  obtain ⟨i0, hi, hz0, hz1, hz2⟩ := info_parts Try.info_placed
  have hsz : (Rw.str l).size = l.length := Rw.size_str l
  have hgood := goodB_str h1 h2
  obtain ⟨s, hs⟩ : ∃ s, s = Rw.str l := ⟨_, rfl⟩
  obtain ⟨n, hn⟩ : ∃ n, n = s.size := ⟨_, rfl⟩
  rw [← hs] at hsz hgood ⊢
  have HS := Lib.hid hs
  rw [← hsz] at h1 h2 hm
  have HM := Lib.hid hm
  have HZ := Lib.hid hsz
  have hml : s.size ≤ maxLen := by unfold maxLen; omega
  clear hs hsz hm
  go_enter Try.func63, Try.ntmps63
  go_wp2_with (first | (go_at_call 28; refine (isRow_any _ _ hml).mono ?_; rintro e w' ⟨rfl, rfl⟩) | (at_make; refine wpList_make_full _ rfl _ _ 60 rfl w.heap.size 94 i0 (.agg #[.bool false, .int .i64 0]) 2 Try.underlying60 hi hz0 hz1 .i64 .i64 _ _ s.size rfl rfl rfl rfl (by rw [hz2]; omega) (by unfold maxLen; omega) (Nat.le_refl _) ?_; intro w1 hown hgrow))
  have hT0 := made_trp HZ.out hown
  have hb0 := below_made hgrow
  have hg0 : w.heap.size < w1.heap.size := hT0.lt
  clear hown hgrow
  go_loopw [18] (fun i wr => ∃ k : Nat, k ≤ s.size ∧ i = .int .i64 k ∧ Trp wr w.heap.size (seen l k) (List.replicate l.length 0) ∧ Below w.heap.size w wr)
    (fun i _ => s.size - (intOf i).toNat)
  case atStart => exact ⟨0, Nat.zero_le _, rfl, hT0, hb0⟩
  case round =>
    obtain ⟨k, hk, rfl, hT, hb⟩ := hrel
    by_cases hlt : k < s.size
    · have e1 := byteR HS.out k hlt
      obtain ⟨b, hbb⟩ : ∃ b, b = l.getD k false := ⟨_, rfl⟩
      rw [← hbb] at e1
      have hc := hT.cellB k (by rw [length_seen _ _ (by have := HZ.out; omega)]; have := HZ.out; omega)
      obtain ⟨b0, hb0'⟩ : ∃ b0, b0 = (seen l k).getD k false := ⟨_, rfl⟩
      rw [← hb0'] at hc
      have hf := hT.free (k * 2)
      have R := Lib.hid (trp_step (by have := HZ.out; omega) hbb hT)
      have RB := Lib.hid (hb.setCell (p := ⟨w.heap.size, k * 2, none⟩) (Nat.le_refl _) (.bool b))
      clear hbb hb0' hT hb hT0 hb0
      go_wp2
      go_roundw
      case rel => exact ⟨k + 1, by omega, by go_num, R.out, RB.out⟩
      case measure => simp [intOf]; omega
    · have hT1 : Trp wr w.heap.size l (List.replicate l.length 0) := trp_done (by have := HZ.out; omega) hT
      have HC := Lib.hid (HM.out wr w.heap.size hb (Nat.le_refl _) (by rw [HZ.out]; exact hT1))
      clear hT hT0 hb0 hT1
      go_wp2_with (go_at_call 69; refine HC.out.mono ?_; rintro e w' ⟨v, rfl, hQ⟩)
      go_ret2
      exact ⟨_, rfl, hQ⟩

set_option maxRecDepth 20000 in
set_option maxHeartbeats 1000000 in
theorem told_turnsUntilRest_no (s : ByteArray) (hs : s.size ≤ maxLen) (hg : goodB s = false) (w : World) :
    Calls Try.prog 72 #[.string s, .func (.func 73) #[] #[]] w fun e w' => e = .returned (.tuple #[.slice none 0 0, .bool false]) ∧ w = w' := by
  go_enter Try.func72, Try.ntmps72
  go_wp2_with (go_at_call 28; refine (isRow_any _ _ hs).mono ?_; rintro e w' ⟨rfl, rfl⟩)
  go_ret2
  exact ⟨rfl, rfl⟩
set_option maxRecDepth 20000 in
set_option maxHeartbeats 1000000 in
theorem told_turnsUntilRest (l : List Bool) (h1 : 1 ≤ l.length) (h2 : l.length ≤ 60) (w : World) (Q : Value → World → Prop)
    (hm : ∀ (w2 : World) (g : Nat), Below w.heap.size w w2 → w.heap.size ≤ g → Trp w2 g l (List.replicate l.length 0) →
      Calls Try.prog 73 #[.slice (some ⟨g, 0, none⟩) l.length l.length] w2 fun e w' => ∃ v, e = .returned v ∧ Q v w') :
    Calls Try.prog 72 #[.string (Rw.str l), .func (.func 73) #[] #[]] w fun e w' => ∃ v, e = .returned (.tuple #[v, .bool true]) ∧ Q v w' := by
  obtain ⟨i0, hi, hz0, hz1, hz2⟩ := info_parts Try.info_placed
  have hsz : (Rw.str l).size = l.length := Rw.size_str l
  have hgood := goodB_str h1 h2
  obtain ⟨s, hs⟩ : ∃ s, s = Rw.str l := ⟨_, rfl⟩
  obtain ⟨n, hn⟩ : ∃ n, n = s.size := ⟨_, rfl⟩
  rw [← hs] at hsz hgood ⊢
  have HS := Lib.hid hs
  rw [← hsz] at h1 h2 hm
  have HM := Lib.hid hm
  have HZ := Lib.hid hsz
  have hml : s.size ≤ maxLen := by unfold maxLen; omega
  clear hs hsz hm
  go_enter Try.func72, Try.ntmps72
  go_wp2_with (first | (go_at_call 28; refine (isRow_any _ _ hml).mono ?_; rintro e w' ⟨rfl, rfl⟩) | (at_make; refine wpList_make_full _ rfl _ _ 60 rfl w.heap.size 94 i0 (.agg #[.bool false, .int .i64 0]) 2 Try.underlying60 hi hz0 hz1 .i64 .i64 _ _ s.size rfl rfl rfl rfl (by rw [hz2]; omega) (by unfold maxLen; omega) (Nat.le_refl _) ?_; intro w1 hown hgrow))
  have hT0 := made_trp HZ.out hown
  have hb0 := below_made hgrow
  have hg0 : w.heap.size < w1.heap.size := hT0.lt
  clear hown hgrow
  go_loopw [18] (fun i wr => ∃ k : Nat, k ≤ s.size ∧ i = .int .i64 k ∧ Trp wr w.heap.size (seen l k) (List.replicate l.length 0) ∧ Below w.heap.size w wr)
    (fun i _ => s.size - (intOf i).toNat)
  case atStart => exact ⟨0, Nat.zero_le _, rfl, hT0, hb0⟩
  case round =>
    obtain ⟨k, hk, rfl, hT, hb⟩ := hrel
    by_cases hlt : k < s.size
    · have e1 := byteR HS.out k hlt
      obtain ⟨b, hbb⟩ : ∃ b, b = l.getD k false := ⟨_, rfl⟩
      rw [← hbb] at e1
      have hc := hT.cellB k (by rw [length_seen _ _ (by have := HZ.out; omega)]; have := HZ.out; omega)
      obtain ⟨b0, hb0'⟩ : ∃ b0, b0 = (seen l k).getD k false := ⟨_, rfl⟩
      rw [← hb0'] at hc
      have hf := hT.free (k * 2)
      have R := Lib.hid (trp_step (by have := HZ.out; omega) hbb hT)
      have RB := Lib.hid (hb.setCell (p := ⟨w.heap.size, k * 2, none⟩) (Nat.le_refl _) (.bool b))
      clear hbb hb0' hT hb hT0 hb0
      go_wp2
      go_roundw
      case rel => exact ⟨k + 1, by omega, by go_num, R.out, RB.out⟩
      case measure => simp [intOf]; omega
    · have hT1 : Trp wr w.heap.size l (List.replicate l.length 0) := trp_done (by have := HZ.out; omega) hT
      have HC := Lib.hid (HM.out wr w.heap.size hb (Nat.le_refl _) (by rw [HZ.out]; exact hT1))
      clear hT hT0 hb0 hT1
      go_wp2_with (go_at_call 73; refine HC.out.mono ?_; rintro e w' ⟨v, rfl, hQ⟩)
      go_ret2
      exact ⟨_, rfl, hQ⟩

set_option maxRecDepth 20000 in
set_option maxHeartbeats 1000000 in
theorem told_mirrored_no (s : ByteArray) (hs : s.size ≤ maxLen) (hg : goodB s = false) (w : World) :
    Calls Try.prog 67 #[.string s, .func (.func 78) #[] #[]] w fun e w' => e = .returned (.tuple #[.string ByteArray.empty, .bool false]) ∧ w = w' := by
  go_enter Try.func67, Try.ntmps67
  go_wp2_with (go_at_call 28; refine (isRow_any _ _ hs).mono ?_; rintro e w' ⟨rfl, rfl⟩)
  go_ret2
  exact ⟨rfl, rfl⟩
set_option maxRecDepth 20000 in
set_option maxHeartbeats 1000000 in
theorem told_mirrored (l : List Bool) (h1 : 1 ≤ l.length) (h2 : l.length ≤ 60) (w : World) (Q : Value → World → Prop)
    (hm : ∀ (w2 : World) (g : Nat), Below w.heap.size w w2 → w.heap.size ≤ g → Trp w2 g l (List.replicate l.length 0) →
      Calls Try.prog 78 #[.slice (some ⟨g, 0, none⟩) l.length l.length] w2 fun e w' => ∃ v, e = .returned v ∧ Q v w') :
    Calls Try.prog 67 #[.string (Rw.str l), .func (.func 78) #[] #[]] w fun e w' => ∃ v, e = .returned (.tuple #[v, .bool true]) ∧ Q v w' := by
  obtain ⟨i0, hi, hz0, hz1, hz2⟩ := info_parts Try.info_placed
  have hsz : (Rw.str l).size = l.length := Rw.size_str l
  have hgood := goodB_str h1 h2
  obtain ⟨s, hs⟩ : ∃ s, s = Rw.str l := ⟨_, rfl⟩
  obtain ⟨n, hn⟩ : ∃ n, n = s.size := ⟨_, rfl⟩
  rw [← hs] at hsz hgood ⊢
  have HS := Lib.hid hs
  rw [← hsz] at h1 h2 hm
  have HM := Lib.hid hm
  have HZ := Lib.hid hsz
  have hml : s.size ≤ maxLen := by unfold maxLen; omega
  clear hs hsz hm
  go_enter Try.func67, Try.ntmps67
  go_wp2_with (first | (go_at_call 28; refine (isRow_any _ _ hml).mono ?_; rintro e w' ⟨rfl, rfl⟩) | (at_make; refine wpList_make_full _ rfl _ _ 60 rfl w.heap.size 94 i0 (.agg #[.bool false, .int .i64 0]) 2 Try.underlying60 hi hz0 hz1 .i64 .i64 _ _ s.size rfl rfl rfl rfl (by rw [hz2]; omega) (by unfold maxLen; omega) (Nat.le_refl _) ?_; intro w1 hown hgrow))
  have hT0 := made_trp HZ.out hown
  have hb0 := below_made hgrow
  have hg0 : w.heap.size < w1.heap.size := hT0.lt
  clear hown hgrow
  go_loopw [18] (fun i wr => ∃ k : Nat, k ≤ s.size ∧ i = .int .i64 k ∧ Trp wr w.heap.size (seen l k) (List.replicate l.length 0) ∧ Below w.heap.size w wr)
    (fun i _ => s.size - (intOf i).toNat)
  case atStart => exact ⟨0, Nat.zero_le _, rfl, hT0, hb0⟩
  case round =>
    obtain ⟨k, hk, rfl, hT, hb⟩ := hrel
    by_cases hlt : k < s.size
    · have e1 := byteR HS.out k hlt
      obtain ⟨b, hbb⟩ : ∃ b, b = l.getD k false := ⟨_, rfl⟩
      rw [← hbb] at e1
      have hc := hT.cellB k (by rw [length_seen _ _ (by have := HZ.out; omega)]; have := HZ.out; omega)
      obtain ⟨b0, hb0'⟩ : ∃ b0, b0 = (seen l k).getD k false := ⟨_, rfl⟩
      rw [← hb0'] at hc
      have hf := hT.free (k * 2)
      have R := Lib.hid (trp_step (by have := HZ.out; omega) hbb hT)
      have RB := Lib.hid (hb.setCell (p := ⟨w.heap.size, k * 2, none⟩) (Nat.le_refl _) (.bool b))
      clear hbb hb0' hT hb hT0 hb0
      go_wp2
      go_roundw
      case rel => exact ⟨k + 1, by omega, by go_num, R.out, RB.out⟩
      case measure => simp [intOf]; omega
    · have hT1 : Trp wr w.heap.size l (List.replicate l.length 0) := trp_done (by have := HZ.out; omega) hT
      have HC := Lib.hid (HM.out wr w.heap.size hb (Nat.le_refl _) (by rw [HZ.out]; exact hT1))
      clear hT hT0 hb0 hT1
      go_wp2_with (go_at_call 78; refine HC.out.mono ?_; rintro e w' ⟨v, rfl, hQ⟩)
      go_ret2
      exact ⟨_, rfl, hQ⟩

set_option maxRecDepth 20000 in
set_option maxHeartbeats 1000000 in
theorem told_turned_no (s : ByteArray) (hs : s.size ≤ maxLen) (hg : goodB s = false) (w : World) :
    Calls Try.prog 67 #[.string s, .func (.func 80) #[] #[]] w fun e w' => e = .returned (.tuple #[.string ByteArray.empty, .bool false]) ∧ w = w' := by
  go_enter Try.func67, Try.ntmps67
  go_wp2_with (go_at_call 28; refine (isRow_any _ _ hs).mono ?_; rintro e w' ⟨rfl, rfl⟩)
  go_ret2
  exact ⟨rfl, rfl⟩
set_option maxRecDepth 20000 in
set_option maxHeartbeats 1000000 in
theorem told_turned (l : List Bool) (h1 : 1 ≤ l.length) (h2 : l.length ≤ 60) (w : World) (Q : Value → World → Prop)
    (hm : ∀ (w2 : World) (g : Nat), Below w.heap.size w w2 → w.heap.size ≤ g → Trp w2 g l (List.replicate l.length 0) →
      Calls Try.prog 80 #[.slice (some ⟨g, 0, none⟩) l.length l.length] w2 fun e w' => ∃ v, e = .returned v ∧ Q v w') :
    Calls Try.prog 67 #[.string (Rw.str l), .func (.func 80) #[] #[]] w fun e w' => ∃ v, e = .returned (.tuple #[v, .bool true]) ∧ Q v w' := by
  obtain ⟨i0, hi, hz0, hz1, hz2⟩ := info_parts Try.info_placed
  have hsz : (Rw.str l).size = l.length := Rw.size_str l
  have hgood := goodB_str h1 h2
  obtain ⟨s, hs⟩ : ∃ s, s = Rw.str l := ⟨_, rfl⟩
  obtain ⟨n, hn⟩ : ∃ n, n = s.size := ⟨_, rfl⟩
  rw [← hs] at hsz hgood ⊢
  have HS := Lib.hid hs
  rw [← hsz] at h1 h2 hm
  have HM := Lib.hid hm
  have HZ := Lib.hid hsz
  have hml : s.size ≤ maxLen := by unfold maxLen; omega
  clear hs hsz hm
  go_enter Try.func67, Try.ntmps67
  go_wp2_with (first | (go_at_call 28; refine (isRow_any _ _ hml).mono ?_; rintro e w' ⟨rfl, rfl⟩) | (at_make; refine wpList_make_full _ rfl _ _ 60 rfl w.heap.size 94 i0 (.agg #[.bool false, .int .i64 0]) 2 Try.underlying60 hi hz0 hz1 .i64 .i64 _ _ s.size rfl rfl rfl rfl (by rw [hz2]; omega) (by unfold maxLen; omega) (Nat.le_refl _) ?_; intro w1 hown hgrow))
  have hT0 := made_trp HZ.out hown
  have hb0 := below_made hgrow
  have hg0 : w.heap.size < w1.heap.size := hT0.lt
  clear hown hgrow
  go_loopw [18] (fun i wr => ∃ k : Nat, k ≤ s.size ∧ i = .int .i64 k ∧ Trp wr w.heap.size (seen l k) (List.replicate l.length 0) ∧ Below w.heap.size w wr)
    (fun i _ => s.size - (intOf i).toNat)
  case atStart => exact ⟨0, Nat.zero_le _, rfl, hT0, hb0⟩
  case round =>
    obtain ⟨k, hk, rfl, hT, hb⟩ := hrel
    by_cases hlt : k < s.size
    · have e1 := byteR HS.out k hlt
      obtain ⟨b, hbb⟩ : ∃ b, b = l.getD k false := ⟨_, rfl⟩
      rw [← hbb] at e1
      have hc := hT.cellB k (by rw [length_seen _ _ (by have := HZ.out; omega)]; have := HZ.out; omega)
      obtain ⟨b0, hb0'⟩ : ∃ b0, b0 = (seen l k).getD k false := ⟨_, rfl⟩
      rw [← hb0'] at hc
      have hf := hT.free (k * 2)
      have R := Lib.hid (trp_step (by have := HZ.out; omega) hbb hT)
      have RB := Lib.hid (hb.setCell (p := ⟨w.heap.size, k * 2, none⟩) (Nat.le_refl _) (.bool b))
      clear hbb hb0' hT hb hT0 hb0
      go_wp2
      go_roundw
      case rel => exact ⟨k + 1, by omega, by go_num, R.out, RB.out⟩
      case measure => simp [intOf]; omega
    · have hT1 : Trp wr w.heap.size l (List.replicate l.length 0) := trp_done (by have := HZ.out; omega) hT
      have HC := Lib.hid (HM.out wr w.heap.size hb (Nat.le_refl _) (by rw [HZ.out]; exact hT1))
      clear hT hT0 hb0 hT1
      go_wp2_with (go_at_call 80; refine HC.out.mono ?_; rintro e w' ⟨v, rfl, hQ⟩)
      go_ret2
      exact ⟨_, rfl, hQ⟩

set_option maxRecDepth 20000 in
set_option maxHeartbeats 1000000 in
theorem told_ticked_no (s : ByteArray) (hs : s.size ≤ maxLen) (hg : goodB s = false) (w : World) :
    Calls Try.prog 67 #[.string s, .func (.func 75) #[] #[]] w fun e w' => e = .returned (.tuple #[.string ByteArray.empty, .bool false]) ∧ w = w' := by
  go_enter Try.func67, Try.ntmps67
  go_wp2_with (go_at_call 28; refine (isRow_any _ _ hs).mono ?_; rintro e w' ⟨rfl, rfl⟩)
  go_ret2
  exact ⟨rfl, rfl⟩
set_option maxRecDepth 20000 in
set_option maxHeartbeats 1000000 in
theorem told_ticked (l : List Bool) (h1 : 1 ≤ l.length) (h2 : l.length ≤ 60) (w : World) (Q : Value → World → Prop)
    (hm : ∀ (w2 : World) (g : Nat), Below w.heap.size w w2 → w.heap.size ≤ g → Trp w2 g l (List.replicate l.length 0) →
      Calls Try.prog 75 #[.slice (some ⟨g, 0, none⟩) l.length l.length] w2 fun e w' => ∃ v, e = .returned v ∧ Q v w') :
    Calls Try.prog 67 #[.string (Rw.str l), .func (.func 75) #[] #[]] w fun e w' => ∃ v, e = .returned (.tuple #[v, .bool true]) ∧ Q v w' := by
  obtain ⟨i0, hi, hz0, hz1, hz2⟩ := info_parts Try.info_placed
  have hsz : (Rw.str l).size = l.length := Rw.size_str l
  have hgood := goodB_str h1 h2
  obtain ⟨s, hs⟩ : ∃ s, s = Rw.str l := ⟨_, rfl⟩
  obtain ⟨n, hn⟩ : ∃ n, n = s.size := ⟨_, rfl⟩
  rw [← hs] at hsz hgood ⊢
  have HS := Lib.hid hs
  rw [← hsz] at h1 h2 hm
  have HM := Lib.hid hm
  have HZ := Lib.hid hsz
  have hml : s.size ≤ maxLen := by unfold maxLen; omega
  clear hs hsz hm
  go_enter Try.func67, Try.ntmps67
  go_wp2_with (first | (go_at_call 28; refine (isRow_any _ _ hml).mono ?_; rintro e w' ⟨rfl, rfl⟩) | (at_make; refine wpList_make_full _ rfl _ _ 60 rfl w.heap.size 94 i0 (.agg #[.bool false, .int .i64 0]) 2 Try.underlying60 hi hz0 hz1 .i64 .i64 _ _ s.size rfl rfl rfl rfl (by rw [hz2]; omega) (by unfold maxLen; omega) (Nat.le_refl _) ?_; intro w1 hown hgrow))
  have hT0 := made_trp HZ.out hown
  have hb0 := below_made hgrow
  have hg0 : w.heap.size < w1.heap.size := hT0.lt
  clear hown hgrow
  go_loopw [18] (fun i wr => ∃ k : Nat, k ≤ s.size ∧ i = .int .i64 k ∧ Trp wr w.heap.size (seen l k) (List.replicate l.length 0) ∧ Below w.heap.size w wr)
    (fun i _ => s.size - (intOf i).toNat)
  case atStart => exact ⟨0, Nat.zero_le _, rfl, hT0, hb0⟩
  case round =>
    obtain ⟨k, hk, rfl, hT, hb⟩ := hrel
    by_cases hlt : k < s.size
    · have e1 := byteR HS.out k hlt
      obtain ⟨b, hbb⟩ : ∃ b, b = l.getD k false := ⟨_, rfl⟩
      rw [← hbb] at e1
      have hc := hT.cellB k (by rw [length_seen _ _ (by have := HZ.out; omega)]; have := HZ.out; omega)
      obtain ⟨b0, hb0'⟩ : ∃ b0, b0 = (seen l k).getD k false := ⟨_, rfl⟩
      rw [← hb0'] at hc
      have hf := hT.free (k * 2)
      have R := Lib.hid (trp_step (by have := HZ.out; omega) hbb hT)
      have RB := Lib.hid (hb.setCell (p := ⟨w.heap.size, k * 2, none⟩) (Nat.le_refl _) (.bool b))
      clear hbb hb0' hT hb hT0 hb0
      go_wp2
      go_roundw
      case rel => exact ⟨k + 1, by omega, by go_num, R.out, RB.out⟩
      case measure => simp [intOf]; omega
    · have hT1 : Trp wr w.heap.size l (List.replicate l.length 0) := trp_done (by have := HZ.out; omega) hT
      have HC := Lib.hid (HM.out wr w.heap.size hb (Nat.le_refl _) (by rw [HZ.out]; exact hT1))
      clear hT hT0 hb0 hT1
      go_wp2_with (go_at_call 75; refine HC.out.mono ?_; rintro e w' ⟨v, rfl, hQ⟩)
      go_ret2
      exact ⟨_, rfl, hQ⟩

set_option maxRecDepth 20000 in
set_option maxHeartbeats 1000000 in
theorem told_before_no (s : ByteArray) (hs : s.size ≤ maxLen) (hg : goodB s = false) (w : World) :
    Calls Try.prog 94 #[.string s, .func (.func 95) #[] #[]] w fun e w' => e = .returned (.tuple #[.slice none 0 0, .bool false]) ∧ w = w' := by
  go_enter Try.func94, Try.ntmps94
  go_wp2_with (go_at_call 28; refine (isRow_any _ _ hs).mono ?_; rintro e w' ⟨rfl, rfl⟩)
  go_ret2
  exact ⟨rfl, rfl⟩
set_option maxRecDepth 20000 in
set_option maxHeartbeats 1000000 in
theorem told_before (l : List Bool) (h1 : 1 ≤ l.length) (h2 : l.length ≤ 60) (w : World) (Q : Value → World → Prop)
    (hm : ∀ (w2 : World) (g : Nat), Below w.heap.size w w2 → w.heap.size ≤ g → Trp w2 g l (List.replicate l.length 0) →
      Calls Try.prog 95 #[.slice (some ⟨g, 0, none⟩) l.length l.length] w2 fun e w' => ∃ v, e = .returned v ∧ Q v w') :
    Calls Try.prog 94 #[.string (Rw.str l), .func (.func 95) #[] #[]] w fun e w' => ∃ v, e = .returned (.tuple #[v, .bool true]) ∧ Q v w' := by
  obtain ⟨i0, hi, hz0, hz1, hz2⟩ := info_parts Try.info_placed
  have hsz : (Rw.str l).size = l.length := Rw.size_str l
  have hgood := goodB_str h1 h2
  obtain ⟨s, hs⟩ : ∃ s, s = Rw.str l := ⟨_, rfl⟩
  obtain ⟨n, hn⟩ : ∃ n, n = s.size := ⟨_, rfl⟩
  rw [← hs] at hsz hgood ⊢
  have HS := Lib.hid hs
  rw [← hsz] at h1 h2 hm
  have HM := Lib.hid hm
  have HZ := Lib.hid hsz
  have hml : s.size ≤ maxLen := by unfold maxLen; omega
  clear hs hsz hm
  go_enter Try.func94, Try.ntmps94
  go_wp2_with (first | (go_at_call 28; refine (isRow_any _ _ hml).mono ?_; rintro e w' ⟨rfl, rfl⟩) | (at_make; refine wpList_make_full _ rfl _ _ 60 rfl w.heap.size 94 i0 (.agg #[.bool false, .int .i64 0]) 2 Try.underlying60 hi hz0 hz1 .i64 .i64 _ _ s.size rfl rfl rfl rfl (by rw [hz2]; omega) (by unfold maxLen; omega) (Nat.le_refl _) ?_; intro w1 hown hgrow))
  have hT0 := made_trp HZ.out hown
  have hb0 := below_made hgrow
  have hg0 : w.heap.size < w1.heap.size := hT0.lt
  clear hown hgrow
  go_loopw [18] (fun i wr => ∃ k : Nat, k ≤ s.size ∧ i = .int .i64 k ∧ Trp wr w.heap.size (seen l k) (List.replicate l.length 0) ∧ Below w.heap.size w wr)
    (fun i _ => s.size - (intOf i).toNat)
  case atStart => exact ⟨0, Nat.zero_le _, rfl, hT0, hb0⟩
  case round =>
    obtain ⟨k, hk, rfl, hT, hb⟩ := hrel
    by_cases hlt : k < s.size
    · have e1 := byteR HS.out k hlt
      obtain ⟨b, hbb⟩ : ∃ b, b = l.getD k false := ⟨_, rfl⟩
      rw [← hbb] at e1
      have hc := hT.cellB k (by rw [length_seen _ _ (by have := HZ.out; omega)]; have := HZ.out; omega)
      obtain ⟨b0, hb0'⟩ : ∃ b0, b0 = (seen l k).getD k false := ⟨_, rfl⟩
      rw [← hb0'] at hc
      have hf := hT.free (k * 2)
      have R := Lib.hid (trp_step (by have := HZ.out; omega) hbb hT)
      have RB := Lib.hid (hb.setCell (p := ⟨w.heap.size, k * 2, none⟩) (Nat.le_refl _) (.bool b))
      clear hbb hb0' hT hb hT0 hb0
      go_wp2
      go_roundw
      case rel => exact ⟨k + 1, by omega, by go_num, R.out, RB.out⟩
      case measure => simp [intOf]; omega
    · have hT1 : Trp wr w.heap.size l (List.replicate l.length 0) := trp_done (by have := HZ.out; omega) hT
      have HC := Lib.hid (HM.out wr w.heap.size hb (Nat.le_refl _) (by rw [HZ.out]; exact hT1))
      clear hT hT0 hb0 hT1
      go_wp2_with (go_at_call 95; refine HC.out.mono ?_; rintro e w' ⟨v, rfl, hQ⟩)
      go_ret2
      exact ⟨_, rfl, hQ⟩

set_option maxRecDepth 20000 in
set_option maxHeartbeats 1000000 in
theorem told_hasBefore_no (s : ByteArray) (hs : s.size ≤ maxLen) (hg : goodB s = false) (w : World) :
    Calls Try.prog 76 #[.string s, .func (.func 98) #[] #[]] w fun e w' => e = .returned (.tuple #[.bool false, .bool false]) ∧ w = w' := by
  go_enter Try.func76, Try.ntmps76
  go_wp2_with (go_at_call 28; refine (isRow_any _ _ hs).mono ?_; rintro e w' ⟨rfl, rfl⟩)
  go_ret2
  exact ⟨rfl, rfl⟩
set_option maxRecDepth 20000 in
set_option maxHeartbeats 1000000 in
theorem told_hasBefore (l : List Bool) (h1 : 1 ≤ l.length) (h2 : l.length ≤ 60) (w : World) (Q : Value → World → Prop)
    (hm : ∀ (w2 : World) (g : Nat), Below w.heap.size w w2 → w.heap.size ≤ g → Trp w2 g l (List.replicate l.length 0) →
      Calls Try.prog 98 #[.slice (some ⟨g, 0, none⟩) l.length l.length] w2 fun e w' => ∃ v, e = .returned v ∧ Q v w') :
    Calls Try.prog 76 #[.string (Rw.str l), .func (.func 98) #[] #[]] w fun e w' => ∃ v, e = .returned (.tuple #[v, .bool true]) ∧ Q v w' := by
  obtain ⟨i0, hi, hz0, hz1, hz2⟩ := info_parts Try.info_placed
  have hsz : (Rw.str l).size = l.length := Rw.size_str l
  have hgood := goodB_str h1 h2
  obtain ⟨s, hs⟩ : ∃ s, s = Rw.str l := ⟨_, rfl⟩
  obtain ⟨n, hn⟩ : ∃ n, n = s.size := ⟨_, rfl⟩
  rw [← hs] at hsz hgood ⊢
  have HS := Lib.hid hs
  rw [← hsz] at h1 h2 hm
  have HM := Lib.hid hm
  have HZ := Lib.hid hsz
  have hml : s.size ≤ maxLen := by unfold maxLen; omega
  clear hs hsz hm
  go_enter Try.func76, Try.ntmps76
  go_wp2_with (first | (go_at_call 28; refine (isRow_any _ _ hml).mono ?_; rintro e w' ⟨rfl, rfl⟩) | (at_make; refine wpList_make_full _ rfl _ _ 60 rfl w.heap.size 94 i0 (.agg #[.bool false, .int .i64 0]) 2 Try.underlying60 hi hz0 hz1 .i64 .i64 _ _ s.size rfl rfl rfl rfl (by rw [hz2]; omega) (by unfold maxLen; omega) (Nat.le_refl _) ?_; intro w1 hown hgrow))
  have hT0 := made_trp HZ.out hown
  have hb0 := below_made hgrow
  have hg0 : w.heap.size < w1.heap.size := hT0.lt
  clear hown hgrow
  go_loopw [18] (fun i wr => ∃ k : Nat, k ≤ s.size ∧ i = .int .i64 k ∧ Trp wr w.heap.size (seen l k) (List.replicate l.length 0) ∧ Below w.heap.size w wr)
    (fun i _ => s.size - (intOf i).toNat)
  case atStart => exact ⟨0, Nat.zero_le _, rfl, hT0, hb0⟩
  case round =>
    obtain ⟨k, hk, rfl, hT, hb⟩ := hrel
    by_cases hlt : k < s.size
    · have e1 := byteR HS.out k hlt
      obtain ⟨b, hbb⟩ : ∃ b, b = l.getD k false := ⟨_, rfl⟩
      rw [← hbb] at e1
      have hc := hT.cellB k (by rw [length_seen _ _ (by have := HZ.out; omega)]; have := HZ.out; omega)
      obtain ⟨b0, hb0'⟩ : ∃ b0, b0 = (seen l k).getD k false := ⟨_, rfl⟩
      rw [← hb0'] at hc
      have hf := hT.free (k * 2)
      have R := Lib.hid (trp_step (by have := HZ.out; omega) hbb hT)
      have RB := Lib.hid (hb.setCell (p := ⟨w.heap.size, k * 2, none⟩) (Nat.le_refl _) (.bool b))
      clear hbb hb0' hT hb hT0 hb0
      go_wp2
      go_roundw
      case rel => exact ⟨k + 1, by omega, by go_num, R.out, RB.out⟩
      case measure => simp [intOf]; omega
    · have hT1 : Trp wr w.heap.size l (List.replicate l.length 0) := trp_done (by have := HZ.out; omega) hT
      have HC := Lib.hid (HM.out wr w.heap.size hb (Nat.le_refl _) (by rw [HZ.out]; exact hT1))
      clear hT hT0 hb0 hT1
      go_wp2_with (go_at_call 98; refine HC.out.mono ?_; rintro e w' ⟨v, rfl, hQ⟩)
      go_ret2
      exact ⟨_, rfl, hQ⟩

set_option maxRecDepth 20000 in
set_option maxHeartbeats 1000000 in
theorem told_number_no (s : ByteArray) (hs : s.size ≤ maxLen) (hg : goodB s = false) (w : World) :
    Calls Try.prog 63 #[.string s, .func (.func 81) #[] #[]] w fun e w' => e = .returned (.tuple #[.int .i64 0, .bool false]) ∧ w = w' := by
  go_enter Try.func63, Try.ntmps63
  go_wp2_with (go_at_call 28; refine (isRow_any _ _ hs).mono ?_; rintro e w' ⟨rfl, rfl⟩)
  go_ret2
  exact ⟨rfl, rfl⟩
set_option maxRecDepth 20000 in
set_option maxHeartbeats 1000000 in
theorem told_number (l : List Bool) (h1 : 1 ≤ l.length) (h2 : l.length ≤ 60) (w : World) (Q : Value → World → Prop)
    (hm : ∀ (w2 : World) (g : Nat), Below w.heap.size w w2 → w.heap.size ≤ g → Trp w2 g l (List.replicate l.length 0) →
      Calls Try.prog 81 #[.slice (some ⟨g, 0, none⟩) l.length l.length] w2 fun e w' => ∃ v, e = .returned v ∧ Q v w') :
    Calls Try.prog 63 #[.string (Rw.str l), .func (.func 81) #[] #[]] w fun e w' => ∃ v, e = .returned (.tuple #[v, .bool true]) ∧ Q v w' := by
  obtain ⟨i0, hi, hz0, hz1, hz2⟩ := info_parts Try.info_placed
  have hsz : (Rw.str l).size = l.length := Rw.size_str l
  have hgood := goodB_str h1 h2
  obtain ⟨s, hs⟩ : ∃ s, s = Rw.str l := ⟨_, rfl⟩
  obtain ⟨n, hn⟩ : ∃ n, n = s.size := ⟨_, rfl⟩
  rw [← hs] at hsz hgood ⊢
  have HS := Lib.hid hs
  rw [← hsz] at h1 h2 hm
  have HM := Lib.hid hm
  have HZ := Lib.hid hsz
  have hml : s.size ≤ maxLen := by unfold maxLen; omega
  clear hs hsz hm
  go_enter Try.func63, Try.ntmps63
  go_wp2_with (first | (go_at_call 28; refine (isRow_any _ _ hml).mono ?_; rintro e w' ⟨rfl, rfl⟩) | (at_make; refine wpList_make_full _ rfl _ _ 60 rfl w.heap.size 94 i0 (.agg #[.bool false, .int .i64 0]) 2 Try.underlying60 hi hz0 hz1 .i64 .i64 _ _ s.size rfl rfl rfl rfl (by rw [hz2]; omega) (by unfold maxLen; omega) (Nat.le_refl _) ?_; intro w1 hown hgrow))
  have hT0 := made_trp HZ.out hown
  have hb0 := below_made hgrow
  have hg0 : w.heap.size < w1.heap.size := hT0.lt
  clear hown hgrow
  go_loopw [18] (fun i wr => ∃ k : Nat, k ≤ s.size ∧ i = .int .i64 k ∧ Trp wr w.heap.size (seen l k) (List.replicate l.length 0) ∧ Below w.heap.size w wr)
    (fun i _ => s.size - (intOf i).toNat)
  case atStart => exact ⟨0, Nat.zero_le _, rfl, hT0, hb0⟩
  case round =>
    obtain ⟨k, hk, rfl, hT, hb⟩ := hrel
    by_cases hlt : k < s.size
    · have e1 := byteR HS.out k hlt
      obtain ⟨b, hbb⟩ : ∃ b, b = l.getD k false := ⟨_, rfl⟩
      rw [← hbb] at e1
      have hc := hT.cellB k (by rw [length_seen _ _ (by have := HZ.out; omega)]; have := HZ.out; omega)
      obtain ⟨b0, hb0'⟩ : ∃ b0, b0 = (seen l k).getD k false := ⟨_, rfl⟩
      rw [← hb0'] at hc
      have hf := hT.free (k * 2)
      have R := Lib.hid (trp_step (by have := HZ.out; omega) hbb hT)
      have RB := Lib.hid (hb.setCell (p := ⟨w.heap.size, k * 2, none⟩) (Nat.le_refl _) (.bool b))
      clear hbb hb0' hT hb hT0 hb0
      go_wp2
      go_roundw
      case rel => exact ⟨k + 1, by omega, by go_num, R.out, RB.out⟩
      case measure => simp [intOf]; omega
    · have hT1 : Trp wr w.heap.size l (List.replicate l.length 0) := trp_done (by have := HZ.out; omega) hT
      have HC := Lib.hid (HM.out wr w.heap.size hb (Nat.le_refl _) (by rw [HZ.out]; exact hT1))
      clear hT hT0 hb0 hT1
      go_wp2_with (go_at_call 81; refine HC.out.mono ?_; rintro e w' ⟨v, rfl, hQ⟩)
      go_ret2
      exact ⟨_, rfl, hQ⟩

set_option maxRecDepth 20000 in
set_option maxHeartbeats 1000000 in
theorem told_closure_no (pa : Addr) (s : ByteArray) (hs : s.size ≤ maxLen) (hg : goodB s = false) (w : World) :
    Calls Try.prog 67 #[.string s, .func (.func 87) #[] #[.pointer (some pa)]] w fun e w' => e = .returned (.tuple #[.string ByteArray.empty, .bool false]) ∧ w = w' := by
  go_enter Try.func67, Try.ntmps67
  go_wp2_with (go_at_call 28; refine (isRow_any _ _ hs).mono ?_; rintro e w' ⟨rfl, rfl⟩)
  go_ret2
  exact ⟨rfl, rfl⟩
set_option maxRecDepth 20000 in
set_option maxHeartbeats 1000000 in
theorem told_closure (pa : Addr) (l : List Bool) (h1 : 1 ≤ l.length) (h2 : l.length ≤ 60) (w : World) (Q : Value → World → Prop)
    (hm : ∀ (w2 : World) (g : Nat), Below w.heap.size w w2 → w.heap.size ≤ g → Trp w2 g l (List.replicate l.length 0) →
      Calls Try.prog 87 #[.slice (some ⟨g, 0, none⟩) l.length l.length, .pointer (some pa)] w2 fun e w' => ∃ v, e = .returned v ∧ Q v w') :
    Calls Try.prog 67 #[.string (Rw.str l), .func (.func 87) #[] #[.pointer (some pa)]] w fun e w' => ∃ v, e = .returned (.tuple #[v, .bool true]) ∧ Q v w' := by
  obtain ⟨i0, hi, hz0, hz1, hz2⟩ := info_parts Try.info_placed
  have hsz : (Rw.str l).size = l.length := Rw.size_str l
  have hgood := goodB_str h1 h2
  obtain ⟨s, hs⟩ : ∃ s, s = Rw.str l := ⟨_, rfl⟩
  obtain ⟨n, hn⟩ : ∃ n, n = s.size := ⟨_, rfl⟩
  rw [← hs] at hsz hgood ⊢
  have HS := Lib.hid hs
  rw [← hsz] at h1 h2 hm
  have HM := Lib.hid hm
  have HZ := Lib.hid hsz
  have hml : s.size ≤ maxLen := by unfold maxLen; omega
  clear hs hsz hm
  go_enter Try.func67, Try.ntmps67
  go_wp2_with (first | (go_at_call 28; refine (isRow_any _ _ hml).mono ?_; rintro e w' ⟨rfl, rfl⟩) | (at_make; refine wpList_make_full _ rfl _ _ 60 rfl w.heap.size 94 i0 (.agg #[.bool false, .int .i64 0]) 2 Try.underlying60 hi hz0 hz1 .i64 .i64 _ _ s.size rfl rfl rfl rfl (by rw [hz2]; omega) (by unfold maxLen; omega) (Nat.le_refl _) ?_; intro w1 hown hgrow))
  have hT0 := made_trp HZ.out hown
  have hb0 := below_made hgrow
  have hg0 : w.heap.size < w1.heap.size := hT0.lt
  clear hown hgrow
  go_loopw [18] (fun i wr => ∃ k : Nat, k ≤ s.size ∧ i = .int .i64 k ∧ Trp wr w.heap.size (seen l k) (List.replicate l.length 0) ∧ Below w.heap.size w wr)
    (fun i _ => s.size - (intOf i).toNat)
  case atStart => exact ⟨0, Nat.zero_le _, rfl, hT0, hb0⟩
  case round =>
    obtain ⟨k, hk, rfl, hT, hb⟩ := hrel
    by_cases hlt : k < s.size
    · have e1 := byteR HS.out k hlt
      obtain ⟨b, hbb⟩ : ∃ b, b = l.getD k false := ⟨_, rfl⟩
      rw [← hbb] at e1
      have hc := hT.cellB k (by rw [length_seen _ _ (by have := HZ.out; omega)]; have := HZ.out; omega)
      obtain ⟨b0, hb0'⟩ : ∃ b0, b0 = (seen l k).getD k false := ⟨_, rfl⟩
      rw [← hb0'] at hc
      have hf := hT.free (k * 2)
      have R := Lib.hid (trp_step (by have := HZ.out; omega) hbb hT)
      have RB := Lib.hid (hb.setCell (p := ⟨w.heap.size, k * 2, none⟩) (Nat.le_refl _) (.bool b))
      clear hbb hb0' hT hb hT0 hb0
      go_wp2
      go_roundw
      case rel => exact ⟨k + 1, by omega, by go_num, R.out, RB.out⟩
      case measure => simp [intOf]; omega
    · have hT1 : Trp wr w.heap.size l (List.replicate l.length 0) := trp_done (by have := HZ.out; omega) hT
      have HC := Lib.hid (HM.out wr w.heap.size hb (Nat.le_refl _) (by rw [HZ.out]; exact hT1))
      clear hT hT0 hb0 hT1
      go_wp2_with (go_at_call 87; refine HC.out.mono ?_; rintro e w' ⟨v, rfl, hQ⟩)
      go_ret2
      exact ⟨_, rfl, hQ⟩

end Go.Proofs.Ytacchefmblfobaa.C1
