/- Chapter 7, the program: the keys of a map in order. -/
import Derived.Test.YtkdpjimbhpclaabVe
import Derived.Test.YtkdpjimbhpclaabShs
import Derived.Laws.CopyOwn
namespace Go.Proofs.Ytkdpjimbhpclaab
open Go.ChangeShapes Go.WideShapes Go.ChangeAt Go.RowKit
open Rx Od Ed

namespace Ed
def sortL (zs : List Int) : List Int := zs.mergeSort fun x y => decide (x ≤ y)
theorem length_sortL (zs : List Int) : (sortL zs).length = zs.length := (List.mergeSort_perm _ _).length_eq
theorem sortL_up (zs : List Int) : (sortL zs).Pairwise (· ≤ ·) := by
  have := List.pairwise_mergeSort (le := fun x y : Int => decide (x ≤ y)) (fun _ _ _ h1 h2 => decide_eq_true (Int.le_trans (of_decide_eq_true h1) (of_decide_eq_true h2))) (fun a b => by
    rcases Int.le_total a b with h | h
    · simp [h]
    · simp [h]) zs
  exact this.imp (fun h => of_decide_eq_true h)
theorem sortL_only {zs ys : List Int} (hp : ys.Perm zs) (hu : ys.Pairwise (· ≤ ·)) : sortL zs = ys :=
  List.Perm.eq_of_pairwise (le := (· ≤ ·)) (fun _ _ _ _ h1 h2 => Int.le_antisymm h1 h2) (sortL_up zs) hu ((List.mergeSort_perm _ _).trans hp.symm)
theorem merge_sortL (zs : List Int) : (zs.mergeSort fun x y => decide (x ≤ y)) = sortL zs := rfl
/-- the keys below M in order -/
def keysS (S : Int → Bool) (M : Nat) : List Int := ((List.range M).filter fun k : Nat => S (k : Int)).map fun k : Nat => (k : Int)
theorem mem_keysS {S : Int → Bool} {M : Nat} (h : ∀ x, S x = true → 0 ≤ x ∧ x < (M : Int)) (x : Int) : x ∈ keysS S M ↔ S x = true := by
  unfold keysS
  rw [List.mem_map]
  constructor
  · rintro ⟨k, hk, rfl⟩
    rw [List.mem_filter] at hk
    exact hk.2
  · intro hx
    have := h x hx
    refine ⟨x.toNat, ?_, by omega⟩
    rw [List.mem_filter, List.mem_range]
    exact ⟨by omega, by rw [show ((x.toNat : Nat) : Int) = x by omega]; exact hx⟩
theorem keysS_lt (S : Int → Bool) (M : Nat) : (keysS S M).Pairwise (· < ·) := by
  unfold keysS
  rw [List.pairwise_map]
  exact ((List.pairwise_lt_range (n := M)).filter _).imp (fun h => by omega)
theorem keysS_len (S : Int → Bool) (M : Nat) : (keysS S M).length ≤ M := by
  unfold keysS
  rw [List.length_map]
  have := List.length_filter_le (fun k : Nat => S (k : Int)) (List.range M)
  rw [List.length_range] at this
  exact this
/-- the keys met so far -/
def MetK (S : Int → Bool) (left : Lit → Bool) (zs : List Int) : Prop := zs.Nodup ∧ ∀ x, x ∈ zs ↔ (S x = true ∧ left (.int .i64 x) = false)
theorem MetK.step {S : Int → Bool} {left left' : Lit → Bool} {zs : List Int} {x : Int} (h : MetK S left zs) (hl : left (.int .i64 x) = true) (hs : S x = true) (hL : ∀ y : Int, left' (.int .i64 y) = (left (.int .i64 y) && !decide (y = x))) : MetK S left' (zs ++ [x]) := by
  refine ⟨?_, fun y => ?_⟩
  · rw [List.nodup_append]
    refine ⟨h.1, by simp, ?_⟩
    intro a ha b hb
    rw [List.mem_singleton] at hb
    subst hb
    rintro rfl
    have := ((h.2 a).1 ha).2
    rw [hl] at this; cases this
  · rw [List.mem_append, List.mem_singleton, h.2 y, hL]
    by_cases e : y = x
    · subst e; simp [hs]
    · simp [e]
theorem MetK.done {S : Int → Bool} {left : Lit → Bool} {zs : List Int} {M : Nat} (h : MetK S left zs) (hl : ∀ x : Int, left (.int .i64 x) = false) (hM : ∀ x, S x = true → 0 ≤ x ∧ x < (M : Int)) : sortL zs = keysS S M := by
  refine sortL_only ?_ ((keysS_lt S M).imp Int.le_of_lt)
  refine (List.perm_ext_iff_of_nodup ((keysS_lt S M).imp (fun h => by omega)) h.1).2 fun x => ?_
  rw [mem_keysS hM, h.2 x, hl]; simp
theorem keysS_ed (d : List Bool) : keysS (edS d) (d.length + 1) = (edges d (d.length + 1)).map fun k : Nat => (k : Int) := by
  unfold keysS edges
  rw [List.filter_congr (fun k _ => edS_nat d k)]
theorem edS_in (d : List Bool) (x : Int) (h : edS d x = true) : 0 ≤ x ∧ x < ((d.length + 1 : Nat) : Int) := by
  obtain ⟨k, rfl, h1, _⟩ := edS_pos h
  omega
theorem Rng.below {w w' : World} {b r N cnt B : Nat} {S : Int → Bool} {left : Lit → Bool} (h : Rng w b r N S left cnt) (hb : Below B w w') (h1 : b < B) (h2 : r < B) : Rng w' b r N S left cnt := by
  obtain ⟨D, ⟨es, clock, since, seen, c0, e1, F, hs, hD, e2, rest⟩, hI⟩ := h
  exact ⟨D, ⟨es, clock, since, seen, c0, (hb.block b h1).trans e1, F, hs, hD, (hb.block r h2).trans e2, rest⟩, hI⟩
end Ed

theorem sortOwn_p (w : World) (B g n cap : Nat) (zs : List Int) (hn : n = zs.length) (hb : n ≤ 1000000000) (h : Own w B (.slice (some ⟨g, 0, none⟩) n cap) zs) :
    Calls Try.prog 86 #[.slice (some ⟨g, 0, none⟩) n cap] w fun e w' => e = .returned (.tuple #[]) ∧ Own w' B (.slice (some ⟨g, 0, none⟩) n cap) (sortL zs) ∧ Below B w w' := by
  subst hn
  have hcell := fun j hj => h.cell rfl j hj
  have hfree := fun j => h.free rfl j
  obtain ⟨h1, h2⟩ := h
  rcases h2 with ⟨e, _⟩ | ⟨g2, cap2, cur, e, hB, hg, hnc, hcm, hcs, htk⟩
  · cases e
  · injection e with e1 e2 e3
    injection e1 with e1
    injection e1 with e1
    subst e1 e3
    have hlt : g < w.heap.size := lt_of_block hg
    have hH : Go.Sort.Holds (Value.int .i64) w g 0 zs.toArray := fun j hj => by
      rw [List.size_toArray] at hj
      rw [Nat.zero_add]
      refine ⟨?_, hfree _⟩
      rw [hcell j hj]
      simp [List.getD_eq_getElem?_getD]
    have hc := Try.slices_Sort_int g 0 cap zs w hH hlt (by omega)
    rw [merge_sortL] at hc
    refine hc.mono ?_
    rintro e w' ⟨he, m, os, rfl⟩
    have hsl := length_sortL zs
    have hb2 : (Go.Sort.grow (Go.Sort.putRow (Value.int .i64) (Go.Sort.ahead w m) g 0 (sortL zs).toArray) os).heap[g]? = some (.cells (Go.Sort.putCells (Value.int .i64) 0 (sortL zs).toArray cur) 3 (0, 0)) := by
      rw [Go.Sort.heap_grow_old _ _ (by rw [Go.Sort.size_putRow]; exact hlt)]
      unfold Go.Sort.putRow Go.Sort.mapBlock
      have h2 : (Go.Sort.ahead w m).heap[g]? = some (.cells cur 3 (0, 0)) := hg
      simp only [Array.getElem?_modify, if_pos, h2, Option.map_some, Go.Sort.onCells]
    refine ⟨he, ?_, ⟨rfl, rfl, rfl, ?_, fun k hk => ?_⟩⟩
    · refine ⟨by rw [List.length_map, Nat.mul_one], .inr ⟨g, cap, _, by rw [hsl], hB, hb2, by rw [hsl]; exact hnc, hcm, by simp [Go.Sort.putCells]; omega, ?_⟩⟩
      rw [Nat.mul_one, hsl]
      refine List.ext_getElem? fun k => ?_
      rw [List.getElem?_take]
      by_cases hk : k < zs.length
      · have hk2 : k < (sortL zs).length := by omega
        have hk3 : k < cur.size := by omega
        rw [if_pos hk]
        simp only [Go.Sort.putCells, Array.getElem?_toList, Array.getElem?_mapIdx, List.size_toArray, hsl, Nat.zero_add, Nat.sub_zero]
        simp [hk, hk2, hk3]
      · rw [if_neg hk]
        symm
        rw [List.getElem?_eq_none]
        simp; omega
    · rw [Go.Sort.size_grow, Go.Sort.size_putRow]; exact Nat.le_add_right _ _
    · rw [Go.Sort.heap_grow_old _ _ (by rw [Go.Sort.size_putRow]; show k < w.heap.size; omega)]
      unfold Go.Sort.putRow Go.Sort.mapBlock
      have hne : g ≠ k := by omega
      simp only [Array.getElem?_modify, if_neg hne]
      rfl

theorem sortNil_p (w : World) : Calls Try.prog 86 #[.slice none 0 0] w fun e w' => e = .returned (.tuple #[]) ∧ w = w' :=
  (Try.slices_Sort_int_none none 0 w).mono fun _ _ h => ⟨h.1, h.2.symm⟩

set_option maxRecDepth 20000 in
set_option maxHeartbeats 1000000 in
theorem inOrder_p (w : World) (b N M : Nat) (S : Int → Bool) (hF : Fst w b N S) (hN : N ≤ 1000) (hS : ∀ x, S x = true → 0 ≤ x ∧ x < (M : Int)) :
    Calls Try.prog 79 #[.map (some b)] w fun e w' => ∃ v, e = .returned v ∧ Own w' w.heap.size v (keysS S M) ∧ Below w.heap.size w w' := by
  have HF := Lib.hid hF
  have HS := Lib.hid hS
  have hbl := hF.lt
  clear hF hS
  go_enter Try.func79, Try.ntmps79
  go_wp2_with (at_range; refine wpList_rangeF _ rfl _ 66 rfl Try.underlying66 rfl HF.out ?_; intro w1 left0 cnt0 hR hL hcN hG hsz)
  go_frame
  have HR1 := Lib.hid hR
  have HL1 := Lib.hid hL
  have HB1 : Hid (Below w.heap.size w w1) := Lib.hid (below_made hG)
  have hs1 : w1.heap.size = w.heap.size + 1 := hsz
  have HS1 := Lib.hid hs1
  clear hR hL hG hsz hs1
  go_loopw [3, 4] (fun v _ wr => ∃ (left : Lit → Bool) (cnt : Nat) (zs : List Int), Hid (Rng wr b w.heap.size N S left cnt) ∧ Hid (Own wr w1.heap.size v zs) ∧ Hid (MetK S left zs) ∧ zs.length + cnt ≤ N ∧ Hid (Below w.heap.size w wr) ∧ Hid (w1.heap.size ≤ wr.heap.size)) (fun _ _ wr => wr.rangeLeft b w.heap.size)
  case atStart => exact ⟨left0, cnt0, [], HR1, Lib.hid (own_nil _ _), Lib.hid ⟨List.nodup_nil, fun x => by rw [HL1.out]; simp⟩, by simpa using hcN, HB1, Lib.hid (Nat.le_refl _)⟩
  case round =>
    obtain ⟨left, cnt, zs, HR, HO, HC, hlen, HB, HZ⟩ := hrel
    obtain ⟨wo, rfl⟩ : ∃ wo : World, wo = wr := ⟨_, rfl⟩
    have hrl := HR.out.lt
    have hzz := HZ.out
    have hs1 := HS1.out
    go_wp2_with (first | (at_next; refine wpList_nextF _ rfl _ rfl rfl HR.out ?_ ?_) | go_in)
    · intro _ hl0
      have HK := Lib.hid (HC.out.done hl0 HS.out)
      clear hl0
      rcases HO.out.shape with ⟨rfl, h0⟩ | ⟨g, cap, rfl, hpos⟩
      · have hz : zs = [] := List.eq_nil_of_length_eq_zero h0
        subst hz
        go_wp2_with (go_at_call 86; refine (sortNil_p _).mono ?_; rintro e w3 ⟨rfl, rfl⟩)
        go_ret
        exact ⟨_, rfl, by rw [← HK.out, show sortL ([] : List Int) = [] from List.eq_nil_of_length_eq_zero (length_sortL [])]; exact own_nil _ _, HB.out⟩
      · have HC2 := Lib.hid (sortOwn_p wo w1.heap.size g _ cap zs rfl (by omega) HO.out)
        obtain ⟨n, hn⟩ : ∃ n, n = zs.length := ⟨_, rfl⟩
        rw [← hn] at HC2
        have HN := Lib.hid hn
        rw [← hn]
        clear hn
        go_wp2_with (go_at_call 86; refine HC2.out.mono ?_; rintro e w3 ⟨rfl, h3, b3⟩)
        go_ret
        exact ⟨_, rfl, by rw [← HK.out]; exact h3.mono (by omega), HB.out.trans (b3.mono (by omega))⟩
    · intro x w2 left2 cnt2 hwf hlx hSx hR2 hL2 hlt hG2 hsz2 hen
      have HR2 := Lib.hid hR2
      have HC2 := Lib.hid (HC.out.step hlx hSx hL2)
      have HO2 := Lib.hid (HO.out.grown hG2 (fun k hk => Or.inr (fun e => by
        cases hk
        have := (World.ownsRow.lt HO.out _ e).1
        omega)))
      have HB2 : Hid (Below w.heap.size w w2) := Lib.hid (HB.out.grown hG2 (by omega) (fun k hk => by cases hk; exact Nat.le_refl _))
      have HLT := Lib.hid hlt
      have HLE := Lib.hid HR.out.left_eq
      have HZ2 := Lib.hid (show w2.heap.size = wo.heap.size from hsz2)
      have hz2 : w1.heap.size ≤ w2.heap.size := by rw [HZ2.out]; exact hzz
      have hul : zs.length ≤ 1000000000 := by omega
      clear hlx hSx hR2 hL2 hlt hG2 hsz2
      go_wp2_with (at_builtin; refine wpList_app rfl _ _ rfl w2 _ _ _ _ rfl rfl HO2.out hz2 hul ?_; intro v6 w6 O6 B6; refine Stop.on ?_)
      have HO6 := Lib.hid O6
      have HR6 := Lib.hid (HR2.out.below B6 (by omega) (by omega))
      have HB6 : Hid (Below w.heap.size w w6) := Lib.hid (HB2.out.trans (B6.mono (by omega)))
      have HZ6 : Hid (w1.heap.size ≤ w6.heap.size) := Lib.hid (Nat.le_trans hz2 B6.size)
      have HRL := Lib.hid HR6.out.left_eq
      clear O6 B6
      refine ⟨?_⟩
      go_wp2
      exact ⟨⟨left2, cnt2, _, HR6, HO6, HC2, by have := HLT.out; simp; omega, HB6, HZ6⟩, by rw [HRL.out, HLE.out]; exact HLT.out⟩

end Go.Proofs.Ytkdpjimbhpclaab
