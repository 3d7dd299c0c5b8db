/- slices.Reverse in a block, slices.Clone; the methods mirrored, list, mirroredList, seenFromRight. -/
import Derived.Test.YtkolkigpppfhcaaHp2
import Derived.RegionTactic
import Derived.BigRegion
import Derived.ChangeAlike
import Derived.Laws.Cover3
namespace Go.Proofs.Ytkolkigpppfhcaa
open Go.ChangeShapes Go.WideShapes Go.ChangeAt Go.RowKit

/-- the list of which k at each end have been exchanged -/
def revTo {α : Type} (d : α) (l : List α) (k : Nat) : List α := (List.range l.length).map fun i => if i < k ∨ l.length ≤ i + k then l.getD (l.length - 1 - i) d else l.getD i d
theorem length_revTo {α : Type} (d : α) (l : List α) (k : Nat) : (revTo d l k).length = l.length := by simp [revTo]
theorem getD_revTo {α : Type} (d : α) (l : List α) (k i : Nat) (hi : i < l.length) : (revTo d l k).getD i d = if i < k ∨ l.length ≤ i + k then l.getD (l.length - 1 - i) d else l.getD i d := by
  rw [List.getD_eq_getElem?_getD, revTo, List.getElem?_map, List.getElem?_range hi]; rfl
theorem ext_getD {α : Type} (d : α) {a b : List α} (hl : a.length = b.length) (h : ∀ i, i < a.length → a.getD i d = b.getD i d) : a = b := by
  apply List.ext_getElem hl
  intro i h1 h2
  have := h i h1
  simpa [List.getD_eq_getElem?_getD, h1, h2] using this
theorem revTo_zero {α : Type} (d : α) (l : List α) : revTo d l 0 = l := by
  refine ext_getD d (length_revTo _ _ _) fun i hi => ?_
  rw [length_revTo] at hi
  rw [getD_revTo _ _ _ _ hi, if_neg (by omega)]
theorem revTo_all {α : Type} (d : α) (l : List α) (k : Nat) (hk : l.length ≤ 2 * k + 1) : revTo d l k = l.reverse := by
  refine ext_getD d (by rw [length_revTo, List.length_reverse]) fun i hi => ?_
  rw [length_revTo] at hi
  have hr : l.reverse.getD i d = l.getD (l.length - 1 - i) d := by
    simp only [List.getD_eq_getElem?_getD]
    rw [List.getElem?_reverse hi]
  rw [getD_revTo _ _ _ _ hi, hr]
  by_cases h : i < k ∨ l.length ≤ i + k
  · rw [if_pos h]
  · rw [if_neg h, show l.length - 1 - i = i from by omega]
theorem revTo_succ {α : Type} (d : α) (l : List α) (k j : Nat) (hj : j + k + 1 = l.length) (hkj : k < j) :
    ((revTo d l k).set k ((revTo d l k).getD j d)).set j ((revTo d l k).getD k d) = revTo d l (k + 1) := by
  have hl := length_revTo d l k
  refine ext_getD d (by simp [length_revTo]) fun i hi => ?_
  rw [List.length_set, List.length_set, hl] at hi
  rw [getD_set, getD_set, getD_revTo _ _ (k + 1) i hi]
  rw [getD_revTo _ _ k j (by omega), getD_revTo _ _ k k (by omega), getD_revTo _ _ k i hi]
  by_cases h1 : i = j
  · subst h1
    rw [if_pos ⟨rfl, by rw [List.length_set, hl]; omega⟩, if_neg (by omega), if_pos (by omega), show l.length - 1 - i = k from by omega]
  · rw [if_neg (by omega)]
    by_cases h2 : i = k
    · subst h2
      rw [if_pos ⟨rfl, by rw [hl]; omega⟩, if_neg (by omega), if_pos (by omega), show l.length - 1 - i = j from by omega]
    · rw [if_neg (by omega)]
      by_cases h3 : i < k ∨ l.length ≤ i + k
      · rw [if_pos h3, if_pos (by omega)]
      · rw [if_neg h3, if_neg (by omega)]


theorem splice_get {α : Type} (L : List α) (off : Nat) (cs : List α) (h : off + cs.length ≤ L.length) (j : Nat) (hj : j < cs.length) : (splice L off cs)[off + j]? = cs[j]? := by
  unfold splice
  rw [List.getElem?_append_right (by rw [List.length_take]; omega), List.length_take, show off + j - min off L.length = j from by omega, List.getElem?_append_left hj]
theorem splice_set {α : Type} (L : List α) (off : Nat) (cs : List α) (h : off + cs.length ≤ L.length) (j : Nat) (hj : j < cs.length) (x : α) : (splice L off cs).set (off + j) x = splice L off (cs.set j x) := by
  unfold splice
  rw [List.set_append_right _ _ (by rw [List.length_take]; omega), List.length_take, show off + j - min off L.length = j from by omega, List.set_append_left _ _ hj, List.length_set]
theorem splice_same {α : Type} (L : List α) (off : Nat) (cs : List α) (h : off + cs.length ≤ L.length) (he : ∀ j, j < cs.length → L[off + j]? = cs[j]?) : splice L off cs = L := by
  apply List.ext_getElem?
  intro i
  unfold splice
  by_cases h1 : i < off
  · rw [List.getElem?_append_left (by rw [List.length_take]; omega), List.getElem?_take, if_pos h1]
  · rw [List.getElem?_append_right (by rw [List.length_take]; omega), List.length_take, show min off L.length = off from by omega]
    by_cases h2 : i - off < cs.length
    · rw [List.getElem?_append_left h2, ← he _ h2]; congr 1; omega
    · rw [List.getElem?_append_right (by omega), List.getElem?_drop]; congr 1; omega
def vals (zs : List Int) : List Value := zs.map (Value.int .i64)
theorem length_vals (zs : List Int) : (vals zs).length = zs.length := by simp [vals]
theorem vals_set (zs : List Int) (j : Nat) (z : Int) : (vals zs).set j (.int .i64 z) = vals (zs.set j z) := by simp [vals]
theorem vals_get (zs : List Int) (j : Nat) (hj : j < zs.length) : (vals zs)[j]? = some (.int .i64 (zs.getD j 0)) := by simp [vals, hj]

set_option maxHeartbeats 2000000 in
theorem reverse_any (w : World) (g off n cap : Nat) (t : TypeId) (cs : List Value) (zs : List Int) (hz : zs.length = n) (hn : n ≤ 1000000000) (hcs : off + n ≤ cs.length) (hB : Blk w g t (splice cs off (vals zs))) :
    Calls Try.prog 28 #[.slice (some ⟨g, off, none⟩) n cap] w fun e w' => e = .returned (.tuple #[]) ∧ Blk w' g t (splice cs off (vals zs.reverse)) ∧ w.grownBy w' (some g) := by
  have HB0 : Hid (Blk w g t (splice cs off (vals (revTo 0 zs 0)))) := by rw [revTo_zero]; exact hB
  have HZ := Lib.hid hz
  have HCS := Lib.hid hcs
  clear hB hz hcs
  go_enter Try.func28, Try.ntmps28
  go_wp2
  go_loopw [2, 3] (fun i j wr => ∃ k : Nat, 2 * k ≤ n + 1 ∧ i = .int .i64 k ∧ j = .int .i64 ((n : Int) - 1 - k) ∧ Blk wr g t (splice cs off (vals (revTo 0 zs k))) ∧ w.grownBy wr (some g)) (fun i _ _ => n + 1 - (intOf i).toNat)
  case atStart => exact ⟨0, by omega, rfl, by simp, HB0.out, World.grownBy.refl _ _⟩
  case round =>
    obtain ⟨k, hk, rfl, rfl, hTr, hG⟩ := hrel
    have hlen : (revTo 0 zs k).length = n := by rw [length_revTo]; exact HZ.out
    by_cases hlt : 2 * k + 1 < n
    · obtain ⟨j, hj⟩ : ∃ j, j + k + 1 = n := ⟨n - 1 - k, by omega⟩
      have ej : ((n : Int) - 1 - k) = (j : Int) := by omega
      rw [ej]
      have hkj : k < j := by omega
      have hjn : j < n := by omega
      have hcs := HCS.out
      have hfit : off + (vals (revTo 0 zs k)).length ≤ cs.length := by rw [length_vals, hlen]; exact hcs
      have e1 : wr.cell? ⟨g, off + k, none⟩ = some (.int .i64 ((revTo 0 zs k).getD k 0)) := by
        rw [hTr.cell, splice_get _ _ _ hfit _ (by rw [length_vals, hlen]; omega), vals_get _ _ (by omega)]
      have e2 : wr.cell? ⟨g, off + j, none⟩ = some (.int .i64 ((revTo 0 zs k).getD j 0)) := by
        rw [hTr.cell, splice_get _ _ _ hfit _ (by rw [length_vals, hlen]; omega), vals_get _ _ (by omega)]
      have R1 := revTo_succ 0 zs k j (by have := HZ.out; omega) hkj
      obtain ⟨x1, hx1⟩ : ∃ b, b = (revTo 0 zs k).getD k 0 := ⟨_, rfl⟩
      obtain ⟨x2, hx2⟩ : ∃ b, b = (revTo 0 zs k).getD j 0 := ⟨_, rfl⟩
      rw [← hx1] at e1 R1
      rw [← hx2] at e2 R1
      have z1 := hTr.free (off + k)
      have z2 := hTr.free (off + j)
      have i1 : (0 : Int) ≤ (k : Int) := by omega
      have i2 : (k : Int) < (n : Int) := by omega
      have i3 : (0 : Int) ≤ (j : Int) := by omega
      have i4 : (j : Int) < (n : Int) := by omega
      have HTr : Hid (Blk ((wr.setCell ⟨g, off + k, none⟩ (.int .i64 x2)).setCell ⟨g, off + j, none⟩ (.int .i64 x1)) g t (splice cs off (vals (revTo 0 zs (k + 1))))) := by
        have h1 := (hTr.set (off + k) (.int .i64 x2)).set (off + j) (.int .i64 x1)
        rw [splice_set _ _ _ hfit _ (by rw [length_vals, hlen]; omega), vals_set, splice_set _ _ _ (by rw [length_vals, List.length_set, hlen]; exact hcs) _ (by rw [length_vals, List.length_set, hlen]; omega), vals_set, R1] at h1
        exact h1
      have HG : Hid (w.grownBy ((wr.setCell ⟨g, off + k, none⟩ (.int .i64 x2)).setCell ⟨g, off + j, none⟩ (.int .i64 x1)) (some g)) := grownBy_trans hG (grownBy_trans (set_grown _ _ _ _) (set_grown _ _ _ _))
      have HJ := Lib.hid hj
      clear hx1 hx2 ej hj hTr hG hlen hfit hcs R1
      go_wp2_with fail
      go_region
      go_wp2
      go_roundw
      case rel => exact ⟨k + 1, by have := HJ.out; omega, by go_num, int_eq (by have := HJ.out; omega), HTr.out, ⟨HG.out.os, HG.out.tape, HG.out.output, HG.out.size, HG.out.block⟩⟩
      case measure => simp [intOf]; have := HJ.out; omega
    · have H1 : Hid (Blk wr g t (splice cs off (vals zs.reverse))) := by rw [← revTo_all 0 zs k (by have := HZ.out; omega)]; exact hTr
      have HG := Lib.hid hG
      clear hTr hG hlen
      go_wp2
      go_end0
      exact ⟨rfl, H1.out, HG.out⟩

theorem vals_asInts_rev (hs : List Nat) : vals (asInts hs).reverse = vals (asInts hs.reverse) := by unfold asInts; rw [List.map_reverse]
theorem splice_hc_same (hs : List Nat) : splice (hc hs) 0 (vals (asInts hs)) = hc hs := by
  unfold splice hc vals
  simp [asInts_len]
theorem splice_hc_rev (hs : List Nat) : splice (hc hs) 0 (vals (asInts hs).reverse) = hc hs.reverse := by
  rw [vals_asInts_rev]
  unfold splice hc vals
  simp [asInts_len]

/-- append of a whole slice to one that the call owns -/
theorem wpList_appAll {ops : Array Oper} {rest : List Oper} {o : Oper} {a : Act} {Q : Exit → Act → World → Prop} {w : World} (hgd : o.guard = none) (s x : Operand)
    (ho : o.op = .call { callee := .builtin .append, args := #[s, x], argTypes := #[25, 25] })
    (B : Nat) (v : Value) (zs ys : List Int) (ad : Addr) (len cap : Nat) (hs : a.eval s = v) (hx : a.eval x = .slice (some ad) len cap)
    (own : Own w B v zs) (hc : Came w (some ad) len ys) (hB : B ≤ w.heap.size) (hl : zs.length + len ≤ 1000000000)
    (h : ∀ v' w', Hid (Own w' B v' (zs ++ ys)) → Hid (Below B w w') → Stop (wpList Try.prog ops Q rest (a.put o.dst v') w')) : wpList Try.prog ops Q (o :: rest) a w := by
  obtain ⟨i0, hi, hz0, hz1, hz2⟩ := info_parts Try.info_int
  have hown : w.ownsRow B 3 1 v zs.length (zs.map (Value.int .i64)) := own
  have hyl := hc.1
  refine wpList_append_own _ hgd s x 25 ho B 3 i0 (.int .i64 0) 1 8 Try.underlying25 hi hz0 hz1 hz2 rfl (by decide) v zs.length _ hs hown ad len cap (ys.map (Value.int .i64)) hx (by simpa using hyl) ?_ ?_ ?_ ?_ ?_ ?_
  · intro j u hj
    have hp : 0 < len := by
      have := (List.getElem?_eq_some_iff.1 hj).1
      simp at this; omega
    obtain ⟨ad', e, hsrc⟩ := hc.src hp
    cases e
    exact hsrc j u hj
  · intro u hu; exact ints_one _ _ hu
  · unfold maxLen; omega
  · omega
  · omega
  · intro v' w' h1 h2 _
    have hv : Own w' B v' (zs ++ ys) := by
      unfold Own
      rw [List.length_append, List.map_append, hyl]
      exact h1
    exact (h v' w' (Lib.hid hv) (Lib.hid ((Below.refl _ _).grown h2 hB (fun k hk => (World.ownsRow.lt hown k hk).1)))).on


set_option maxHeartbeats 1000000 in
theorem mirrored_any (w : World) (hs : List Nat) (h2 : hs.length ≤ 40) :
    Calls Try.prog 27 #[.agg (hc hs).toArray] w fun e w' => e = .returned (.agg (hc hs.reverse).toArray) ∧ Below w.heap.size w w' := by
  obtain ⟨len, hlen⟩ : ∃ n, n = hs.length := ⟨_, rfl⟩
  have HZL := Lib.hid hlen
  rw [← hlen] at h2
  clear hlen
  go_enter Try.func27, Try.ntmps27
  go_wp2_with (refine wpList_box 39 _ rfl rfl (hc hs) rfl ?_; intro w1 g G1 B1 L1)
  refine ⟨?_⟩
  go_wp2_with (refine wpList_new 39 rfl rfl _ _ Try.info_heights ?_; intro w2 r G2 B2 L2)
  refine ⟨?_⟩
  have B1' := Lib.hid (B1.out.below L2.out B1.out.lt)
  have ec := B1'.out.count (by have := HZL.out; omega)
  rw [← HZL.out] at ec
  have c1 : (0 : Int) ≤ (len : Int) := by omega
  have c2 : (len : Int) ≤ 40 := by omega
  have HR := Lib.hid (reverse_any w2 g 0 len 40 _ (hc hs) (asInts hs) (by rw [asInts_len]; exact HZL.out.symm) (by omega) (by rw [length_hc hs (by have := HZL.out; omega)]; omega) (by rw [splice_hc_same]; exact B1'.out))
  rw [splice_hc_rev] at HR
  go_wp2_with fail
  go_at_call 28
  refine HR.out.mono ?_
  rintro e w3 ⟨rfl, b3, l3⟩
  have B3 := Lib.hid b3
  have L3 := Lib.hid l3
  have R3 := Lib.hid (B2.out.grown l3 (fun e => by cases e; have := G2.out; have := B1.out.lt; omega))
  have LR : Hid (hs.reverse.length = len) := Lib.hid (by rw [List.length_reverse]; exact HZL.out.symm)
  clear b3 l3 ec c1 c2
  go_wp2_with (refine wpList_loadAll 39 _ rfl rfl g _ (hc hs.reverse) _ Try.underlying39 rfl 41 Try.size_heights rfl B3 (length_hc _ (by have := LR.out; omega)) ?_)
  refine ⟨?_⟩
  go_wp2_with (refine wpList_storeAll 39 _ _ rfl rfl r _ (hc []) (hc hs.reverse) 41 Try.size_heights rfl rfl R3 (length_hc _ (by have := LR.out; omega)) (length_hc [] (by simp)) (hc_one _) ?_; intro w4 B4 L4)
  refine ⟨?_⟩
  go_wp2
  refine ret_cell 2 39 (by kernel_rfl) r _ (hc hs.reverse) _ Try.underlying39 rfl 41 Try.size_heights rfl B4.out (length_hc _ (by have := LR.out; omega)) rfl ?_
  have l12 := L1.out.trans (L2.out.mono L1.out.size)
  exact ⟨rfl, grownBy_below (grownBy_below l12 L3.out (Nat.le_refl _) (by have := G1.out; omega)) L4.out (Nat.le_refl _) (by have := G2.out; have := L1.out.size; omega)⟩


end Go.Proofs.Ytkolkigpppfhcaa
