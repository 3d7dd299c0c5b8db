
/- slices.Reverse at a troop, and mirrored. -/
import Derived.Test.YtacchefmblfobaaC1SpecB
import Derived.Test.YtacchefmblfobaaC1Turned
import Derived.RegionTactic
import Derived.BigRegion
import Derived.ChangeAlike
namespace Go.Proofs.Ytacchefmblfobaa.C1
open Go.ChangeShapes Go.WideShapes Go.ChangeAt Go.RowKit

/-- the list of which k at each end have been exchanged -/
def revTo {α : Type} (d : α) (l : List α) (k : Nat) : List α := (List.range l.length).map fun i => if i < k ∨ l.length ≤ i + k then l.getD (l.length - 1 - i) d else l.getD i d
theorem length_revTo {α : Type} (d : α) (l : List α) (k : Nat) : (revTo d l k).length = l.length := by simp [revTo]
theorem getD_revTo {α : Type} (d : α) (l : List α) (k i : Nat) (hi : i < l.length) : (revTo d l k).getD i d = if i < k ∨ l.length ≤ i + k then l.getD (l.length - 1 - i) d else l.getD i d := by
  rw [List.getD_eq_getElem?_getD, revTo, List.getElem?_map, List.getElem?_range hi]; rfl
theorem ext_getD {α : Type} (d : α) {a b : List α} (hl : a.length = b.length) (h : ∀ i, i < a.length → a.getD i d = b.getD i d) : a = b := by
  apply List.ext_getElem hl
  intro i h1 h2
  have := h i h1
  simpa [List.getD_eq_getElem?_getD, h1, h2] using this
theorem revTo_zero {α : Type} (d : α) (l : List α) : revTo d l 0 = l := by
  refine ext_getD d (length_revTo _ _ _) fun i hi => ?_
  rw [length_revTo] at hi
  rw [getD_revTo _ _ _ _ hi, if_neg (by omega)]
theorem revTo_all {α : Type} (d : α) (l : List α) (k : Nat) (hk : l.length ≤ 2 * k + 1) : revTo d l k = l.reverse := by
  refine ext_getD d (by rw [length_revTo, List.length_reverse]) fun i hi => ?_
  rw [length_revTo] at hi
  have hr : l.reverse.getD i d = l.getD (l.length - 1 - i) d := by
    simp only [List.getD_eq_getElem?_getD]
    rw [List.getElem?_reverse hi]
  rw [getD_revTo _ _ _ _ hi, hr]
  by_cases h : i < k ∨ l.length ≤ i + k
  · rw [if_pos h]
  · rw [if_neg h, show l.length - 1 - i = i from by omega]
theorem revTo_succ {α : Type} (d : α) (l : List α) (k j : Nat) (hj : j + k + 1 = l.length) (hkj : k < j) :
    ((revTo d l k).set k ((revTo d l k).getD j d)).set j ((revTo d l k).getD k d) = revTo d l (k + 1) := by
  have hl := length_revTo d l k
  refine ext_getD d (by simp [length_revTo]) fun i hi => ?_
  rw [List.length_set, List.length_set, hl] at hi
  rw [Rw.getD_set, Rw.getD_set, getD_revTo _ _ (k + 1) i hi]
  rw [getD_revTo _ _ k j (by omega), getD_revTo _ _ k k (by omega), getD_revTo _ _ k i hi]
  by_cases h1 : i = j
  · subst h1
    rw [if_pos ⟨rfl, by rw [List.length_set, hl]; omega⟩, if_neg (by omega), if_pos (by omega), show l.length - 1 - i = k from by omega]
  · rw [if_neg (by omega)]
    by_cases h2 : i = k
    · subst h2
      rw [if_pos ⟨rfl, by rw [hl]; omega⟩, if_neg (by omega), if_pos (by omega), show l.length - 1 - i = j from by omega]
    · rw [if_neg (by omega)]
      by_cases h3 : i < k ∨ l.length ≤ i + k
      · rw [if_pos h3, if_pos (by omega)]
      · rw [if_neg h3, if_neg (by omega)]

theorem trp_exch {w : World} {g : Nat} {m : List Bool} {c : List Nat} (h : Trp w g m c) (k j : Nat) (b1 b2 : Bool) (x1 x2 : Nat) :
    Trp ((((w.setCell ⟨g, k * 2, none⟩ (.bool b2)).setCell ⟨g, k * 2 + 1, none⟩ (.int .i64 (x2 : Int))).setCell ⟨g, j * 2, none⟩ (.bool b1)).setCell ⟨g, j * 2 + 1, none⟩ (.int .i64 (x1 : Int))).drew g ((m.set k b2).set j b1) ((c.set k x2).set j x1) :=
  (((h.setB k b2).setI k x2).setB j b1).setI j x1
theorem grown_exch (w : World) (g a b c d : Nat) (v1 v2 v3 v4 : Value) : w.grownBy ((((w.setCell ⟨g, a, none⟩ v1).setCell ⟨g, b, none⟩ v2).setCell ⟨g, c, none⟩ v3).setCell ⟨g, d, none⟩ v4).drew (some g) := by
  have h1 := set_grown w g a v1
  have h2 := set_grown (w.setCell ⟨g, a, none⟩ v1) g b v2
  have h3 := set_grown ((w.setCell ⟨g, a, none⟩ v1).setCell ⟨g, b, none⟩ v2) g c v3
  have h4 := set_grown (((w.setCell ⟨g, a, none⟩ v1).setCell ⟨g, b, none⟩ v2).setCell ⟨g, c, none⟩ v3) g d v4
  have h := grownBy_trans (grownBy_trans (grownBy_trans h1 h2) h3) h4
  exact ⟨h.os, h.tape, h.output, h.size, h.block⟩

set_option maxRecDepth 20000 in
set_option maxHeartbeats 2000000 in
theorem reverse_any (g : Nat) (m : List Bool) (c : List Nat) (h1 : 1 ≤ m.length) (h2 : m.length ≤ 60) (w : World) (hT : Trp w g m c) :
    Calls Try.prog 105 #[.slice (some ⟨g, 0, none⟩) m.length m.length] w fun e w' => e = .returned (.tuple #[]) ∧ Trp w' g m.reverse c.reverse ∧ w.grownBy w' (some g) := by
  obtain ⟨n, hn⟩ : ∃ n, n = m.length := ⟨_, rfl⟩
  rw [← hn] at h1 h2 ⊢
  have HN := Lib.hid hn
  clear hn
  go_enter Try.func105, Try.ntmps105
  go_wp2
  go_loopw [2, 3] (fun i j wr => ∃ k : Nat, 2 * k ≤ n + 1 ∧ i = .int .i64 k ∧ j = .int .i64 ((n : Int) - 1 - k) ∧ Trp wr g (revTo false m k) (revTo 0 c k) ∧ w.grownBy wr (some g)) (fun i _ _ => n + 1 - (intOf i).toNat)
  case atStart => exact ⟨0, by omega, rfl, by simp, by rw [revTo_zero, revTo_zero]; exact hT, World.grownBy.refl _ _⟩
  case round =>
    obtain ⟨k, hk, rfl, rfl, hTr, hG⟩ := hrel
    have hlen : (revTo false m k).length = n := by rw [length_revTo]; exact HN.out.symm
    have hlc : c.length = n := by rw [← hT.2]; exact HN.out.symm
    by_cases hlt : 2 * k + 1 < n
    · have e1 := hTr.cellB k (by omega)
      have e2 := hTr.cellI k (by omega)
      obtain ⟨j, hj⟩ : ∃ j, j + k + 1 = n := ⟨n - 1 - k, by omega⟩
      have ej : ((n : Int) - 1 - k) = (j : Int) := by omega
      rw [ej]
      have f1 := hTr.cellB j (by omega)
      have f2 := hTr.cellI j (by omega)
      obtain ⟨b1, hb1⟩ : ∃ b, b = (revTo false m k).getD k false := ⟨_, rfl⟩
      obtain ⟨x1, hx1⟩ : ∃ b, b = (revTo 0 c k).getD k 0 := ⟨_, rfl⟩
      obtain ⟨b2, hb2⟩ : ∃ b, b = (revTo false m k).getD j false := ⟨_, rfl⟩
      obtain ⟨x2, hx2⟩ : ∃ b, b = (revTo 0 c k).getD j 0 := ⟨_, rfl⟩
      rw [← hb1] at e1
      rw [← hx1] at e2
      rw [← hb2] at f1
      rw [← hx2] at f2
      have hkj : k < j := by omega
      have hjn : j < n := by omega
      have z1 := hTr.free (k * 2)
      have z2 := hTr.free (k * 2 + 1)
      have z3 := hTr.free (j * 2)
      have z4 := hTr.free (j * 2 + 1)
      have i1 : (0 : Int) ≤ (k : Int) := by omega
      have i2 : (k : Int) < (n : Int) := by omega
      have i3 : (0 : Int) ≤ (j : Int) := by omega
      have i4 : (j : Int) < (n : Int) := by omega
      have HTr := Lib.hid hTr
      have HG := Lib.hid hG
      have R1 := Lib.hid (revTo_succ false m k j (by have := HN.out; omega) hkj)
      have R2 := Lib.hid (revTo_succ 0 c k j (by omega) hkj)
      rw [← hb1, ← hb2] at R1
      rw [← hx1, ← hx2] at R2
      have HJ := Lib.hid hj
      clear hb1 hx1 hb2 hx2 ej hj hTr hG hlen hT hlc
      go_wp2_with fail
      go_region
      go_wp2
      go_roundw
      case rel => exact ⟨k + 1, by have := HJ.out; omega, by go_num, num_eq (by have := HJ.out; omega), by rw [← R1.out, ← R2.out]; exact trp_exch HTr.out k j b1 b2 x1 x2, grownBy_trans HG.out (grown_exch _ _ _ _ _ _ _ _ _ _)⟩
      case measure => simp [intOf]; have := HJ.out; omega
    · have H1 : Hid (Trp wr g m.reverse c.reverse) := by rw [← revTo_all false m k (by have := HN.out; omega), ← revTo_all 0 c k (by omega)]; exact hTr
      have HG := Lib.hid hG
      clear hTr hG hlen hlc hT
      go_wp2
      go_end0
      exact ⟨rfl, H1.out, HG.out⟩

set_option maxRecDepth 20000 in
set_option maxHeartbeats 1000000 in
theorem mirrored_any (g : Nat) (m : List Bool) (c : List Nat) (h1 : 1 ≤ m.length) (h2 : m.length ≤ 60) (hc : c.sum ≤ 100000) (B : Nat) (hB : B ≤ g) (w0 w : World) (hB0 : B ≤ w0.heap.size) (hb : Below B w0 w) (hT : Trp w g m c) :
    Calls Try.prog 78 #[.slice (some ⟨g, 0, none⟩) m.length m.length] w fun e w' => e = .returned (.string (Rw.str (mirTo m 0))) ∧ Below B w0 w' := by
  have HC := Lib.hid (reverse_any g m c h1 h2 w hT)
  have HX := Lib.hid (fun w2 hb2 h => turned_any g m.reverse c.reverse (by simpa using h1) (by simpa using h2) (by simpa using hc) B hB w0 w2 hB0 hb2 h)
  rw [List.length_reverse] at HX
  have HE : Hid (m.reverse.map (!·) = mirTo m 0) := Lib.hid (by simp [mirTo])
  rw [HE.out] at HX
  obtain ⟨n, hn⟩ : ∃ n, n = m.length := ⟨_, rfl⟩
  rw [← hn] at HC HX ⊢
  have Hb := Lib.hid hb
  clear hn hT hb
  go_enter Try.func78, Try.ntmps78
  go_wp2_with fail
  go_at_call 105
  refine HC.out.mono ?_
  rintro e w2 ⟨rfl, hT2, hG2⟩
  have H2 := Lib.hid (HX.out w2 (grownBy_below Hb.out hG2 hB0 hB) hT2)
  clear hT2 hG2
  go_wp2_with fail
  go_at_call 80
  refine H2.out.mono ?_
  rintro e w3 ⟨rfl, hb3⟩
  have H3 := Lib.hid hb3
  clear hb3
  go_wp2
  go_ret
  exact ⟨rfl, H3.out⟩

end Go.Proofs.Ytacchefmblfobaa.C1
