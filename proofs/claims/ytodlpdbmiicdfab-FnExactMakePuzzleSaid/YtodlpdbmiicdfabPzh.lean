/- Chapter 9, the model: pzWithout. -/
import Derived.Test.YtodlpdbmiicdfabPze
import Derived.Test.YtodlpdbmiicdfabAppC
namespace Go.Proofs.Ytodlpdbmiicdfab
open Go.ChangeShapes Go.WideShapes Go.ChangeAt Go.RowKit
open Pz

set_option maxHeartbeats 4000000 in
theorem pzWithout_any (w : World) (a : Option Addr) (len cap : Nat) (ps : List RClue) (T : Nat) (hT1 : T < len) (hl : len ≤ 6) (hc : CameClue w a len ps) (hcp : len ≤ cap ∧ cap ≤ 9223372036854775807) :
    Calls Try.prog 29 #[.slice a len cap, .int .i64 (T : Int)] w fun e w' => ∃ v, e = .returned v ∧ OwnClue w' w.heap.size v (without ps T) ∧ Below w.heap.size w w' := by
  have HC := Lib.hid hc
  have HZ : Hid (ps.length = len) := Lib.hid hc.1
  obtain ⟨hcp1, hcp2⟩ := hcp
  clear hc
  obtain ⟨b, off, rfl, hcell⟩ := HC.out.2 (by omega)
  have HE0 : Hid (w.cell? ⟨b, off, none⟩ = some (.int .i64 (ps.getD 0 zClue).1)) := Lib.hid (by have := (hcell 0 (by omega)).1; rwa [show off + 0 * 4 = off by omega] at this)
  obtain ⟨x0, hx0⟩ : ∃ x, x = (ps.getD 0 zClue).1 := ⟨_, rfl⟩
  rw [← hx0] at HE0
  have HS1 : Hid (∀ w2, Below w.heap.size w w2 → ∀ j u, ((ps.take T).flatMap cClue)[j]? = some u → w2.cell? ((⟨b, off, none⟩ : Addr).add j) = some u) := Lib.hid (fun w2 h => src_cameC ((HC.out.below h).takeC (by omega)))
  have HS2 : Hid (∀ o2, o2 = off + (T + 1) * 4 ∨ cap = T + 1 → ∀ w2, Below w.heap.size w w2 → ∀ j u, ((ps.drop (T + 1)).flatMap cClue)[j]? = some u → w2.cell? ((⟨b, o2, none⟩ : Addr).add j) = some u) := Lib.hid (fun o2 ho w2 h => by
    rcases ho with rfl | ho
    · exact src_cameC ((HC.out.below h).dropC)
    · rw [List.drop_eq_nil_of_le (by rw [HZ.out]; omega)]
      intro j u hj
      simp at hj)
  have HL1 : Hid ((ps.take T).length = T) := Lib.hid (by rw [List.length_take, HZ.out]; omega)
  have HL2 : Hid ((ps.drop (T + 1)).length = len - (T + 1)) := Lib.hid (by rw [List.length_drop, HZ.out])
  have i1 : (0 : Int) ≤ (T : Int) := by omega
  have i2 : (T : Int) ≤ (cap : Int) := by omega
  have i3 : (0 : Int) ≤ (T : Int) + 1 := by omega
  have i4 : (T : Int) + 1 ≤ (len : Int) := by omega
  have ew : IntKind.i64.wrap ((T : Int) + 1) = (T : Int) + 1 := by rw [IntKind.wrap_i64]; omega
  have i5 : ((T : Int) + 1).toNat = T + 1 := by omega
  clear hcell hx0
  obtain ⟨o2, HIF, HS3⟩ : ∃ o2 : Nat, Hid ((if cap = T + 1 then (some ⟨b, off, none⟩ : Option Addr) else some ⟨b, off + (T + 1) * 4, none⟩) = some ⟨b, o2, none⟩) ∧ Hid (∀ w2, Below w.heap.size w w2 → ∀ j u, ((ps.drop (T + 1)).flatMap cClue)[j]? = some u → w2.cell? ((⟨b, o2, none⟩ : Addr).add j) = some u) := by
    by_cases hcq : cap = T + 1
    · exact ⟨off, Lib.hid (if_pos hcq), Lib.hid (HS2.out off (.inr hcq))⟩
    · exact ⟨off + (T + 1) * 4, Lib.hid (if_neg hcq), Lib.hid (HS2.out _ (.inl rfl))⟩
  go_enter Try.func29, Try.ntmps29
  go_wp2_with fail
  have hz : w.heap.size ≤ w.heap.size := Nat.le_refl _
  have hif := HIF.out
  have HBE : Hid (Below w.heap.size w (w.alloc (.cells #[] 64)).drew) := Lib.hid (below_drewC ((Below.refl _ _).alloc hz _))
  have ec0 := HE0.out
  have HSA : Hid (∀ (w5 : World), Below w.heap.size w w5 → w5.cell? ⟨b, off, none⟩ = some (.int .i64 x0)) := Lib.hid (fun w5 h5 => (h5.cell (World.block_lt_of_cell? w _ HE0.out)).trans HE0.out)
  go_region_held_law (fun w' => w'.cell? ⟨b, off, none⟩ = some (.int .i64 x0)) (first | go_keep | exact HSA.out _ ((HBE.out.trans hB5).trans hB6) | exact HSA.out _ (HBE.out.trans hB5))
    (first
      | (refine step_appClue rfl _ _ rfl w.heap.size _ [] (ps.take T) _ _ _ rfl rfl ((show OwnClue (w.alloc _) _ _ _ from ownClue_made w).mono hz) HL1.out (HS1.out _ HBE.out) HBE.out.size (by simp; omega) ?_; intro v5 w5 hO5 hB5 hG5)
      | (refine step_appClue rfl _ _ rfl w.heap.size _ _ (ps.drop (T + 1)) _ _ _ rfl rfl hO5 HL2.out (HS3.out _ (HBE.out.trans hB5)) (HBE.out.trans hB5).size (by rw [List.nil_append, HL1.out]; omega) ?_; intro v6 w6 hO6 hB6 hG6))
  simp only [List.getElem_toArray, List.getElem_cons_zero, List.getElem_cons_succ, List.setIfInBounds_toArray, List.set_cons_zero, List.set_cons_succ]
  have HO6 : Hid (OwnClue w6 w.heap.size v6 (without ps T)) := Lib.hid hO6
  have HB6 : Hid (Below w.heap.size w w6) := Lib.hid ((HBE.out.trans hB5).trans hB6)
  clear hO5 hB5 hG5 hO6 hB6 hG6
  go_wp2
  go_ret
  exact ⟨_, rfl, HO6.out, HB6.out⟩

end Go.Proofs.Ytodlpdbmiicdfab
