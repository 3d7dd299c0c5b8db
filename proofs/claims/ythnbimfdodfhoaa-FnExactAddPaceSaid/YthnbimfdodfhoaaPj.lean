/- Chapter 5: the model's DropPace. -/
import Derived.Test.YthnbimfdodfhoaaPa
import Derived.Test.YthnbimfdodfhoaaAppP
namespace Go.Proofs.Ythnbimfdodfhoaa
open Go.ChangeShapes Go.WideShapes Go.ChangeAt Go.RowKit
open Pa

theorem CamePace.takeP {w : World} {a : Option Addr} {len k : Nat} {ps : List RPace} (h : CamePace w a len ps) (hk : k ≤ len) : CamePace w a k (ps.take k) := by
  refine ⟨by rw [List.length_take, h.1]; omega, fun hp => ?_⟩
  obtain ⟨b, off, rfl, hcell⟩ := h.2 (by omega)
  refine ⟨b, off, rfl, fun j hj => ?_⟩
  have e : (ps.take k).getD j zPace = ps.getD j zPace := by simp only [List.getD_eq_getElem?_getD, List.getElem?_take, if_pos hj]
  rw [e]
  exact hcell j (by omega)
theorem CamePace.dropP {w : World} {b off len k : Nat} {ps : List RPace} (h : CamePace w (some ⟨b, off, none⟩) len ps) : CamePace w (some ⟨b, off + k * 2, none⟩) (len - k) (ps.drop k) := by
  refine ⟨by rw [List.length_drop, h.1], fun hp => ?_⟩
  obtain ⟨b', off', e, hcell⟩ := h.2 (by omega)
  cases e
  refine ⟨b, off + k * 2, rfl, fun j hj => ?_⟩
  have e : (ps.drop k).getD j zPace = ps.getD (k + j) zPace := by simp only [List.getD_eq_getElem?_getD, List.getElem?_drop]
  rw [e]
  have := hcell (k + j) (by omega)
  rw [show off + (k + j) * 2 = off + k * 2 + j * 2 by omega] at this
  exact this
theorem below_drew1 {B : Nat} {w0 w : World} (h : Below B w0 w) : Below B w0 w.drew := ⟨h.os, h.tape, h.output, h.size, h.block⟩
namespace Pa
def dropB (ps : List RPace) (k : Int) : Bool := goodP ps && inB k 0 ((ps.length : Int) - 1) && decide (ps.length ≠ 1)
end Pa
def outDropPace_0 (ps : List RPace) (k : Int) : List RPace := if dropB ps k then ps.take k.toNat ++ ps.drop (k.toNat + 1) else []
def outDropPace_1 (ps : List RPace) (k : Int) : Bool := dropB ps k
theorem lenDropPace_0 (ps : List RPace) (k : Int) : (outDropPace_0 ps k).length ≤ 1048576 := by
  unfold outDropPace_0
  split
  · rename_i h
    unfold dropB at h
    simp only [Bool.and_eq_true] at h
    have := good_len h.1.1
    rw [List.length_append, List.length_take, List.length_drop]
    omega
  · simp

set_option maxHeartbeats 4000000 in
theorem specDropPace_any (w : World) (a : Option Addr) (len cap : Nat) (ps : List RPace) (t : Int) (_wt : (Lit.int .i64 t).wf = true) (hl : len ≤ 1048576) (hc : CamePace w a len ps) (hcp : len ≤ cap ∧ cap ≤ 9223372036854775807) :
    Calls Try.prog 39 #[.slice a len cap, .int .i64 t] w fun e w' => ∃ v0, e = .returned (.tuple #[v0, .bool (outDropPace_1 ps t)]) ∧ OwnPace w' w.heap.size v0 (outDropPace_0 ps t) ∧ Below w.heap.size w w' := by
  have HG := Lib.hid (spGood_any w a len cap ps hl hc)
  have HI := Lib.hid (fun w2 => l1In_any t 0 ((len : Int) - 1) w2)
  have HC := Lib.hid hc
  have HZ : Hid (ps.length = len) := Lib.hid hc.1
  obtain ⟨hcp1, hcp2⟩ := hcp
  clear _wt hc
  rcases hb : goodP ps with _ | _
  · have H0 : Hid (outDropPace_0 ps t = [] ∧ outDropPace_1 ps t = false) := Lib.hid (by unfold outDropPace_0 outDropPace_1 dropB; rw [hb]; exact ⟨rfl, rfl⟩)
    rw [hb] at HG
    clear hb
    go_enter Try.func39, Try.ntmps39
    go_wp2_with (go_at_call 45; refine HG.out.mono ?_; rintro e w2 ⟨rfl, b2⟩; have B2 := Lib.hid b2; clear b2)
    go_ret2
    exact ⟨_, by rw [H0.out.2]; exact rfl, by rw [H0.out.1]; exact ownPace_nil _ _, B2.out⟩
  · have h6 : len ≤ 6 := by have := good_len hb; have := HZ.out; omega
    have h1 : 1 ≤ len := by have h := hb; unfold goodP at h; rw [Bool.and_eq_true] at h; have := inB_yes h.1; have := HZ.out; omega
    rw [hb] at HG
    rcases hb2 : inB t 0 ((len : Int) - 1) with _ | _
    · have H0 : Hid (outDropPace_0 ps t = [] ∧ outDropPace_1 ps t = false) := Lib.hid (by unfold outDropPace_0 outDropPace_1 dropB; rw [hb, HZ.out, hb2]; exact ⟨rfl, rfl⟩)
      rw [hb2] at HI
      clear hb hb2
      go_enter Try.func39, Try.ntmps39
      go_wp2_with fail
      go_at_call 45
      refine HG.out.mono ?_
      rintro e w2 ⟨rfl, b2⟩
      have B2 := Lib.hid b2
      clear b2
      go_wp2_with (go_at_call 59; refine (HI.out _).mono ?_; rintro e w' ⟨rfl, rfl⟩)
      go_ret2
      exact ⟨_, by rw [H0.out.2]; exact rfl, by rw [H0.out.1]; exact ownPace_nil _ _, B2.out⟩
    · rw [hb2] at HI
      by_cases hone : len = 1
      · have H0 : Hid (outDropPace_0 ps t = [] ∧ outDropPace_1 ps t = false) := Lib.hid (by unfold outDropPace_0 outDropPace_1 dropB; rw [hb, HZ.out, hb2, decide_eq_false (fun h => h hone)]; exact ⟨rfl, rfl⟩)
        have hq : ((len : Int) == 1) = true := by rw [beq_iff_eq]; omega
        clear hb hb2 hone
        go_enter Try.func39, Try.ntmps39
        go_wp2_with fail
        go_at_call 45
        refine HG.out.mono ?_
        rintro e w2 ⟨rfl, b2⟩
        have B2 := Lib.hid b2
        clear b2
        go_wp2_with (go_at_call 59; refine (HI.out _).mono ?_; rintro e w' ⟨rfl, rfl⟩)
        go_ret2
        exact ⟨_, by rw [H0.out.2]; exact rfl, by rw [H0.out.1]; exact ownPace_nil _ _, B2.out⟩
      · obtain ⟨ht0, ht1⟩ := inB_yes hb2
        obtain ⟨T, rfl⟩ : ∃ T : Nat, t = (T : Int) := ⟨t.toNat, by omega⟩
        have H0 : Hid (outDropPace_0 ps T = ps.take T ++ ps.drop (T + 1) ∧ outDropPace_1 ps T = true) := Lib.hid (by unfold outDropPace_0 outDropPace_1 dropB; rw [hb, HZ.out, hb2, decide_eq_true hone]; exact ⟨rfl, rfl⟩)
        have hq : ((len : Int) == 1) = false := by rw [beq_eq_false_iff_ne]; omega
        obtain ⟨b, off, rfl, hcell⟩ := HC.out.2 (by omega)
        have HE0 : Hid (w.cell? ⟨b, off, none⟩ = some (.int .i64 (ps.getD 0 zPace).1)) := Lib.hid (by have := (hcell 0 (by omega)).1; rwa [show off + 0 * 2 = off by omega] at this)
        obtain ⟨x0, hx0⟩ : ∃ x, x = (ps.getD 0 zPace).1 := ⟨_, rfl⟩
        rw [← hx0] at HE0
        have HS1 : Hid (∀ w2, Below w.heap.size w w2 → ∀ j u, ((ps.take T).flatMap cPace)[j]? = some u → w2.cell? ((⟨b, off, none⟩ : Addr).add j) = some u) := Lib.hid (fun w2 h => src_came ((HC.out.below h).takeP (by omega)))
        have HS2 : Hid (∀ o2, o2 = off + (T + 1) * 2 ∨ cap = T + 1 → ∀ w2, Below w.heap.size w w2 → ∀ j u, ((ps.drop (T + 1)).flatMap cPace)[j]? = some u → w2.cell? ((⟨b, o2, none⟩ : Addr).add j) = some u) := Lib.hid (fun o2 ho w2 h => by
          rcases ho with rfl | ho
          · exact src_came ((HC.out.below h).dropP)
          · rw [List.drop_eq_nil_of_le (by rw [HZ.out]; omega)]
            intro j u hj
            simp at hj)
        have HL1 : Hid ((ps.take T).length = T) := Lib.hid (by rw [List.length_take, HZ.out]; omega)
        have HL2 : Hid ((ps.drop (T + 1)).length = len - (T + 1)) := Lib.hid (by rw [List.length_drop, HZ.out])
        have hT1 : T < len := by omega
        have i1 : (0 : Int) ≤ (T : Int) := by omega
        have i2 : (T : Int) ≤ (cap : Int) := by omega
        have i3 : (0 : Int) ≤ (T : Int) + 1 := by omega
        have i4 : (T : Int) + 1 ≤ (len : Int) := by omega
        have ew : IntKind.i64.wrap ((T : Int) + 1) = (T : Int) + 1 := by rw [IntKind.wrap_i64]; omega
        have i5 : ((T : Int) + 1).toNat = T + 1 := by omega
        clear hb hb2 hone hcell hx0
        obtain ⟨o2, HIF, HS3⟩ : ∃ o2 : Nat, Hid ((if cap = T + 1 then (some ⟨b, off, none⟩ : Option Addr) else some ⟨b, off + (T + 1) * 2, none⟩) = some ⟨b, o2, none⟩) ∧ Hid (∀ w2, Below w.heap.size w w2 → ∀ j u, ((ps.drop (T + 1)).flatMap cPace)[j]? = some u → w2.cell? ((⟨b, o2, none⟩ : Addr).add j) = some u) := by
          by_cases hcq : cap = T + 1
          · exact ⟨off, Lib.hid (if_pos hcq), Lib.hid (HS2.out off (.inr hcq))⟩
          · exact ⟨off + (T + 1) * 2, Lib.hid (if_neg hcq), Lib.hid (HS2.out _ (.inl rfl))⟩
        go_enter Try.func39, Try.ntmps39
        go_wp2_with fail
        go_at_call 45
        refine HG.out.mono ?_
        rintro e w2 ⟨rfl, b2⟩
        have B2 := Lib.hid b2
        clear b2
        go_wp2_with fail
        go_at_call 59
        refine (HI.out _).mono ?_
        rintro e w' ⟨rfl, rfl⟩
        go_wp2_with fail
        have hz := B2.out.size
        have hif := HIF.out
        have HBE : Hid (Below w.heap.size w (w2.alloc (.cells #[] 48)).drew) := Lib.hid (below_drew1 (B2.out.alloc hz _))
        have ec0 := (B2.out.cell (World.block_lt_of_cell? w _ HE0.out)).trans HE0.out
        have HSA : Hid (∀ (w5 : World), Below w.heap.size w w5 → w5.cell? ⟨b, off, none⟩ = some (.int .i64 x0)) := Lib.hid (fun w5 h5 => (h5.cell (World.block_lt_of_cell? w _ HE0.out)).trans HE0.out)
        go_region_held_law (fun w' => w'.cell? ⟨b, off, none⟩ = some (.int .i64 x0)) (first | go_keep | exact HSA.out _ ((HBE.out.trans hB5).trans hB6) | exact HSA.out _ (HBE.out.trans hB5))
          (first
            | (refine step_appPace rfl _ _ rfl w.heap.size _ [] (ps.take T) _ _ _ rfl rfl ((show OwnPace (w2.alloc _) _ _ _ from ownPace_made w2).mono hz) HL1.out (HS1.out _ HBE.out) HBE.out.size (by simp; omega) ?_; intro v5 w5 hO5 hB5 hG5)
            | (refine step_appPace rfl _ _ rfl w.heap.size _ _ (ps.drop (T + 1)) _ _ _ rfl rfl hO5 HL2.out (HS3.out _ (HBE.out.trans hB5)) (HBE.out.trans hB5).size (by rw [List.nil_append, HL1.out]; omega) ?_; intro v6 w6 hO6 hB6 hG6))
        simp only [List.getElem_toArray, List.getElem_cons_zero, List.getElem_cons_succ, List.setIfInBounds_toArray, List.set_cons_zero, List.set_cons_succ]
        have HO6 : Hid (OwnPace w6 w.heap.size v6 (ps.take T ++ ps.drop (T + 1))) := Lib.hid hO6
        have HB6 : Hid (Below w.heap.size w w6) := Lib.hid ((HBE.out.trans hB5).trans hB6)
        clear hO5 hB5 hG5 hO6 hB6 hG6
        go_wp2
        go_ret2
        exact ⟨_, by rw [H0.out.2]; exact rfl, by rw [H0.out.1]; exact HO6.out, HB6.out⟩

end Go.Proofs.Ythnbimfdodfhoaa
