/- StepUp: both sides. -/
import Derived.Test.YtnajlnghhboelaaFill
import Derived.Laws.AppendOwnNone
namespace Go.Proofs.Ytnajlnghhboelaa
open Go.ChangeShapes Go.WideShapes Go.ChangeAt Go.RowKit

theorem Own.cameAt {w : World} {B g n cap : Nat} {zs : List Int} (h : Own w B (.slice (some ⟨g, 0, none⟩) n cap) zs) (hn : n = zs.length) : Came w (some ⟨g, 0, none⟩) n zs :=
  ⟨hn.symm, fun _ => ⟨g, 0, rfl, fun j hj => by rw [Nat.zero_add]; exact h.cell hn j (by omega)⟩⟩
theorem goodH_len {zs : List Int} (h : goodH zs = true) : 1 ≤ zs.length ∧ zs.length ≤ 40 := by
  obtain ⟨hs, rfl, h1, h2, _⟩ := goodH_nat h
  rw [asInts_len]; exact ⟨h1, h2⟩
theorem goodH_get {zs : List Int} (h : goodH zs = true) (j : Nat) (hj : j < zs.length) : 1 ≤ zs.getD j 0 ∧ zs.getD j 0 ≤ 100 := by
  obtain ⟨hs, rfl, h1, h2, h3⟩ := goodH_nat h
  rw [asInts_len] at hj
  rw [getD_asInts]
  have := h3 _ (getD_mem0 hj)
  omega
theorem goodH_set {zs : List Int} (h : goodH zs = true) (j : Nat) (hj : j < zs.length) (x : Int) : goodH (zs.set j x) = inB x 1 100 := by
  have hl := goodH_len h
  rcases hx : inB x 1 100 with _ | _
  · unfold goodH
    rw [allB_not (k := j) (by simpa using hj) (by rw [setGet _ _ _ hj]; exact hx), Bool.and_false]
  · have : allB (zs.set j x) 1 100 = true := allB_of fun i hi => by
      rw [List.length_set] at hi
      rw [getD_set]
      split
      · exact hx
      · have := goodH_get h i hi
        unfold inB; simp only [decide_eq_true_eq]; exact this
    unfold goodH
    rw [this, List.length_set]
    unfold inB
    rw [decide_eq_true (by omega)]; rfl

def stepOk (zs : List Int) (k d : Int) : Bool := goodH zs && (inB k 0 ((zs.length : Int) - 1) && inB (zs.getD k.toNat 0 + d) 1 100)
def outStepUp_0 (zs : List Int) (k d : Int) : List Int := if stepOk zs k d then zs.set k.toNat (zs.getD k.toNat 0 + d) else []
def outStepUp_1 (zs : List Int) (k d : Int) : Bool := stepOk zs k d
theorem lenStepUp_0 (zs : List Int) (k d : Int) (h : zs.length ≤ 1048576) : (outStepUp_0 zs k d).length ≤ 4611686018427387904 := by
  unfold outStepUp_0
  split
  · rw [List.length_set]; omega
  · simp
theorem step_no {zs : List Int} {k d : Int} (h : stepOk zs k d = false) : outStepUp_0 zs k d = [] := by unfold outStepUp_0; rw [h]; rfl
theorem step_yes {zs : List Int} {k d : Int} (h : stepOk zs k d = true) : outStepUp_0 zs k d = zs.set k.toNat (zs.getD k.toNat 0 + d) := by unfold outStepUp_0; rw [h]; rfl

set_option maxHeartbeats 1000000 in
theorem l1Own_any (w : World) (ad : Addr) (len cap : Nat) (zs : List Int) (hl : len ≤ 1000000000) (hc : Came w (some ad) len zs) :
    Calls Try.prog 59 #[.slice (some ad) len cap] w fun e w' => ∃ v, e = .returned v ∧ Own w' w.heap.size v zs ∧ Below w.heap.size w w' := by
  have HC := Lib.hid hc
  have HN : Hid (Own (w.alloc (.cells #[] 3)) w.heap.size (.slice (some ⟨w.heap.size, 0, none⟩) 0 0) []) := Lib.hid (by
    refine ⟨rfl, .inr ⟨w.heap.size, 0, #[], rfl, Nat.le_refl _, heap_alloc_last _ _, Nat.le_refl _, ?_, ?_, rfl⟩⟩
    · simp
    · simp)
  clear hc
  go_enter Try.func59, Try.ntmps59
  have HB : Hid (Below w.heap.size w (w.alloc (.cells #[] 3))) := (Below.refl _ _).alloc (Nat.le_refl _) _
  have HC2 := Lib.hid (HC.out.below HB.out)
  go_wp2_with (refine wpList_appAll rfl _ _ rfl w.heap.size _ [] zs ad len cap rfl rfl HN.out HC2.out HB.out.size (by simpa using hl) ?_; intro v' w' O' L')
  refine ⟨?_⟩
  go_wp2
  go_ret
  exact ⟨_, rfl, O'.out, HB.out.trans L'.out⟩

set_option maxHeartbeats 2000000 in
theorem specStepUp_any (w : World) (a : Option Addr) (len cap : Nat) (zs : List Int) (k d : Int) (wk : (Lit.int .i64 k).wf = true) (wd : (Lit.int .i64 d).wf = true) (hl : len ≤ 1048576) (hc : Came w a len zs) :
    Calls Try.prog 35 #[.slice a len cap, .int .i64 k, .int .i64 d] w fun e w' => ∃ v0, e = .returned (.tuple #[v0, .bool (outStepUp_1 zs k d)]) ∧ Own w' w.heap.size v0 (outStepUp_0 zs k d) ∧ Below w.heap.size w w' := by
  have HG := Lib.hid (heGood_any w a len cap zs (by omega) hc)
  have HI := Lib.hid (fun n lo hi => l1In_any n lo hi w)
  have bk := bounds_i64 wk
  have bd := bounds_i64 wd
  have hlen := hc.1
  clear wk wd
  rcases hg : goodH zs with _ | _
  · have hE : stepOk zs k d = false := by unfold stepOk; rw [hg]; rfl
    have HE := Lib.hid (step_no hE)
    have HF : Hid (outStepUp_1 zs k d = false) := hE
    rw [HF.out]
    rw [hg] at HG
    clear hg hc hlen hE
    go_enter Try.func35, Try.ntmps35
    go_wp2_with (go_at_call 37; refine HG.out.mono ?_; rintro e w' ⟨rfl, rfl⟩)
    go_ret2
    exact ⟨_, rfl, by rw [HE.out]; exact own_nil _ _, Below.refl _ _⟩
  · have hll := goodH_len hg
    rw [hlen] at hll
    by_cases hk : 0 ≤ k ∧ k ≤ (len : Int) - 1
    · obtain ⟨j, rfl⟩ : ∃ j : Nat, k = (j : Int) := ⟨k.toNat, by omega⟩
      have hj : j < len := by omega
      have hgt := goodH_get hg j (by omega)
      have hK : inB (j : Int) 0 ((len : Int) - 1) = true := by unfold inB; exact decide_eq_true (by omega)
      have hO : ∀ b : Bool, inB (zs.getD j 0 + d) 1 100 = b → stepOk zs j d = b := fun b hb => by
        unfold stepOk; rw [hg, hlen, hK, Int.toNat_natCast, hb]; rfl
      by_cases hd : -100 ≤ d ∧ d ≤ 100
      · have hD : inB d (-100) 100 = true := by unfold inB; exact decide_eq_true (by omega)
        obtain ⟨b, off, rfl, hcell⟩ := hc.2 (by omega)
        have e1 := hcell j hj
        have HC := Lib.hid hc
        by_cases hS : 1 ≤ zs.getD j 0 + d ∧ zs.getD j 0 + d ≤ 100
        · have hs : inB (zs.getD j 0 + d) 1 100 = true := by unfold inB; exact decide_eq_true (by omega)
          have hE := hO _ hs
          have HE := Lib.hid (step_yes hE)
          have HF : Hid (outStepUp_1 zs j d = true) := hE
          rw [HF.out]
          rw [hg] at HG
          obtain ⟨z, hz⟩ : ∃ z, z = zs.getD j 0 := ⟨_, rfl⟩
          rw [Int.toNat_natCast, ← hz] at HE
          rw [← hz] at e1 hs hgt hS
          have H1 := Lib.hid (HI.out j 0 ((len : Int) - 1))
          rw [hK] at H1
          have H2 := Lib.hid (HI.out d (-100) 100)
          rw [hD] at H2
          have H3 := Lib.hid (HI.out (z + d) 1 100)
          rw [hs] at H3
          have HOw := Lib.hid (l1Own_any w ⟨b, off, none⟩ len cap zs (by omega) HC.out)
          have HL : Hid (zs.length = len) := hlen
          clear hg hc hlen hE hs hK hD hO hcell hz HI
          go_enter Try.func35, Try.ntmps35
          go_wp2_with fail
          go_at_call 37
          refine HG.out.mono ?_
          rintro e w' ⟨rfl, rfl⟩
          go_wp2_with fail
          go_at_call 51
          refine H1.out.mono ?_
          rintro e w' ⟨rfl, rfl⟩
          go_wp2_with fail
          go_at_call 51
          refine H2.out.mono ?_
          rintro e w' ⟨rfl, rfl⟩
          go_wp2_with fail
          go_at_call 51
          refine H3.out.mono ?_
          rintro e w' ⟨rfl, rfl⟩
          go_wp2_with fail
          go_at_call 59
          refine HOw.out.mono ?_
          rintro e w2 ⟨v, rfl, o2, b2⟩
          obtain ⟨g, c2, rfl, hg2, _⟩ := o2.point (by rw [HL.out]; omega)
          rw [HL.out] at o2 ⊢
          have e1 := b2.cell (World.block_lt_of_cell? w _ e1) |>.trans e1
          have e3 := o2.cell HL.out.symm j (by rw [HL.out]; exact hj)
          have f3 := o2.free HL.out.symm j
          obtain ⟨y, hy⟩ : ∃ y, y = zs.getD j 0 := ⟨_, rfl⟩
          rw [← hy] at e3
          have HOS := Lib.hid (o2.set HL.out.symm j (z + d))
          have HBS := Lib.hid (b2.setCell (p := ⟨g, j, none⟩) hg2 (.int .i64 (z + d)))
          clear hy o2 b2
          go_wp2
          go_ret2
          exact ⟨_, rfl, by rw [HE.out]; exact HOS.out, HBS.out⟩
        · have hs : inB (zs.getD j 0 + d) 1 100 = false := by unfold inB; exact decide_eq_false (by omega)
          have hE := hO _ hs
          have HE := Lib.hid (step_no hE)
          have HF : Hid (outStepUp_1 zs j d = false) := hE
          rw [HF.out]
          rw [hg] at HG
          obtain ⟨z, hz⟩ : ∃ z, z = zs.getD j 0 := ⟨_, rfl⟩
          rw [← hz] at e1 hs hgt hS
          have H1 := Lib.hid (HI.out j 0 ((len : Int) - 1))
          rw [hK] at H1
          have H2 := Lib.hid (HI.out d (-100) 100)
          rw [hD] at H2
          have H3 := Lib.hid (HI.out (z + d) 1 100)
          rw [hs] at H3
          clear hg hc hlen hE hs hK hD hO hcell hz HI hS
          go_enter Try.func35, Try.ntmps35
          go_wp2_with fail
          go_at_call 37
          refine HG.out.mono ?_
          rintro e w' ⟨rfl, rfl⟩
          go_wp2_with fail
          go_at_call 51
          refine H1.out.mono ?_
          rintro e w' ⟨rfl, rfl⟩
          go_wp2_with fail
          go_at_call 51
          refine H2.out.mono ?_
          rintro e w' ⟨rfl, rfl⟩
          go_wp2_with fail
          go_at_call 51
          refine H3.out.mono ?_
          rintro e w' ⟨rfl, rfl⟩
          go_wp2
          go_ret2
          exact ⟨_, rfl, by rw [HE.out]; exact own_nil _ _, Below.refl _ _⟩
      · have hs : inB (zs.getD j 0 + d) 1 100 = false := by unfold inB; exact decide_eq_false (by omega)
        have hE := hO _ hs
        have HE := Lib.hid (step_no hE)
        have HF : Hid (outStepUp_1 zs j d = false) := hE
        rw [HF.out]
        rw [hg] at HG
        have hD : inB d (-100) 100 = false := by unfold inB; exact decide_eq_false (by omega)
        have H1 := Lib.hid (HI.out j 0 ((len : Int) - 1))
        rw [hK] at H1
        have H2 := Lib.hid (HI.out d (-100) 100)
        rw [hD] at H2
        clear hg hc hlen hE hs hK hD hO HI hd
        go_enter Try.func35, Try.ntmps35
        go_wp2_with fail
        go_at_call 37
        refine HG.out.mono ?_
        rintro e w' ⟨rfl, rfl⟩
        go_wp2_with fail
        go_at_call 51
        refine H1.out.mono ?_
        rintro e w' ⟨rfl, rfl⟩
        go_wp2_with fail
        go_at_call 51
        refine H2.out.mono ?_
        rintro e w' ⟨rfl, rfl⟩
        go_wp2
        go_ret2
        exact ⟨_, rfl, by rw [HE.out]; exact own_nil _ _, Below.refl _ _⟩
    · have hK : inB k 0 ((len : Int) - 1) = false := by unfold inB; exact decide_eq_false (by omega)
      have hE : stepOk zs k d = false := by unfold stepOk; rw [hg, hlen, hK]; rfl
      have HE := Lib.hid (step_no hE)
      have HF : Hid (outStepUp_1 zs k d = false) := hE
      rw [HF.out]
      rw [hg] at HG
      have H1 := Lib.hid (HI.out k 0 ((len : Int) - 1))
      rw [hK] at H1
      clear hg hc hlen hE hK HI hk
      go_enter Try.func35, Try.ntmps35
      go_wp2_with fail
      go_at_call 37
      refine HG.out.mono ?_
      rintro e w' ⟨rfl, rfl⟩
      go_wp2_with fail
      go_at_call 51
      refine H1.out.mono ?_
      rintro e w' ⟨rfl, rfl⟩
      go_wp2
      go_ret2
      exact ⟨_, rfl, by rw [HE.out]; exact own_nil _ _, Below.refl _ _⟩

theorem wrap_out {z d : Int} (hz : 1 ≤ z ∧ z ≤ 100) (hd : -9223372036854775808 ≤ d ∧ d ≤ 9223372036854775807) : inB (wrap64 (z + d)) 1 100 = inB (z + d) 1 100 := by
  unfold inB wrap64
  congr 1
  rw [eq_iff_iff]
  constructor <;> intro h <;> omega
theorem wrap_in {x : Int} (h : inB x 1 100 = true) : wrap64 x = x := by
  unfold inB at h
  simp only [decide_eq_true_eq] at h
  unfold wrap64
  omega

set_option maxHeartbeats 2000000 in
theorem implStepUp_any (w : World) (a : Option Addr) (len cap : Nat) (zs : List Int) (k d : Int) (wk : (Lit.int .i64 k).wf = true) (wd : (Lit.int .i64 d).wf = true) (hl : len ≤ 1048576) (hc : Came w a len zs) :
    Calls Try.prog 36 #[.slice a len cap, .int .i64 k, .int .i64 d] w fun e w' => ∃ v0, e = .returned (.tuple #[v0, .bool (outStepUp_1 zs k d)]) ∧ Own w' w.heap.size v0 (outStepUp_0 zs k d) ∧ Below w.heap.size w w' := by
  have HG := Lib.hid (areHeights_any w a len cap zs (by omega) hc)
  have bk := bounds_i64 wk
  have bd := bounds_i64 wd
  have hlen := hc.1
  clear wk wd
  rcases hg : goodH zs with _ | _
  · have hE : stepOk zs k d = false := by unfold stepOk; rw [hg]; rfl
    have HE := Lib.hid (step_no hE)
    have HF : Hid (outStepUp_1 zs k d = false) := hE
    rw [HF.out]
    rw [hg] at HG
    clear hg hc hlen hE
    go_enter Try.func36, Try.ntmps36
    go_wp2_with (go_at_call 15; refine HG.out.mono ?_; rintro e w' ⟨rfl, rfl⟩)
    go_ret2
    exact ⟨_, rfl, by rw [HE.out]; exact own_nil _ _, Below.refl _ _⟩
  · have hll := goodH_len hg
    rw [hlen] at hll
    by_cases hk : 0 ≤ k ∧ k ≤ (len : Int) - 1
    · obtain ⟨j, rfl⟩ : ∃ j : Nat, k = (j : Int) := ⟨k.toNat, by omega⟩
      have hj : j < len := by omega
      have hgt := goodH_get hg j (by omega)
      have hK : inB (j : Int) 0 ((len : Int) - 1) = true := by unfold inB; exact decide_eq_true (by omega)
      have hO : stepOk zs j d = inB (zs.getD j 0 + d) 1 100 := by
        unfold stepOk; rw [hg, hlen, hK, Int.toNat_natCast]; rfl
      obtain ⟨b, off, rfl, hcell⟩ := hc.2 (by omega)
      have HC := Lib.hid hc
      have HL : Hid (zs.length = len) := hlen
      have HOw := Lib.hid (clone_any w ⟨b, off, none⟩ len cap zs (by omega) hc)
      have hgs := goodH_set hg j (by omega) (wrap64 (zs.getD j 0 + d))
      rw [wrap_out hgt bd, ← hO] at hgs
      have HGS : Hid (goodH (zs.set j (wrap64 (zs.getD j 0 + d))) = outStepUp_1 zs j d) := hgs
      have HY : Hid (outStepUp_1 zs j d = true → outStepUp_0 zs j d = zs.set j (wrap64 (zs.getD j 0 + d))) := Lib.hid (fun h => by
        rw [step_yes h, Int.toNat_natCast, wrap_in (by rw [← hO]; exact h)])
      have HNo : Hid (outStepUp_1 zs j d = false → outStepUp_0 zs j d = []) := Lib.hid (fun h => step_no h)
      have HA := Lib.hid (fun w4 a4 c4 (h : Came w4 a4 len (zs.set j (wrap64 (zs.getD j 0 + d)))) => areHeights_any w4 a4 len c4 _ (by omega) h)
      rw [HGS.out] at HA
      obtain ⟨r, hr⟩ : ∃ r, r = outStepUp_1 zs j d := ⟨_, rfl⟩
      rw [← hr] at HY HNo HA ⊢
      obtain ⟨z, hz⟩ : ∃ z, z = zs.getD j 0 := ⟨_, rfl⟩
      rw [← hz] at HY HA
      have HZ := Lib.hid hz
      rw [hg] at HG
      clear hg hc hlen hK hO hcell hz hgs HGS hr hgt
      have n1 : decide ((j : Int) < 0) = false := by simp
      have n2 : decide ((len : Int) ≤ (j : Int)) = false := by simp; omega
      go_enter Try.func36, Try.ntmps36
      go_wp2_with fail
      go_at_call 15
      refine HG.out.mono ?_
      rintro e w' ⟨rfl, rfl⟩
      go_wp2_with fail
      go_at_call 60
      refine HOw.out.mono ?_
      rintro e w2 ⟨v, rfl, o2, b2⟩
      obtain ⟨g, c2, rfl, hg2, _⟩ := o2.point (by rw [HL.out]; omega)
      rw [HL.out] at o2 ⊢
      have e3 := o2.cell HL.out.symm j (by rw [HL.out]; exact hj)
      have f3 := o2.free HL.out.symm j
      rw [← HZ.out] at e3
      have HOS := Lib.hid (o2.set HL.out.symm j (wrap64 (z + d)))
      have HBS := Lib.hid (b2.setCell (p := ⟨g, j, none⟩) hg2 (.int .i64 (wrap64 (z + d))))
      have i1 : (0 : Int) ≤ (j : Int) := by omega
      have i2 : (j : Int) < (len : Int) := by omega
      clear o2 b2
      have HAc := Lib.hid (HA.out _ _ c2 (HOS.out.cameAt (by rw [List.length_set]; exact HL.out.symm)))
      go_wp2_with fail
      go_at_call 15
      refine HAc.out.mono ?_
      rintro e w' ⟨rfl, rfl⟩
      rcases r with _ | _
      · have HE := Lib.hid (HNo.out rfl)
        go_wp2
        go_ret2
        exact ⟨_, rfl, by rw [HE.out]; exact own_nil _ _, HBS.out⟩
      · have HE := Lib.hid (HY.out rfl)
        go_wp2
        go_ret2
        exact ⟨_, rfl, by rw [HE.out]; exact HOS.out, HBS.out⟩
    · have hK : inB k 0 ((len : Int) - 1) = false := by unfold inB; exact decide_eq_false (by omega)
      have hE : stepOk zs k d = false := by unfold stepOk; rw [hg, hlen, hK]; rfl
      have HE := Lib.hid (step_no hE)
      have HF : Hid (outStepUp_1 zs k d = false) := hE
      rw [HF.out]
      rw [hg] at HG
      clear hg hc hlen hE hK
      by_cases h0 : k < 0
      · go_enter Try.func36, Try.ntmps36
        go_wp2_with (go_at_call 15; refine HG.out.mono ?_; rintro e w' ⟨rfl, rfl⟩)
        go_ret2
        exact ⟨_, rfl, by rw [HE.out]; exact own_nil _ _, Below.refl _ _⟩
      · have h1 : (len : Int) ≤ k := by omega
        clear hk
        go_enter Try.func36, Try.ntmps36
        go_wp2_with (go_at_call 15; refine HG.out.mono ?_; rintro e w' ⟨rfl, rfl⟩)
        go_ret2
        exact ⟨_, rfl, by rw [HE.out]; exact own_nil _ _, Below.refl _ _⟩

end Go.Proofs.Ytnajlnghhboelaa
