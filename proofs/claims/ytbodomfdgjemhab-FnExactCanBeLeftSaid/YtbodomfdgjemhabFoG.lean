/- Chapter 3, columns: the model's StepOf, LeastWith, CanBeLeft, CountWith. -/
import Derived.Test.YtbodomfdgjemhabFoF
namespace Go.Proofs.Ytbodomfdgjemhab
open Go.ChangeShapes Go.WideShapes Go.ChangeAt Go.RowKit
open Fo

/-- what stands behind good columns and what is left over -/
theorem left_parts {zs ls : List Int} (h : leftB zs ls = true) : ∃ cs l2 : List Nat, zs = asInts cs ∧ ls = asInts l2 ∧ l2.length = cs.length ∧ 1 ≤ cs.length ∧ cs.length ≤ 6 ∧ (∀ i, 1 ≤ cs.getD i 1 ∧ cs.getD i 1 ≤ 1000) ∧ ∀ i, l2.getD i 0 ≤ 1000 := by
  obtain ⟨h1, h2, h3⟩ := left_cols h
  obtain ⟨cs, rfl, h4, h5, h6⟩ := cols_nat h1
  obtain ⟨l2, rfl⟩ := left_nat h
  rw [asInts_len, asInts_len] at h2
  refine ⟨cs, l2, rfl, rfl, h2, h4, h5, col_bd h6, fun i => ?_⟩
  by_cases hi : i < l2.length
  · obtain ⟨hx1, hx2⟩ := inB_yes (h3 i (by rw [asInts_len]; exact hi))
    rw [getD_asInts] at hx1 hx2
    rw [getD_asInts, getD_in (cs := cs) (by omega)] at hx2
    obtain ⟨hy1, hy2⟩ := col_bd h6 i
    generalize l2.getD i 0 = x at *
    generalize cs.getD i 1 = y at *
    omega
  · simp only [List.getD_eq_getElem?_getD, List.getElem?_eq_none (by omega : l2.length ≤ i), Option.getD_none]; omega

set_option maxHeartbeats 1000000 in
theorem specStepOf_any (w : World) (a : Option Addr) (len cap : Nat) (zs : List Int) (hl : len ≤ 1048576) (hc : Came w a len zs) :
    Calls Try.prog 29 #[.slice a len cap] w fun e w' => e = .returned (.tuple #[.int .i64 (outStepOf_0 zs), .bool (outStepOf_1 zs)]) ∧ Below w.heap.size w w' := by
  have HF := Lib.hid (foColumns_any w a len cap zs (by omega) hc)
  rcases hb : colsB zs with _ | _
  · have H0 : Hid (outStepOf_0 zs = 0 ∧ outStepOf_1 zs = false) := Lib.hid (by unfold outStepOf_0 outStepOf_1 stepB; rw [hb]; exact ⟨rfl, rfl⟩)
    rw [hb] at HF
    clear hb hc
    go_enter Try.func29, Try.ntmps29
    go_wp2_with (go_at_call 47; refine HF.out.mono ?_; rintro e w' ⟨rfl, rfl⟩)
    go_ret2
    exact ⟨by rw [H0.out.1, H0.out.2]; exact rfl, Below.refl _ _⟩
  · obtain ⟨cs, rfl, h1, h2, h3⟩ := cols_nat hb
    have H0 : Hid (outStepOf_0 (asInts cs) = (if decide (lcmTo cs cs.length ≤ 1000000000000) then ((lcmTo cs cs.length : Nat) : Int) else 0) ∧ outStepOf_1 (asInts cs) = decide (lcmTo cs cs.length ≤ 1000000000000)) := Lib.hid (by
      unfold outStepOf_0 outStepOf_1 stepB; rw [hb, stepZ_asInts, Bool.true_and]; exact ⟨rfl, rfl⟩)
    have HL : Hid (cs.length = len) := Lib.hid (by rw [← asInts_len]; exact hc.1)
    have HC := Lib.hid hc
    have HCOL := Lib.hid (col_bd h3)
    rw [HL.out] at h1 h2
    rw [hb] at HF
    obtain ⟨b, off, rfl, hx⟩ := hc.2 (by omega)
    clear hb hc h3 hx
    go_enter Try.func29, Try.ntmps29
    go_wp2_with (go_at_call 47; refine HF.out.mono ?_; rintro e w' ⟨rfl, rfl⟩)
    go_loopw [4, 12] (fun sv i wr => ∃ j s : Nat, j ≤ len ∧ i = .int .i64 (j : Int) ∧ sv = .int .i64 (s : Int) ∧ 1 ≤ s ∧ s ≤ 1000000000000000000 ∧ Hid (s = lcmTo cs j) ∧ Hid (Below w.heap.size w wr)) (fun _ i _ => len - (intOf i).toNat)
    case atStart => exact ⟨0, 1, Nat.zero_le _, rfl, rfl, by omega, by omega, Lib.hid rfl, Below.refl _ _⟩
    case round =>
      obtain ⟨j, s, hj, rfl, rfl, hs1, hs18, HS, HB⟩ := hrel
      by_cases hlt : j < len
      · have e1 : wr.cell? ⟨b, off + j, none⟩ = some (.int .i64 ((cs.getD j 1 : Nat) : Int)) := by
          obtain ⟨b', off', hbo, hcell⟩ := (HC.out.below HB.out).2 (by omega)
          cases hbo
          have := hcell j hlt
          rw [getD_asInts, getD_in (by rw [HL.out]; exact hlt)] at this; exact this
        have hcb := HCOL.out j
        have hl18 := lcm_six (fun i => (HCOL.out i).2) (show j + 1 ≤ 6 by omega)
        have hl1 := lcmTo_pos (fun i => (HCOL.out i).1) (j + 1)
        have HLS : Hid (s / Nat.gcd s (cs.getD j 1) * cs.getD j 1 = lcmTo cs (j + 1)) := Lib.hid (by rw [lcm_step, lcmTo, ← HS.out])
        obtain ⟨c, hcc⟩ : ∃ c, c = cs.getD j 1 := ⟨_, rfl⟩
        rw [← hcc] at e1 hcb HLS
        obtain ⟨hc1, hc2⟩ := hcb
        have HGC := Lib.hid (fun w2 => foCommon_any s c (by omega) (by omega) (.inr hc1) w2)
        have hg0 : ¬ Nat.gcd s c = 0 := fun h => by have := Nat.eq_zero_of_gcd_eq_zero_right h; omega
        obtain ⟨g, hg⟩ : ∃ g, g = Nat.gcd s c := ⟨_, rfl⟩
        rw [← hg] at HGC HLS hg0
        obtain ⟨d, hd⟩ : ∃ d, d = s / g := ⟨_, rfl⟩
        have ed : (s : Int) / (g : Int) = (d : Int) := by rw [hd]; simp
        have hd2 : d ≤ s := by rw [hd]; exact Nat.div_le_self _ _
        rw [← hd] at HLS
        obtain ⟨s2, hs2⟩ : ∃ s2, s2 = lcmTo cs (j + 1) := ⟨_, rfl⟩
        rw [← hs2] at HLS hl18 hl1
        have em : (d : Int) * (c : Int) = (s2 : Int) := by rw [← HLS.out]; simp
        have HS2 := Lib.hid hs2
        clear hcc hg hd hs2
        go_wp2_with (go_at_call 51; refine (HGC.out _).mono ?_; rintro e w2 ⟨rfl, b3⟩; have HB3 : Hid (Below w.heap.size w w2) := Lib.hid (HB.out.trans (b3.mono HB.out.size)); clear b3)
        go_roundw
        case rel => exact ⟨j + 1, s2, by omega, by go_num, rfl, hl1, hl18, HS2, HB3⟩
        case measure => simp [intOf]; omega
      · obtain rfl : j = len := by omega
        have HE : Hid (lcmTo cs cs.length = s) := Lib.hid (by rw [HL.out]; exact HS.out.symm)
        by_cases hbig : s ≤ 1000000000000
        · have hgt : ¬ 1000000000000 < (s : Int) := by omega
          go_wp2
          go_ret2
          exact ⟨by rw [H0.out.1, H0.out.2, HE.out, decide_eq_true hbig]; exact rfl, HB.out⟩
        · have hgt : 1000000000000 < (s : Int) := by omega
          go_wp2
          go_ret2
          exact ⟨by rw [H0.out.1, H0.out.2, HE.out, decide_eq_false hbig]; exact rfl, HB.out⟩

theorem leastR_some {cs l2 : List Nat} {k n : Nat} (h : leastO cs l2 k = some n) : leastA cs l2 k = n ∧ leastS cs l2 k = lcmTo cs k := by unfold leastA leastS; rw [h]; exact ⟨rfl, rfl⟩
theorem leastO_lt {cs l2 : List Nat} {k n : Nat} (h : leastO cs l2 k = some n) : n < lcmTo cs k := by
  unfold leastO at h
  exact List.mem_range.1 (List.mem_of_find?_eq_some h)

set_option maxHeartbeats 1000000 in
theorem specLeastWith_any (w : World) (a : Option Addr) (len cap : Nat) (zs : List Int) (a2 : Option Addr) (len2 cap2 : Nat) (ls : List Int) (hl : len ≤ 1048576) (hl2 : len2 ≤ 1048576) (hc : Came w a len zs) (hc2 : Came w a2 len2 ls) :
    Calls Try.prog 31 #[.slice a len cap, .slice a2 len2 cap2] w fun e w' => e = .returned (.tuple #[.int .i64 (outLeastWith_0 zs ls), .bool (outLeastWith_1 zs ls)]) ∧ Below w.heap.size w w' := by
  have HF := Lib.hid (foLeft_any w a len cap zs a2 len2 cap2 ls hl hl2 hc hc2)
  rcases hb : leftB zs ls with _ | _
  · have H0 : Hid (outLeastWith_0 zs ls = 0 ∧ outLeastWith_1 zs ls = false) := Lib.hid (by unfold outLeastWith_0 outLeastWith_1; rw [hb]; exact ⟨rfl, rfl⟩)
    rw [hb] at HF
    clear hb hc hc2
    go_enter Try.func31, Try.ntmps31
    go_wp2_with (go_at_call 53; refine HF.out.mono ?_; rintro e w' ⟨rfl, rfl⟩)
    go_ret2
    exact ⟨by rw [H0.out.1, H0.out.2]; exact rfl, Below.refl _ _⟩
  · obtain ⟨cs, l2, rfl, rfl, h1, h2, h3, h4, h5⟩ := left_parts hb
    have H0 : Hid (outLeastWith_0 (asInts cs) (asInts l2) = leastOr (leastO cs l2 cs.length) ∧ outLeastWith_1 (asInts cs) (asInts l2) = (leastO cs l2 cs.length).isSome) := Lib.hid (by
      unfold outLeastWith_0 outLeastWith_1; rw [hb, leastZ_asInts]; exact ⟨rfl, rfl⟩)
    obtain rfl : cs.length = len := by rw [← asInts_len]; exact hc.1
    obtain rfl : cs.length = len2 := by rw [← h1, ← asInts_len]; exact hc2.1
    have HLL := Lib.hid (foLeast_any w a cs.length cap cs a2 cap2 l2 h2 h3 h4 h5 hc hc2)
    obtain ⟨k, hk⟩ : ∃ k, k = cs.length := ⟨_, rfl⟩
    rw [hb] at HF
    rw [← hk] at HLL HF H0 ⊢
    rcases ho : leastO cs l2 k with _ | n
    · have H1 : Hid (leastA cs l2 k = 0 ∧ leastS cs l2 k = 0) := Lib.hid (by unfold leastA leastS; rw [ho]; exact ⟨rfl, rfl⟩)
      rw [ho] at H0
      rw [H1.out.1, H1.out.2, ho] at HLL
      clear hb hc hc2 h4 h5 hk ho h1
      go_enter Try.func31, Try.ntmps31
      go_wp2_with fail
      go_at_call 53
      refine HF.out.mono ?_
      rintro e w' ⟨rfl, rfl⟩
      go_wp2_with fail
      go_at_call 54
      refine HLL.out.mono ?_
      rintro e w2 ⟨rfl, b2⟩
      have B2 := Lib.hid b2
      clear b2
      simp only [Option.isSome_none]
      go_wp2
      go_ret2
      exact ⟨by rw [H0.out.1, H0.out.2]; exact rfl, B2.out⟩
    · have H1 := Lib.hid (leastR_some ho)
      rw [ho] at H0
      rw [H1.out.1, H1.out.2, ho] at HLL
      obtain ⟨s, hs⟩ : ∃ s, s = lcmTo cs k := ⟨_, rfl⟩
      rw [← hs] at HLL
      clear hb hc hc2 h4 h5 hk ho h1 hs
      go_enter Try.func31, Try.ntmps31
      go_wp2_with fail
      go_at_call 53
      refine HF.out.mono ?_
      rintro e w' ⟨rfl, rfl⟩
      go_wp2_with fail
      go_at_call 54
      refine HLL.out.mono ?_
      rintro e w2 ⟨rfl, b2⟩
      have B2 := Lib.hid b2
      clear b2
      simp only [Option.isSome_some]
      go_wp2
      go_ret2
      exact ⟨by rw [H0.out.1, H0.out.2]; exact rfl, B2.out⟩

set_option maxHeartbeats 1000000 in
theorem specCanBeLeft_any (w : World) (a : Option Addr) (len cap : Nat) (zs : List Int) (a2 : Option Addr) (len2 cap2 : Nat) (ls : List Int) (hl : len ≤ 1048576) (hl2 : len2 ≤ 1048576) (hc : Came w a len zs) (hc2 : Came w a2 len2 ls) :
    Calls Try.prog 35 #[.slice a len cap, .slice a2 len2 cap2] w fun e w' => e = .returned (.tuple #[.bool (outCanBeLeft_0 zs ls), .bool (outCanBeLeft_1 zs ls)]) ∧ Below w.heap.size w w' := by
  have HF := Lib.hid (foLeft_any w a len cap zs a2 len2 cap2 ls hl hl2 hc hc2)
  rcases hb : leftB zs ls with _ | _
  · have H0 : Hid (outCanBeLeft_0 zs ls = false ∧ outCanBeLeft_1 zs ls = false) := Lib.hid (by unfold outCanBeLeft_0 outCanBeLeft_1; rw [hb]; exact ⟨rfl, rfl⟩)
    rw [hb] at HF
    clear hb hc hc2
    go_enter Try.func35, Try.ntmps35
    go_wp2_with (go_at_call 53; refine HF.out.mono ?_; rintro e w' ⟨rfl, rfl⟩)
    go_ret2
    exact ⟨by rw [H0.out.1, H0.out.2]; exact rfl, Below.refl _ _⟩
  · obtain ⟨cs, l2, rfl, rfl, h1, h2, h3, h4, h5⟩ := left_parts hb
    have H0 : Hid (outCanBeLeft_0 (asInts cs) (asInts l2) = (leastO cs l2 cs.length).isSome ∧ outCanBeLeft_1 (asInts cs) (asInts l2) = true) := Lib.hid (by
      unfold outCanBeLeft_0 outCanBeLeft_1; rw [hb, leastZ_asInts]; exact ⟨rfl, rfl⟩)
    obtain rfl : cs.length = len := by rw [← asInts_len]; exact hc.1
    obtain rfl : cs.length = len2 := by rw [← h1, ← asInts_len]; exact hc2.1
    have HLL := Lib.hid (foLeast_any w a cs.length cap cs a2 cap2 l2 h2 h3 h4 h5 hc hc2)
    obtain ⟨k, hk⟩ : ∃ k, k = cs.length := ⟨_, rfl⟩
    rw [hb] at HF
    rw [← hk] at HLL HF H0 ⊢
    obtain ⟨o, ho⟩ : ∃ o, o = (leastO cs l2 k).isSome := ⟨_, rfl⟩
    obtain ⟨x, hx⟩ : ∃ o, o = leastA cs l2 k := ⟨_, rfl⟩
    obtain ⟨s, hs⟩ : ∃ o, o = leastS cs l2 k := ⟨_, rfl⟩
    rw [← ho] at HLL H0
    rw [← hx, ← hs] at HLL
    clear hb hc hc2 h4 h5 hk ho h1 hs hx
    go_enter Try.func35, Try.ntmps35
    go_wp2_with fail
    go_at_call 53
    refine HF.out.mono ?_
    rintro e w' ⟨rfl, rfl⟩
    go_wp2_with fail
    go_at_call 54
    refine HLL.out.mono ?_
    rintro e w2 ⟨rfl, b2⟩
    have B2 := Lib.hid b2
    clear b2
    go_wp2
    go_ret2
    exact ⟨by rw [H0.out.1, H0.out.2]; exact rfl, B2.out⟩

set_option maxHeartbeats 1000000 in
theorem specCountWith_any (w : World) (a : Option Addr) (len cap : Nat) (zs : List Int) (a2 : Option Addr) (len2 cap2 : Nat) (ls : List Int) (m : Int) (_wm : (Lit.int .i64 m).wf = true) (hl : len ≤ 1048576) (hl2 : len2 ≤ 1048576) (hc : Came w a len zs) (hc2 : Came w a2 len2 ls) :
    Calls Try.prog 33 #[.slice a len cap, .slice a2 len2 cap2, .int .i64 m] w fun e w' => e = .returned (.tuple #[.int .i64 (outCountWith_0 zs ls m), .bool (outCountWith_1 zs ls m)]) ∧ Below w.heap.size w w' := by
  have HF := Lib.hid (foLeft_any w a len cap zs a2 len2 cap2 ls hl hl2 hc hc2)
  have HI := Lib.hid (l1In_any m 0 1000000000 w)
  clear _wm
  rcases hb : leftB zs ls with _ | _
  · have H0 : Hid (outCountWith_0 zs ls m = 0 ∧ outCountWith_1 zs ls m = false) := Lib.hid (by unfold outCountWith_0 outCountWith_1 withB; rw [hb]; exact ⟨rfl, rfl⟩)
    rw [hb] at HF
    clear hb hc hc2
    go_enter Try.func33, Try.ntmps33
    go_wp2_with (go_at_call 53; refine HF.out.mono ?_; rintro e w' ⟨rfl, rfl⟩)
    go_ret2
    exact ⟨by rw [H0.out.1, H0.out.2]; exact rfl, Below.refl _ _⟩
  · rcases hm : inB m 0 1000000000 with _ | _
    · have H0 : Hid (outCountWith_0 zs ls m = 0 ∧ outCountWith_1 zs ls m = false) := Lib.hid (by unfold outCountWith_0 outCountWith_1 withB; rw [hb, hm]; exact ⟨rfl, rfl⟩)
      rw [hb] at HF
      rw [hm] at HI
      clear hb hc hc2 hm
      go_enter Try.func33, Try.ntmps33
      go_wp2_with (first | (go_at_call 53; refine HF.out.mono ?_; rintro e w' ⟨rfl, rfl⟩) | (go_at_call 57; refine HI.out.mono ?_; rintro e w' ⟨rfl, rfl⟩))
      go_ret2
      exact ⟨by rw [H0.out.1, H0.out.2]; exact rfl, Below.refl _ _⟩
    · obtain ⟨cs, l2, rfl, rfl, h1, h2, h3, h4, h5⟩ := left_parts hb
      have H0 : Hid (outCountWith_0 (asInts cs) (asInts l2) m = countUp (leastO cs l2 cs.length) (lcmTo cs cs.length) m ∧ outCountWith_1 (asInts cs) (asInts l2) m = true) := Lib.hid (by
        unfold outCountWith_0 outCountWith_1 withB; rw [hb, hm, leastZ_asInts, stepZ_asInts]; exact ⟨rfl, rfl⟩)
      obtain rfl : cs.length = len := by rw [← asInts_len]; exact hc.1
      obtain rfl : cs.length = len2 := by rw [← h1, ← asInts_len]; exact hc2.1
      have HLL := Lib.hid (foLeast_any w a cs.length cap cs a2 cap2 l2 h2 h3 h4 h5 hc hc2)
      obtain ⟨hm1, hm2⟩ := inB_yes hm
      have hl18 := lcm_six (fun i => (h4 i).2) h3
      have hlp := lcmTo_pos (fun i => (h4 i).1) cs.length
      obtain ⟨k, hk⟩ : ∃ k, k = cs.length := ⟨_, rfl⟩
      rw [hb] at HF
      rw [hm] at HI
      rw [← hk] at HLL HF H0 hl18 hlp ⊢
      rcases ho : leastO cs l2 k with _ | n
      · have H1 : Hid (leastA cs l2 k = 0 ∧ leastS cs l2 k = 0) := Lib.hid (by unfold leastA leastS; rw [ho]; exact ⟨rfl, rfl⟩)
        rw [ho] at H0
        rw [H1.out.1, H1.out.2, ho] at HLL
        have HLL2 : Hid (Calls Try.prog 54 #[.slice a k cap, .slice a2 k cap2] w fun e w' => e = .returned (.tuple #[.int .i64 0, .int .i64 0, .bool false]) ∧ Below w.heap.size w w') := HLL
        clear hb hc hc2 h4 h5 hk ho h1 hm HLL
        go_enter Try.func33, Try.ntmps33
        go_wp2_with fail
        go_at_call 53
        refine HF.out.mono ?_
        rintro e w' ⟨rfl, rfl⟩
        go_wp2_with fail
        go_at_call 57
        refine HI.out.mono ?_
        rintro e w' ⟨rfl, rfl⟩
        go_wp2_with fail
        go_at_call 54
        refine HLL2.out.mono ?_
        rintro e w2 ⟨rfl, b2⟩
        have B2 := Lib.hid b2
        clear b2
        go_wp2
        go_ret2
        exact ⟨by rw [H0.out.1, H0.out.2]; exact rfl, B2.out⟩
      · have H1 := Lib.hid (leastR_some ho)
        have hns := leastO_lt ho
        rw [ho] at H0
        rw [H1.out.1, H1.out.2, ho] at HLL
        obtain ⟨s, hs⟩ : ∃ s, s = lcmTo cs k := ⟨_, rfl⟩
        rw [← hs] at HLL H0 hl18 hns hlp
        have HLL2 : Hid (Calls Try.prog 54 #[.slice a k cap, .slice a2 k cap2] w fun e w' => e = .returned (.tuple #[.int .i64 (n : Nat), .int .i64 (s : Nat), .bool true]) ∧ Below w.heap.size w w') := HLL
        have hs0 : ¬ s = 0 := by omega
        clear hb hc hc2 h4 h5 hk ho h1 hs hm HLL
        by_cases hmn : m < (n : Int)
        · have HE : Hid (countUp (some n) s m = 0) := Lib.hid (by unfold countUp; exact if_pos hmn)
          go_enter Try.func33, Try.ntmps33
          go_wp2_with fail
          go_at_call 53
          refine HF.out.mono ?_
          rintro e w' ⟨rfl, rfl⟩
          go_wp2_with fail
          go_at_call 57
          refine HI.out.mono ?_
          rintro e w' ⟨rfl, rfl⟩
          go_wp2_with fail
          go_at_call 54
          refine HLL2.out.mono ?_
          rintro e w2 ⟨rfl, b2⟩
          have B2 := Lib.hid b2
          clear b2
          go_wp2
          go_ret2
          exact ⟨by rw [H0.out.1, H0.out.2, HE.out]; exact rfl, B2.out⟩
        · have HE : Hid (countUp (some n) s m = (m - (n : Int)) / (s : Int) + 1) := Lib.hid (by unfold countUp; exact if_neg hmn)
          have hd0 : 0 ≤ (m - (n : Int)) / (s : Int) := Int.ediv_nonneg (by omega) (by omega)
          have hd1 : (m - (n : Int)) / (s : Int) ≤ m - (n : Int) := Int.ediv_le_self _ (by omega)
          go_enter Try.func33, Try.ntmps33
          go_wp2_with fail
          go_at_call 53
          refine HF.out.mono ?_
          rintro e w' ⟨rfl, rfl⟩
          go_wp2_with fail
          go_at_call 57
          refine HI.out.mono ?_
          rintro e w' ⟨rfl, rfl⟩
          go_wp2_with fail
          go_at_call 54
          refine HLL2.out.mono ?_
          rintro e w2 ⟨rfl, b2⟩
          have B2 := Lib.hid b2
          clear b2
          go_wp2
          go_ret2
          exact ⟨by rw [H0.out.1, H0.out.2, HE.out]; exact rfl, B2.out⟩

end Go.Proofs.Ytbodomfdgjemhab
