/- The walk of the composite law FnFilesSorted, whose files are drawn. -/
import Derived.Test.YtcljhjfmhnmgnaaQd
import Derived.Test.YtcljhjfmhnmgnaaQs
import Derived.Test.YtcljhjfmhnmgnaaKi
import Derived.Test.YtcljhjfmhnmgnaaKj
import Derived.Test.YtcljhjfmhnmgnaaCuH
namespace Go.Proofs.Ytcljhjfmhnmgnaa
open Go.ChangeShapes Go.WideShapes Go.ChangeAt Go.RowKit
open Fi Qb Qs Cu

set_option maxRecDepth 20000 in
set_option maxHeartbeats 40000000 in
theorem walkFnFilesSorted (xa : Option Addr) (la ca : Nat) (xb : Option Addr) (lb cb : Nat) (wS : World) (hb : Bytes wS xa la) (h1 : la ≤ 9223372036854775807) (_hb2 : Bytes wS xb lb) (h2 : lb ≤ 9223372036854775807) :
    Calls Try.prog 4 #[.slice xa la ca, .slice xb lb cb] wS fun e w' => e = .returned (.bool true) ∧ Below wS.heap.size wS w' := by
  have HB := Lib.hid hb
  clear hb
  go_enter Try.func4, Try.ntmps4
  go_wp2_with fail
  go_at_call 27
  refine (big_p wS xa xb la ca lb cb h1 h2).mono ?_
  rintro e w' ⟨rfl, rfl⟩
  obtain ⟨tb, htb⟩ : ∃ t, t = bigB la lb := ⟨_, rfl⟩
  rw [← htb]
  clear htb
  by_cases htb : tb = true
  · subst htb
    go_wp2
    go_ret
    exact ⟨rfl, Below.refl _ _⟩
  have htb : tb = false := by simpa using htb
  subst htb
  have CD := Lib.hid (drawSortBoth_p wS xa la ca h1 HB.out)
  go_wp2_with fail
  go_at_call 28
  refine CD.out.mono ?_
  rintro e w0 ⟨v, zss, rfl, o0, hz, b0⟩
  have HS := Lib.hid b0
  obtain ⟨a, cap, rfl, h0, _, _⟩ := o0.cameC
  obtain ⟨len, hlen⟩ : ∃ n, n = zss.length := ⟨_, rfl⟩
  rw [← hlen] at h0 ⊢
  have hf : LenSS zss := ⟨by omega, trivial⟩
  have hc := Lib.hid h0
  have HZ : Hid (zss.length = len) := Lib.hid hlen.symm
  clear o0 b0 h0 hlen hz CD HB
  obtain ⟨t, ht⟩ : ∃ t, t = goodF zss := ⟨_, rfl⟩
  have HAF : Hid (outAreFiles_0 zss = t) := Lib.hid ht.symm
  obtain ⟨rSortBoth, hrSortBoth⟩ : ∃ r, r = outSortBoth_0 zss := ⟨_, rfl⟩
  have HSortBoth0 : Hid (outSortBoth_0 zss = rSortBoth) := Lib.hid hrSortBoth.symm
  have HSortBoth1 : Hid (outSortBoth_1 zss = t) := Lib.hid ht.symm
  have FSortBoth : Hid (smallR rSortBoth) := Lib.hid (by rw [hrSortBoth]; exact smallR_of (lenSortBoth_0 zss))
  obtain ⟨rSortFileRows, hrSortFileRows⟩ : ∃ r, r = outSortFileRows_0 zss := ⟨_, rfl⟩
  have HSortFileRows0 : Hid (outSortFileRows_0 zss = rSortFileRows) := Lib.hid hrSortFileRows.symm
  have HSortFileRows1 : Hid (outSortFileRows_1 zss = t) := Lib.hid ht.symm
  have FSortFileRows : Hid (smallR rSortFileRows) := Lib.hid (by rw [hrSortFileRows]; exact smallR_of (lenSortFileRows_0 zss))
  obtain ⟨rSortFileColumns, hrSortFileColumns⟩ : ∃ r, r = outSortFileColumns_0 zss := ⟨_, rfl⟩
  have HSortFileColumns0 : Hid (outSortFileColumns_0 zss = rSortFileColumns) := Lib.hid hrSortFileColumns.symm
  have HSortFileColumns1 : Hid (outSortFileColumns_1 zss = t) := Lib.hid ht.symm
  have FSortFileColumns : Hid (smallR rSortFileColumns) := Lib.hid (by rw [hrSortFileColumns]; exact smallR_of (lenSortFileColumns_0 zss))
  obtain ⟨rAreRowsSorted, hrAreRowsSorted⟩ : ∃ r, r = outAreRowsSorted_0 zss := ⟨_, rfl⟩
  have HAreRowsSorted0 : Hid (outAreRowsSorted_0 zss = rAreRowsSorted) := Lib.hid hrAreRowsSorted.symm
  have HAreRowsSorted1 : Hid (outAreRowsSorted_1 zss = t) := Lib.hid ht.symm
  obtain ⟨rAreColumnsSorted, hrAreColumnsSorted⟩ : ∃ r, r = outAreColumnsSorted_0 zss := ⟨_, rfl⟩
  have HAreColumnsSorted0 : Hid (outAreColumnsSorted_0 zss = rAreColumnsSorted) := Lib.hid hrAreColumnsSorted.symm
  have HAreColumnsSorted1 : Hid (outAreColumnsSorted_1 zss = t) := Lib.hid ht.symm
  obtain ⟨rTurnFiles, hrTurnFiles⟩ : ∃ r, r = outTurnFiles_0 zss := ⟨_, rfl⟩
  have HTurnFiles0 : Hid (outTurnFiles_0 zss = rTurnFiles) := Lib.hid hrTurnFiles.symm
  have HTurnFiles1 : Hid (outTurnFiles_1 zss = t) := Lib.hid ht.symm
  have FTurnFiles : Hid (smallR rTurnFiles) := Lib.hid (by rw [hrTurnFiles]; exact smallR_of (lenTurnFiles_0 zss))
  obtain ⟨rTallestOfShortest, hrTallestOfShortest⟩ : ∃ r, r = outTallestOfShortest_0 zss := ⟨_, rfl⟩
  have HTallestOfShortest0 : Hid (outTallestOfShortest_0 zss = rTallestOfShortest) := Lib.hid hrTallestOfShortest.symm
  have HTallestOfShortest1 : Hid (outTallestOfShortest_1 zss = t) := Lib.hid ht.symm
  obtain ⟨rShortestOfTallest, hrShortestOfTallest⟩ : ∃ r, r = outShortestOfTallest_0 zss := ⟨_, rfl⟩
  have HShortestOfTallest0 : Hid (outShortestOfTallest_0 zss = rShortestOfTallest) := Lib.hid hrShortestOfTallest.symm
  have HShortestOfTallest1 : Hid (outShortestOfTallest_1 zss = t) := Lib.hid ht.symm
  obtain ⟨rSaddlePlaces, hrSaddlePlaces⟩ : ∃ r, r = outSaddlePlaces_0 zss := ⟨_, rfl⟩
  have HSaddlePlaces0 : Hid (outSaddlePlaces_0 zss = rSaddlePlaces) := Lib.hid hrSaddlePlaces.symm
  have HSaddlePlaces1 : Hid (outSaddlePlaces_1 zss = t) := Lib.hid ht.symm
  have FSaddlePlaces : Hid (smallR rSaddlePlaces) := Lib.hid (by rw [hrSaddlePlaces]; exact smallR_of (lenSaddlePlaces_0 zss))
  have HFX : Hid (t = true → FilesFacts zss rSortBoth rSortFileRows rSortFileColumns rTurnFiles rSaddlePlaces rAreRowsSorted rAreColumnsSorted rTallestOfShortest rShortestOfTallest) := Lib.hid (fun h => by rw [hrSortBoth, hrSortFileRows, hrSortFileColumns, hrAreRowsSorted, hrAreColumnsSorted, hrTurnFiles, hrTallestOfShortest, hrShortestOfTallest, hrSaddlePlaces]; exact files_facts (by rw [← ht, h]))
  have HSZ : Hid (t = true → smallR zss) := Lib.hid (fun h => smallR_of (good_of (show goodF zss = true by rw [← ht, h])).fits.fits)
  clear ht hrSortBoth hrSortFileRows hrSortFileColumns hrAreRowsSorted hrAreColumnsSorted hrTurnFiles hrTallestOfShortest hrShortestOfTallest hrSaddlePlaces
  have B0 : Hid (Below w0.heap.size w0 w0) := Lib.hid (Below.refl _ _)
  have C0 := implSortBoth_any w0 a len cap zss hf (hc.out.below B0.out)
  rw [HSortBoth0.out, HSortBoth1.out] at C0
  have C0 := Lib.hid C0
  go_wp2_with fail
  go_at_call 5
  refine C0.out.mono ?_
  rintro e w1 ⟨v0, rfl, o0, b0⟩
  have B1 : Hid (Below w0.heap.size w0 w1) := Lib.hid (B0.out.trans (b0.mono B0.out.size))
  obtain ⟨a0, c0, e0, h0, p0, q0⟩ := o0.cameC
  obtain ⟨l0, hl0⟩ : ∃ n, n = rSortBoth.length := ⟨_, rfl⟩
  rw [← hl0] at e0 h0 p0
  have H0 := Lib.hid h0
  have L0 := Lib.hid hl0
  have P0 := Lib.hid (And.intro p0 q0)
  clear h0 hl0 p0 q0
  subst e0
  clear o0
  clear b0 C0
  have C1 := specSortBoth_any w1 a len cap zss hf (hc.out.below B1.out)
  rw [HSortBoth0.out, HSortBoth1.out] at C1
  have C1 := Lib.hid C1
  go_wp2_with fail
  go_at_call 6
  refine C1.out.mono ?_
  rintro e w2 ⟨v1, rfl, o1, b1⟩
  have B2 : Hid (Below w0.heap.size w0 w2) := Lib.hid (B1.out.trans (b1.mono B1.out.size))
  replace H0 := Lib.hid (H0.out.below b1)
  obtain ⟨a1, c1, e1, h1, p1, q1⟩ := o1.cameC
  obtain ⟨l1, hl1⟩ : ∃ n, n = rSortBoth.length := ⟨_, rfl⟩
  rw [← hl1] at e1 h1 p1
  have H1 := Lib.hid h1
  have L1 := Lib.hid hl1
  have P1 := Lib.hid (And.intro p1 q1)
  clear h1 hl1 p1 q1
  subst e1
  clear o1
  clear b1 C1 B1
  have C2 := implSortFileRows_any w2 a len cap zss hf (hc.out.below B2.out)
  rw [HSortFileRows0.out, HSortFileRows1.out] at C2
  have C2 := Lib.hid C2
  go_wp2_with fail
  go_at_call 7
  refine C2.out.mono ?_
  rintro e w3 ⟨v2, rfl, o2, b2⟩
  have B3 : Hid (Below w0.heap.size w0 w3) := Lib.hid (B2.out.trans (b2.mono B2.out.size))
  replace H0 := Lib.hid (H0.out.below b2)
  replace H1 := Lib.hid (H1.out.below b2)
  obtain ⟨a2, c2, e2, h2, p2, q2⟩ := o2.cameC
  obtain ⟨l2, hl2⟩ : ∃ n, n = rSortFileRows.length := ⟨_, rfl⟩
  rw [← hl2] at e2 h2 p2
  have H2 := Lib.hid h2
  have L2 := Lib.hid hl2
  have P2 := Lib.hid (And.intro p2 q2)
  clear h2 hl2 p2 q2
  subst e2
  clear o2
  clear b2 C2 B2
  have C3 := specSortFileRows_any w3 a len cap zss hf (hc.out.below B3.out)
  rw [HSortFileRows0.out, HSortFileRows1.out] at C3
  have C3 := Lib.hid C3
  go_wp2_with fail
  go_at_call 8
  refine C3.out.mono ?_
  rintro e w4 ⟨v3, rfl, o3, b3⟩
  have B4 : Hid (Below w0.heap.size w0 w4) := Lib.hid (B3.out.trans (b3.mono B3.out.size))
  replace H0 := Lib.hid (H0.out.below b3)
  replace H1 := Lib.hid (H1.out.below b3)
  replace H2 := Lib.hid (H2.out.below b3)
  obtain ⟨a3, c3, e3, h3, p3, q3⟩ := o3.cameC
  obtain ⟨l3, hl3⟩ : ∃ n, n = rSortFileRows.length := ⟨_, rfl⟩
  rw [← hl3] at e3 h3 p3
  have H3 := Lib.hid h3
  have L3 := Lib.hid hl3
  have P3 := Lib.hid (And.intro p3 q3)
  clear h3 hl3 p3 q3
  subst e3
  clear o3
  clear b3 C3 B3
  have C4 := implSortFileColumns_any w4 a len cap zss hf (hc.out.below B4.out)
  rw [HSortFileColumns0.out, HSortFileColumns1.out] at C4
  have C4 := Lib.hid C4
  go_wp2_with fail
  go_at_call 9
  refine C4.out.mono ?_
  rintro e w5 ⟨v4, rfl, o4, b4⟩
  have B5 : Hid (Below w0.heap.size w0 w5) := Lib.hid (B4.out.trans (b4.mono B4.out.size))
  replace H0 := Lib.hid (H0.out.below b4)
  replace H1 := Lib.hid (H1.out.below b4)
  replace H2 := Lib.hid (H2.out.below b4)
  replace H3 := Lib.hid (H3.out.below b4)
  obtain ⟨a4, c4, e4, h4, p4, q4⟩ := o4.cameC
  obtain ⟨l4, hl4⟩ : ∃ n, n = rSortFileColumns.length := ⟨_, rfl⟩
  rw [← hl4] at e4 h4 p4
  have H4 := Lib.hid h4
  have L4 := Lib.hid hl4
  have P4 := Lib.hid (And.intro p4 q4)
  clear h4 hl4 p4 q4
  subst e4
  clear o4
  clear b4 C4 B4
  have C5 := specSortFileColumns_any w5 a len cap zss hf (hc.out.below B5.out)
  rw [HSortFileColumns0.out, HSortFileColumns1.out] at C5
  have C5 := Lib.hid C5
  go_wp2_with fail
  go_at_call 10
  refine C5.out.mono ?_
  rintro e w6 ⟨v5, rfl, o5, b5⟩
  have B6 : Hid (Below w0.heap.size w0 w6) := Lib.hid (B5.out.trans (b5.mono B5.out.size))
  replace H0 := Lib.hid (H0.out.below b5)
  replace H1 := Lib.hid (H1.out.below b5)
  replace H2 := Lib.hid (H2.out.below b5)
  replace H3 := Lib.hid (H3.out.below b5)
  replace H4 := Lib.hid (H4.out.below b5)
  obtain ⟨a5, c5, e5, h5, p5, q5⟩ := o5.cameC
  obtain ⟨l5, hl5⟩ : ∃ n, n = rSortFileColumns.length := ⟨_, rfl⟩
  rw [← hl5] at e5 h5 p5
  have H5 := Lib.hid h5
  have L5 := Lib.hid hl5
  have P5 := Lib.hid (And.intro p5 q5)
  clear h5 hl5 p5 q5
  subst e5
  clear o5
  clear b5 C5 B5
  have C6 := implAreRowsSorted_any w6 a len cap zss hf (hc.out.below B6.out)
  rw [HAreRowsSorted0.out, HAreRowsSorted1.out] at C6
  have C6 := Lib.hid C6
  go_wp2_with fail
  go_at_call 11
  refine C6.out.mono ?_
  rintro e w7 ⟨rfl, b6⟩
  have B7 : Hid (Below w0.heap.size w0 w7) := Lib.hid (B6.out.trans (b6.mono B6.out.size))
  replace H0 := Lib.hid (H0.out.below b6)
  replace H1 := Lib.hid (H1.out.below b6)
  replace H2 := Lib.hid (H2.out.below b6)
  replace H3 := Lib.hid (H3.out.below b6)
  replace H4 := Lib.hid (H4.out.below b6)
  replace H5 := Lib.hid (H5.out.below b6)
  clear b6 C6 B6
  have C7 := specAreRowsSorted_any w7 a len cap zss hf (hc.out.below B7.out)
  rw [HAreRowsSorted0.out, HAreRowsSorted1.out] at C7
  have C7 := Lib.hid C7
  go_wp2_with fail
  go_at_call 12
  refine C7.out.mono ?_
  rintro e w8 ⟨rfl, b7⟩
  have B8 : Hid (Below w0.heap.size w0 w8) := Lib.hid (B7.out.trans (b7.mono B7.out.size))
  replace H0 := Lib.hid (H0.out.below b7)
  replace H1 := Lib.hid (H1.out.below b7)
  replace H2 := Lib.hid (H2.out.below b7)
  replace H3 := Lib.hid (H3.out.below b7)
  replace H4 := Lib.hid (H4.out.below b7)
  replace H5 := Lib.hid (H5.out.below b7)
  clear b7 C7 B7
  have C8 := implAreColumnsSorted_any w8 a len cap zss hf (hc.out.below B8.out)
  rw [HAreColumnsSorted0.out, HAreColumnsSorted1.out] at C8
  have C8 := Lib.hid C8
  go_wp2_with fail
  go_at_call 13
  refine C8.out.mono ?_
  rintro e w9 ⟨rfl, b8⟩
  have B9 : Hid (Below w0.heap.size w0 w9) := Lib.hid (B8.out.trans (b8.mono B8.out.size))
  replace H0 := Lib.hid (H0.out.below b8)
  replace H1 := Lib.hid (H1.out.below b8)
  replace H2 := Lib.hid (H2.out.below b8)
  replace H3 := Lib.hid (H3.out.below b8)
  replace H4 := Lib.hid (H4.out.below b8)
  replace H5 := Lib.hid (H5.out.below b8)
  clear b8 C8 B8
  have C9 := specAreColumnsSorted_any w9 a len cap zss hf (hc.out.below B9.out)
  rw [HAreColumnsSorted0.out, HAreColumnsSorted1.out] at C9
  have C9 := Lib.hid C9
  go_wp2_with fail
  go_at_call 14
  refine C9.out.mono ?_
  rintro e w10 ⟨rfl, b9⟩
  have B10 : Hid (Below w0.heap.size w0 w10) := Lib.hid (B9.out.trans (b9.mono B9.out.size))
  replace H0 := Lib.hid (H0.out.below b9)
  replace H1 := Lib.hid (H1.out.below b9)
  replace H2 := Lib.hid (H2.out.below b9)
  replace H3 := Lib.hid (H3.out.below b9)
  replace H4 := Lib.hid (H4.out.below b9)
  replace H5 := Lib.hid (H5.out.below b9)
  clear b9 C9 B9
  have C10 := implTurnFiles_any w10 a len cap zss hf (hc.out.below B10.out)
  rw [HTurnFiles0.out, HTurnFiles1.out] at C10
  have C10 := Lib.hid C10
  go_wp2_with fail
  go_at_call 15
  refine C10.out.mono ?_
  rintro e w11 ⟨v10, rfl, o10, b10⟩
  have B11 : Hid (Below w0.heap.size w0 w11) := Lib.hid (B10.out.trans (b10.mono B10.out.size))
  replace H0 := Lib.hid (H0.out.below b10)
  replace H1 := Lib.hid (H1.out.below b10)
  replace H2 := Lib.hid (H2.out.below b10)
  replace H3 := Lib.hid (H3.out.below b10)
  replace H4 := Lib.hid (H4.out.below b10)
  replace H5 := Lib.hid (H5.out.below b10)
  obtain ⟨a10, c10, e10, h10, p10, q10⟩ := o10.cameC
  obtain ⟨l10, hl10⟩ : ∃ n, n = rTurnFiles.length := ⟨_, rfl⟩
  rw [← hl10] at e10 h10 p10
  have H10 := Lib.hid h10
  have L10 := Lib.hid hl10
  have P10 := Lib.hid (And.intro p10 q10)
  clear h10 hl10 p10 q10
  subst e10
  clear o10
  clear b10 C10 B10
  have C11 := specTurnFiles_any w11 a len cap zss hf (hc.out.below B11.out)
  rw [HTurnFiles0.out, HTurnFiles1.out] at C11
  have C11 := Lib.hid C11
  go_wp2_with fail
  go_at_call 16
  refine C11.out.mono ?_
  rintro e w12 ⟨v11, rfl, o11, b11⟩
  have B12 : Hid (Below w0.heap.size w0 w12) := Lib.hid (B11.out.trans (b11.mono B11.out.size))
  replace H0 := Lib.hid (H0.out.below b11)
  replace H1 := Lib.hid (H1.out.below b11)
  replace H2 := Lib.hid (H2.out.below b11)
  replace H3 := Lib.hid (H3.out.below b11)
  replace H4 := Lib.hid (H4.out.below b11)
  replace H5 := Lib.hid (H5.out.below b11)
  replace H10 := Lib.hid (H10.out.below b11)
  obtain ⟨a11, c11, e11, h11, p11, q11⟩ := o11.cameC
  obtain ⟨l11, hl11⟩ : ∃ n, n = rTurnFiles.length := ⟨_, rfl⟩
  rw [← hl11] at e11 h11 p11
  have H11 := Lib.hid h11
  have L11 := Lib.hid hl11
  have P11 := Lib.hid (And.intro p11 q11)
  clear h11 hl11 p11 q11
  subst e11
  clear o11
  clear b11 C11 B11
  have C12 := implTallestOfShortest_any w12 a len cap zss hf (hc.out.below B12.out)
  rw [HTallestOfShortest0.out, HTallestOfShortest1.out] at C12
  have C12 := Lib.hid C12
  go_wp2_with fail
  go_at_call 17
  refine C12.out.mono ?_
  rintro e w13 ⟨rfl, b12⟩
  have B13 : Hid (Below w0.heap.size w0 w13) := Lib.hid (B12.out.trans (b12.mono B12.out.size))
  replace H0 := Lib.hid (H0.out.below b12)
  replace H1 := Lib.hid (H1.out.below b12)
  replace H2 := Lib.hid (H2.out.below b12)
  replace H3 := Lib.hid (H3.out.below b12)
  replace H4 := Lib.hid (H4.out.below b12)
  replace H5 := Lib.hid (H5.out.below b12)
  replace H10 := Lib.hid (H10.out.below b12)
  replace H11 := Lib.hid (H11.out.below b12)
  clear b12 C12 B12
  have C13 := specTallestOfShortest_any w13 a len cap zss hf (hc.out.below B13.out)
  rw [HTallestOfShortest0.out, HTallestOfShortest1.out] at C13
  have C13 := Lib.hid C13
  go_wp2_with fail
  go_at_call 18
  refine C13.out.mono ?_
  rintro e w14 ⟨rfl, b13⟩
  have B14 : Hid (Below w0.heap.size w0 w14) := Lib.hid (B13.out.trans (b13.mono B13.out.size))
  replace H0 := Lib.hid (H0.out.below b13)
  replace H1 := Lib.hid (H1.out.below b13)
  replace H2 := Lib.hid (H2.out.below b13)
  replace H3 := Lib.hid (H3.out.below b13)
  replace H4 := Lib.hid (H4.out.below b13)
  replace H5 := Lib.hid (H5.out.below b13)
  replace H10 := Lib.hid (H10.out.below b13)
  replace H11 := Lib.hid (H11.out.below b13)
  clear b13 C13 B13
  have C14 := implShortestOfTallest_any w14 a len cap zss hf (hc.out.below B14.out)
  rw [HShortestOfTallest0.out, HShortestOfTallest1.out] at C14
  have C14 := Lib.hid C14
  go_wp2_with fail
  go_at_call 19
  refine C14.out.mono ?_
  rintro e w15 ⟨rfl, b14⟩
  have B15 : Hid (Below w0.heap.size w0 w15) := Lib.hid (B14.out.trans (b14.mono B14.out.size))
  replace H0 := Lib.hid (H0.out.below b14)
  replace H1 := Lib.hid (H1.out.below b14)
  replace H2 := Lib.hid (H2.out.below b14)
  replace H3 := Lib.hid (H3.out.below b14)
  replace H4 := Lib.hid (H4.out.below b14)
  replace H5 := Lib.hid (H5.out.below b14)
  replace H10 := Lib.hid (H10.out.below b14)
  replace H11 := Lib.hid (H11.out.below b14)
  clear b14 C14 B14
  have C15 := specShortestOfTallest_any w15 a len cap zss hf (hc.out.below B15.out)
  rw [HShortestOfTallest0.out, HShortestOfTallest1.out] at C15
  have C15 := Lib.hid C15
  go_wp2_with fail
  go_at_call 20
  refine C15.out.mono ?_
  rintro e w16 ⟨rfl, b15⟩
  have B16 : Hid (Below w0.heap.size w0 w16) := Lib.hid (B15.out.trans (b15.mono B15.out.size))
  replace H0 := Lib.hid (H0.out.below b15)
  replace H1 := Lib.hid (H1.out.below b15)
  replace H2 := Lib.hid (H2.out.below b15)
  replace H3 := Lib.hid (H3.out.below b15)
  replace H4 := Lib.hid (H4.out.below b15)
  replace H5 := Lib.hid (H5.out.below b15)
  replace H10 := Lib.hid (H10.out.below b15)
  replace H11 := Lib.hid (H11.out.below b15)
  clear b15 C15 B15
  have C16 := implSaddlePlaces_any w16 a len cap zss hf (hc.out.below B16.out)
  rw [HSaddlePlaces0.out, HSaddlePlaces1.out] at C16
  have C16 := Lib.hid C16
  go_wp2_with fail
  go_at_call 21
  refine C16.out.mono ?_
  rintro e w17 ⟨v16, rfl, o16, b16⟩
  have B17 : Hid (Below w0.heap.size w0 w17) := Lib.hid (B16.out.trans (b16.mono B16.out.size))
  replace H0 := Lib.hid (H0.out.below b16)
  replace H1 := Lib.hid (H1.out.below b16)
  replace H2 := Lib.hid (H2.out.below b16)
  replace H3 := Lib.hid (H3.out.below b16)
  replace H4 := Lib.hid (H4.out.below b16)
  replace H5 := Lib.hid (H5.out.below b16)
  replace H10 := Lib.hid (H10.out.below b16)
  replace H11 := Lib.hid (H11.out.below b16)
  obtain ⟨a16, c16, e16, h16, p16, q16⟩ := o16.cameC
  obtain ⟨l16, hl16⟩ : ∃ n, n = rSaddlePlaces.length := ⟨_, rfl⟩
  rw [← hl16] at e16 h16 p16
  have H16 := Lib.hid h16
  have L16 := Lib.hid hl16
  have P16 := Lib.hid (And.intro p16 q16)
  clear h16 hl16 p16 q16
  subst e16
  clear o16
  clear b16 C16 B16
  have C17 := specSaddlePlaces_any w17 a len cap zss hf (hc.out.below B17.out)
  rw [HSaddlePlaces0.out, HSaddlePlaces1.out] at C17
  have C17 := Lib.hid C17
  go_wp2_with fail
  go_at_call 22
  refine C17.out.mono ?_
  rintro e w18 ⟨v17, rfl, o17, b17⟩
  have B18 : Hid (Below w0.heap.size w0 w18) := Lib.hid (B17.out.trans (b17.mono B17.out.size))
  replace H0 := Lib.hid (H0.out.below b17)
  replace H1 := Lib.hid (H1.out.below b17)
  replace H2 := Lib.hid (H2.out.below b17)
  replace H3 := Lib.hid (H3.out.below b17)
  replace H4 := Lib.hid (H4.out.below b17)
  replace H5 := Lib.hid (H5.out.below b17)
  replace H10 := Lib.hid (H10.out.below b17)
  replace H11 := Lib.hid (H11.out.below b17)
  replace H16 := Lib.hid (H16.out.below b17)
  obtain ⟨a17, c17, e17, h17, p17, q17⟩ := o17.cameC
  obtain ⟨l17, hl17⟩ : ∃ n, n = rSaddlePlaces.length := ⟨_, rfl⟩
  rw [← hl17] at e17 h17 p17
  have H17 := Lib.hid h17
  have L17 := Lib.hid hl17
  have P17 := Lib.hid (And.intro p17 q17)
  clear h17 hl17 p17 q17
  subst e17
  clear o17
  clear b17 C17 B17
  as_aux_lemma =>
    have C18 := vRows_small w18 a0 a1 l0 c0 l1 c1 rSortBoth rSortBoth FSortBoth.out H0.out H1.out
    rw [sameR_refl] at C18
    have C18 := Lib.hid C18
    go_wp2_with fail
    go_at_call 23
    refine C18.out.mono ?_
    rintro e w19 ⟨rfl, b18⟩
    have B19 : Hid (Below w0.heap.size w0 w19) := Lib.hid (B18.out.trans (b18.mono B18.out.size))
    replace H0 := Lib.hid (H0.out.below b18)
    replace H1 := Lib.hid (H1.out.below b18)
    replace H2 := Lib.hid (H2.out.below b18)
    replace H3 := Lib.hid (H3.out.below b18)
    replace H4 := Lib.hid (H4.out.below b18)
    replace H5 := Lib.hid (H5.out.below b18)
    replace H10 := Lib.hid (H10.out.below b18)
    replace H11 := Lib.hid (H11.out.below b18)
    replace H16 := Lib.hid (H16.out.below b18)
    replace H17 := Lib.hid (H17.out.below b18)
    clear b18 C18 B18
    clear H1
    have C19 := vRows_small w19 a2 a3 l2 c2 l3 c3 rSortFileRows rSortFileRows FSortFileRows.out H2.out H3.out
    rw [sameR_refl] at C19
    have C19 := Lib.hid C19
    go_wp2_with fail
    go_at_call 23
    refine C19.out.mono ?_
    rintro e w20 ⟨rfl, b19⟩
    have B20 : Hid (Below w0.heap.size w0 w20) := Lib.hid (B19.out.trans (b19.mono B19.out.size))
    replace H0 := Lib.hid (H0.out.below b19)
    replace H2 := Lib.hid (H2.out.below b19)
    replace H3 := Lib.hid (H3.out.below b19)
    replace H4 := Lib.hid (H4.out.below b19)
    replace H5 := Lib.hid (H5.out.below b19)
    replace H10 := Lib.hid (H10.out.below b19)
    replace H11 := Lib.hid (H11.out.below b19)
    replace H16 := Lib.hid (H16.out.below b19)
    replace H17 := Lib.hid (H17.out.below b19)
    clear b19 C19 B19
    clear H3
    have C20 := vRows_small w20 a4 a5 l4 c4 l5 c5 rSortFileColumns rSortFileColumns FSortFileColumns.out H4.out H5.out
    rw [sameR_refl] at C20
    have C20 := Lib.hid C20
    go_wp2_with fail
    go_at_call 23
    refine C20.out.mono ?_
    rintro e w21 ⟨rfl, b20⟩
    have B21 : Hid (Below w0.heap.size w0 w21) := Lib.hid (B20.out.trans (b20.mono B20.out.size))
    replace H0 := Lib.hid (H0.out.below b20)
    replace H2 := Lib.hid (H2.out.below b20)
    replace H4 := Lib.hid (H4.out.below b20)
    replace H5 := Lib.hid (H5.out.below b20)
    replace H10 := Lib.hid (H10.out.below b20)
    replace H11 := Lib.hid (H11.out.below b20)
    replace H16 := Lib.hid (H16.out.below b20)
    replace H17 := Lib.hid (H17.out.below b20)
    clear b20 C20 B20
    clear H5
    have C21 := vRows_small w21 a10 a11 l10 c10 l11 c11 rTurnFiles rTurnFiles FTurnFiles.out H10.out H11.out
    rw [sameR_refl] at C21
    have C21 := Lib.hid C21
    go_wp2_with fail
    go_at_call 23
    refine C21.out.mono ?_
    rintro e w22 ⟨rfl, b21⟩
    have B22 : Hid (Below w0.heap.size w0 w22) := Lib.hid (B21.out.trans (b21.mono B21.out.size))
    replace H0 := Lib.hid (H0.out.below b21)
    replace H2 := Lib.hid (H2.out.below b21)
    replace H4 := Lib.hid (H4.out.below b21)
    replace H10 := Lib.hid (H10.out.below b21)
    replace H11 := Lib.hid (H11.out.below b21)
    replace H16 := Lib.hid (H16.out.below b21)
    replace H17 := Lib.hid (H17.out.below b21)
    clear b21 C21 B21
    clear H11
    have C22 := vRows_small w22 a16 a17 l16 c16 l17 c17 rSaddlePlaces rSaddlePlaces FSaddlePlaces.out H16.out H17.out
    rw [sameR_refl] at C22
    have C22 := Lib.hid C22
    go_wp2_with fail
    go_at_call 23
    refine C22.out.mono ?_
    rintro e w23 ⟨rfl, b22⟩
    have B23 : Hid (Below w0.heap.size w0 w23) := Lib.hid (B22.out.trans (b22.mono B22.out.size))
    replace H0 := Lib.hid (H0.out.below b22)
    replace H2 := Lib.hid (H2.out.below b22)
    replace H4 := Lib.hid (H4.out.below b22)
    replace H10 := Lib.hid (H10.out.below b22)
    replace H16 := Lib.hid (H16.out.below b22)
    replace H17 := Lib.hid (H17.out.below b22)
    clear b22 C22 B22
    clear H17
    have C23 := implAreFiles_any w23 a len cap zss hf (hc.out.below B23.out)
    rw [HAF.out] at C23
    have C23 := Lib.hid C23
    go_wp2_with fail
    go_at_call 24
    refine C23.out.mono ?_
    rintro e w24 ⟨rfl, b23⟩
    have B24 : Hid (Below w0.heap.size w0 w24) := Lib.hid (B23.out.trans (b23.mono B23.out.size))
    replace H0 := Lib.hid (H0.out.below b23)
    replace H2 := Lib.hid (H2.out.below b23)
    replace H4 := Lib.hid (H4.out.below b23)
    replace H10 := Lib.hid (H10.out.below b23)
    replace H16 := Lib.hid (H16.out.below b23)
    clear b23 C23 B23
    have C24 := implAreFiles_any w24 a len cap zss hf (hc.out.below B24.out)
    rw [HAF.out] at C24
    have C24 := Lib.hid C24
    go_wp2_with fail
    go_at_call 24
    refine C24.out.mono ?_
    rintro e w25 ⟨rfl, b24⟩
    have B25 : Hid (Below w0.heap.size w0 w25) := Lib.hid (B24.out.trans (b24.mono B24.out.size))
    replace H0 := Lib.hid (H0.out.below b24)
    replace H2 := Lib.hid (H2.out.below b24)
    replace H4 := Lib.hid (H4.out.below b24)
    replace H10 := Lib.hid (H10.out.below b24)
    replace H16 := Lib.hid (H16.out.below b24)
    clear b24 C24 B24
    have C25 := specAreFiles_any w25 a len cap zss hf (hc.out.below B25.out)
    rw [HAF.out] at C25
    have C25 := Lib.hid C25
    go_wp2_with fail
    go_at_call 25
    refine C25.out.mono ?_
    rintro e w26 ⟨rfl, b25⟩
    have B26 : Hid (Below w0.heap.size w0 w26) := Lib.hid (B25.out.trans (b25.mono B25.out.size))
    replace H0 := Lib.hid (H0.out.below b25)
    replace H2 := Lib.hid (H2.out.below b25)
    replace H4 := Lib.hid (H4.out.below b25)
    replace H10 := Lib.hid (H10.out.below b25)
    replace H16 := Lib.hid (H16.out.below b25)
    clear b25 C25 B25
    rcases t with _ | _
    · as_aux_lemma =>
        go_wp2
        go_ret
        exact ⟨rfl, HS.out.trans (B26.out.mono HS.out.size)⟩
    have FX := Lib.hid (HFX.out rfl)
    have HSM := Lib.hid (HSZ.out rfl)
    have i5 := FX.out.le
    clear HFX HSZ
    as_aux_lemma =>
      have C26 := implAreRowsSorted_any w26 a0 l0 c0 rSortBoth FX.out.lB H0.out
      rw [FX.out.b1, FX.out.b2] at C26
      have C26 := Lib.hid C26
      go_wp2_with fail
      go_at_call 11
      refine C26.out.mono ?_
      rintro e w27 ⟨rfl, b26⟩
      have B27 : Hid (Below w0.heap.size w0 w27) := Lib.hid (B26.out.trans (b26.mono B26.out.size))
      replace H0 := Lib.hid (H0.out.below b26)
      replace H2 := Lib.hid (H2.out.below b26)
      replace H4 := Lib.hid (H4.out.below b26)
      replace H10 := Lib.hid (H10.out.below b26)
      replace H16 := Lib.hid (H16.out.below b26)
      clear b26 C26 B26
      have C27 := implAreColumnsSorted_any w27 a0 l0 c0 rSortBoth FX.out.lB H0.out
      rw [FX.out.c1, FX.out.c2] at C27
      have C27 := Lib.hid C27
      go_wp2_with fail
      go_at_call 13
      refine C27.out.mono ?_
      rintro e w28 ⟨rfl, b27⟩
      have B28 : Hid (Below w0.heap.size w0 w28) := Lib.hid (B27.out.trans (b27.mono B27.out.size))
      replace H0 := Lib.hid (H0.out.below b27)
      replace H2 := Lib.hid (H2.out.below b27)
      replace H4 := Lib.hid (H4.out.below b27)
      replace H10 := Lib.hid (H10.out.below b27)
      replace H16 := Lib.hid (H16.out.below b27)
      clear b27 C27 B27
      have C28 := implSortFileColumns_any w28 a2 l2 c2 rSortFileRows FX.out.lR H2.out
      rw [FX.out.d1, FX.out.d2] at C28
      have C28 := Lib.hid C28
      go_wp2_with fail
      go_at_call 9
      refine C28.out.mono ?_
      rintro e w29 ⟨vA, rfl, oA, b28⟩
      have B29 : Hid (Below w0.heap.size w0 w29) := Lib.hid (B28.out.trans (b28.mono B28.out.size))
      replace H0 := Lib.hid (H0.out.below b28)
      replace H2 := Lib.hid (H2.out.below b28)
      replace H4 := Lib.hid (H4.out.below b28)
      replace H10 := Lib.hid (H10.out.below b28)
      replace H16 := Lib.hid (H16.out.below b28)
      obtain ⟨aA, cA, eA, hA, pA, qA⟩ := oA.cameC
      obtain ⟨lA, hlA⟩ : ∃ n, n = rSortBoth.length := ⟨_, rfl⟩
      rw [← hlA] at eA hA pA
      have HA := Lib.hid hA
      have LA := Lib.hid hlA
      have PA := Lib.hid (And.intro pA qA)
      clear hA hlA pA qA
      subst eA
      clear oA
      clear b28 C28 B28
      have C29 := implTurnFiles_any w29 a10 l10 c10 rTurnFiles FX.out.lT H10.out
      rw [FX.out.e1, FX.out.e2] at C29
      have C29 := Lib.hid C29
      go_wp2_with fail
      go_at_call 15
      refine C29.out.mono ?_
      rintro e w30 ⟨vB, rfl, oB, b29⟩
      have B30 : Hid (Below w0.heap.size w0 w30) := Lib.hid (B29.out.trans (b29.mono B29.out.size))
      replace H0 := Lib.hid (H0.out.below b29)
      replace H2 := Lib.hid (H2.out.below b29)
      replace H4 := Lib.hid (H4.out.below b29)
      replace H10 := Lib.hid (H10.out.below b29)
      replace H16 := Lib.hid (H16.out.below b29)
      replace HA := Lib.hid (HA.out.below b29)
      obtain ⟨aB, cB, eB, hB, pB, qB⟩ := oB.cameC
      obtain ⟨lB, hlB⟩ : ∃ n, n = zss.length := ⟨_, rfl⟩
      rw [← hlB] at eB hB pB
      have HB := Lib.hid hB
      have LB := Lib.hid hlB
      have PB := Lib.hid (And.intro pB qB)
      clear hB hlB pB qB
      subst eB
      clear oB
      clear b29 C29 B29
      clear H10
      as_aux_lemma =>
        have C30 := vRows_small w30 aA a0 lA cA l0 c0 rSortBoth rSortBoth FSortBoth.out HA.out H0.out
        rw [sameR_refl] at C30
        have C30 := Lib.hid C30
        go_wp2_with fail
        go_at_call 23
        refine C30.out.mono ?_
        rintro e w31 ⟨rfl, b30⟩
        have B31 : Hid (Below w0.heap.size w0 w31) := Lib.hid (B30.out.trans (b30.mono B30.out.size))
        replace H0 := Lib.hid (H0.out.below b30)
        replace H2 := Lib.hid (H2.out.below b30)
        replace H4 := Lib.hid (H4.out.below b30)
        replace H16 := Lib.hid (H16.out.below b30)
        replace HA := Lib.hid (HA.out.below b30)
        replace HB := Lib.hid (HB.out.below b30)
        clear b30 C30 B30
        clear HA
        have C31 := vRows_small w31 aB a lB cB len cap zss zss HSM.out HB.out (hc.out.below B31.out)
        rw [sameR_refl] at C31
        have C31 := Lib.hid C31
        go_wp2_with fail
        go_at_call 23
        refine C31.out.mono ?_
        rintro e w32 ⟨rfl, b31⟩
        have B32 : Hid (Below w0.heap.size w0 w32) := Lib.hid (B31.out.trans (b31.mono B31.out.size))
        replace H0 := Lib.hid (H0.out.below b31)
        replace H2 := Lib.hid (H2.out.below b31)
        replace H4 := Lib.hid (H4.out.below b31)
        replace H16 := Lib.hid (H16.out.below b31)
        replace HB := Lib.hid (HB.out.below b31)
        clear b31 C31 B31
        clear HB
        have C32 := vRows_small w32 a2 a l2 c2 len cap rSortFileRows zss FSortFileRows.out H2.out (hc.out.below B32.out)
        rw [FX.out.a1] at C32
        have C32 := Lib.hid C32
        go_wp2_with fail
        go_at_call 23
        refine C32.out.mono ?_
        rintro e w33 ⟨rfl, b32⟩
        have B33 : Hid (Below w0.heap.size w0 w33) := Lib.hid (B32.out.trans (b32.mono B32.out.size))
        replace H0 := Lib.hid (H0.out.below b32)
        replace H2 := Lib.hid (H2.out.below b32)
        replace H4 := Lib.hid (H4.out.below b32)
        replace H16 := Lib.hid (H16.out.below b32)
        clear b32 C32 B32
        clear H2
        have C33 := vRows_small w33 a4 a l4 c4 len cap rSortFileColumns zss FSortFileColumns.out H4.out (hc.out.below B33.out)
        rw [FX.out.a2] at C33
        have C33 := Lib.hid C33
        go_wp2_with fail
        go_at_call 23
        refine C33.out.mono ?_
        rintro e w34 ⟨rfl, b33⟩
        have B34 : Hid (Below w0.heap.size w0 w34) := Lib.hid (B33.out.trans (b33.mono B33.out.size))
        replace H0 := Lib.hid (H0.out.below b33)
        replace H4 := Lib.hid (H4.out.below b33)
        replace H16 := Lib.hid (H16.out.below b33)
        clear b33 C33 B33
        clear H4
        have HLS := Lib.hid FX.out.sad.each
        have qs : l16 ≤ 1000000000 := by have := FSaddlePlaces.out.1; have := L16.out; omega
        rw [← L16.out] at HLS
        go_wp2
        as_aux_lemma =>
          go_loopw [375] (fun i wr => ∃ k : Nat, k ≤ l16 ∧ i = .int .i64 (k : Int) ∧ Hid (∃ m, wr = w34.drewN m)) (fun i _ => l16 - (intOf i).toNat)
          case atStart => exact ⟨0, Nat.zero_le _, rfl, Lib.hid ⟨0, rfl⟩⟩
          case round =>
            obtain ⟨k, hk, rfl, HM⟩ := hrel
            obtain ⟨w2, rfl⟩ : ∃ w2 : World, w2 = wr := ⟨_, rfl⟩
            by_cases hlt : k < l16
            · obtain ⟨i, j, hr, hi, hj, hlo, heq⟩ := HLS.out k hlt
              obtain ⟨g1, o1, ak, ck, ha1, hc1, hr1, _, _⟩ := H16.out.at k hlt
              rw [hr] at hc1 hr1
              obtain ⟨g2, o2, ha2, hc2⟩ := hr1.2 (by simp)
              have hc20 := hc2 0 (by simp)
              have hc21 := hc2 1 (by simp)
              obtain ⟨g3, o3, ai, ci, ha3, hc3, hr3, _, _⟩ := (hc.out.below B34.out).at i (by have := HZ.out; omega)
              obtain ⟨n3, hn3⟩ : ∃ n, n = (zss.getD i []).length := ⟨_, rfl⟩
              rw [← hn3] at hc3 hr3 hj
              obtain ⟨g4, o4, ha4, hc4⟩ := hr3.2 (by omega)
              have hc4j := hc4 j hj
              rw [hlo] at hc4j
              have e1 : w2.cell? ⟨g1, o1 + k, none⟩ = some (.slice ak 2 ck) := by obtain ⟨m, e⟩ := HM.out; rw [e]; exact hc1
              have e2 : ∀ n, (w2.drewN n).cell? ⟨g2, o2, none⟩ = some (.int .i64 (i : Int)) := fun n => by obtain ⟨m, e⟩ := HM.out; rw [e]; exact hc20
              have e3 : ∀ n, (w2.drewN n).cell? ⟨g2, o2 + 1, none⟩ = some (.int .i64 (j : Int)) := fun n => by obtain ⟨m, e⟩ := HM.out; rw [e]; exact hc21
              have e4 : ∀ n, (w2.drewN n).cell? ⟨g3, o3 + i, none⟩ = some (.slice ai n3 ci) := fun n => by obtain ⟨m, e⟩ := HM.out; rw [e]; exact hc3
              have e5 : ∀ n, (w2.drewN n).cell? ⟨g4, o4 + j, none⟩ = some (.int .i64 rTallestOfShortest) := fun n => by obtain ⟨m, e⟩ := HM.out; rw [e]; exact hc4j
              have HD : Hid (∀ n, ∃ q, w2.drewN n = w34.drewN q) := Lib.hid (fun n => by obtain ⟨m, e⟩ := HM.out; exact ⟨m + n, by rw [e]; unfold World.drewN; simp [Nat.add_assoc]⟩)
              have q1 : (0 : Int) ≤ (k : Int) := by omega
              have q2 : (k : Int) < (l16 : Int) := by omega
              have q3 : (0 : Int) ≤ (i : Int) := by omega
              have q4 : (i : Int) < (len : Int) := by have := HZ.out; omega
              have q5 : (0 : Int) ≤ (j : Int) := by omega
              have q6 : (j : Int) < (n3 : Int) := by omega
              have q7 : (rTallestOfShortest != rShortestOfTallest) = false := by rw [bne_eq_false_iff_eq]; exact heq
              subst ha1 ha2 ha3 ha4
              have q8 : (k : Int) + 1 ≤ 1000000000 := by omega
              clear hc1 hr1 hc2 hc20 hc21 hc3 hr3 hc4 hc4j hr hlo heq hn3 hi hj
              go_wp2_with fail
              go_quiet (fail)
              go_wp2
              exact ⟨⟨k + 1, by omega, by go_num, Lib.hid (HD.out _)⟩, by simp [intOf]; omega⟩
            · have HB : Hid (Below w0.heap.size w0 w2) := Lib.hid (by obtain ⟨m, e⟩ := HM.out; rw [e]; exact B34.out.trans ((drewN_down w34 m).mono B34.out.size))
              have HK : Hid (CameSS w2 a0 l0 rSortBoth) := Lib.hid (by obtain ⟨m, e⟩ := HM.out; rw [e]; exact H0.out.below (drewN_down w34 m))
              have C1 := implFileDisorder_any w2 a len cap zss hf (hc.out.below HB.out)
              rw [FX.out.f1] at C1
              have C1 := Lib.hid C1
              have D2 := FX.out.f2
              have D3 := FX.out.f3
              obtain ⟨d, hd⟩ : ∃ d, d = outFileDisorder_0 zss := ⟨_, rfl⟩
              rw [← hd] at C1 D2 D3
              clear hd
              have DS := FX.out.sad.some
              rw [← L16.out] at DS
              skip
              by_cases heq : rTallestOfShortest = rShortestOfTallest
              · rw [decide_eq_true heq] at DS
                have hp : 0 < l16 := of_decide_eq_true DS
                have q1 : (0 : Int) < (l16 : Int) := by omega
                have q2 : (rTallestOfShortest == rShortestOfTallest) = true := by rw [beq_iff_eq]; exact heq
                have q3 : ¬ (k : Int) < (l16 : Int) := by omega
                clear DS
                as_aux_lemma =>
                  go_wp2_with fail
                  go_at_call 26
                  refine C1.out.mono ?_
                  rintro e w3 ⟨rfl, b3⟩
                  have HB3 : Hid (Below w0.heap.size w0 w3) := Lib.hid (HB.out.trans (b3.mono HB.out.size))
                  have C2 := implFileDisorder_any w3 a0 l0 c0 rSortBoth FX.out.lB (HK.out.below b3)
                  rw [FX.out.g1, FX.out.g2] at C2
                  have C2 := Lib.hid C2
                  clear b3 C1
                  go_wp2_with fail
                  go_at_call 26
                  refine C2.out.mono ?_
                  rintro e w4 ⟨rfl, b4⟩
                  have HB4 : Hid (Below w0.heap.size w0 w4) := Lib.hid (HB3.out.trans (b4.mono HB3.out.size))
                  clear b4 C2
                  rcases rAreRowsSorted with _ | _
                  · have hd0 : ¬ d = 0 := by intro e; rw [decide_eq_true e] at D2; cases D2
                    clear D2
                    go_wp2
                    go_ret
                    exact ⟨ret_bool (by simp [hd0]), HS.out.trans (HB4.out.mono HS.out.size)⟩
                  · rcases rAreColumnsSorted with _ | _
                    · have hd0 : ¬ d = 0 := by intro e; rw [decide_eq_true e] at D2; cases D2
                      clear D2
                      go_wp2
                      go_ret
                      exact ⟨ret_bool (by simp [hd0]), HS.out.trans (HB4.out.mono HS.out.size)⟩
                    · have hd0 : d = 0 := of_decide_eq_true D2
                      clear D2 D3
                      subst hd0
                      go_wp2
                      go_ret
                      exact ⟨ret_bool (by simp), HS.out.trans (HB4.out.mono HS.out.size)⟩
              · rw [decide_eq_false heq] at DS
                have hp : ¬ 0 < l16 := of_decide_eq_false DS
                have q1 : ¬ (0 : Int) < (l16 : Int) := by omega
                have q2 : (rTallestOfShortest == rShortestOfTallest) = false := by rw [beq_eq_false_iff_ne]; exact heq
                have q3 : ¬ (k : Int) < (l16 : Int) := by omega
                clear DS
                as_aux_lemma =>
                  go_wp2_with fail
                  go_at_call 26
                  refine C1.out.mono ?_
                  rintro e w3 ⟨rfl, b3⟩
                  have HB3 : Hid (Below w0.heap.size w0 w3) := Lib.hid (HB.out.trans (b3.mono HB.out.size))
                  have C2 := implFileDisorder_any w3 a0 l0 c0 rSortBoth FX.out.lB (HK.out.below b3)
                  rw [FX.out.g1, FX.out.g2] at C2
                  have C2 := Lib.hid C2
                  clear b3 C1
                  go_wp2_with fail
                  go_at_call 26
                  refine C2.out.mono ?_
                  rintro e w4 ⟨rfl, b4⟩
                  have HB4 : Hid (Below w0.heap.size w0 w4) := Lib.hid (HB3.out.trans (b4.mono HB3.out.size))
                  clear b4 C2
                  rcases rAreRowsSorted with _ | _
                  · have hd0 : ¬ d = 0 := by intro e; rw [decide_eq_true e] at D2; cases D2
                    clear D2
                    go_wp2
                    go_ret
                    exact ⟨ret_bool (by simp [hd0]), HS.out.trans (HB4.out.mono HS.out.size)⟩
                  · rcases rAreColumnsSorted with _ | _
                    · have hd0 : ¬ d = 0 := by intro e; rw [decide_eq_true e] at D2; cases D2
                      clear D2
                      go_wp2
                      go_ret
                      exact ⟨ret_bool (by simp [hd0]), HS.out.trans (HB4.out.mono HS.out.size)⟩
                    · have hd0 : d = 0 := of_decide_eq_true D2
                      clear D2 D3
                      subst hd0
                      go_wp2
                      go_ret
                      exact ⟨ret_bool (by simp), HS.out.trans (HB4.out.mono HS.out.size)⟩

end Go.Proofs.Ytcljhjfmhnmgnaa
