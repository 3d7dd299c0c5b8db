/- Chapter 6, the program: SearchInts, CountUpTo, HeightOfRank. -/
import Derived.Test.YtpoceonmlpnhlabKl
import Derived.Test.YtpoceonmlpnhlabDrew
namespace Go.Proofs.Ytpoceonmlpnhlab
open Go.ChangeShapes Go.WideShapes Go.ChangeAt Go.RowKit
open Fi

/-- what a search asks in each world: a list and a number lie as they lay -/
structure SVars (w : World) (b off n cap g2 g3 : Nat) (zs : List Int) (x : Int) : Prop where
  came : Came w (some ⟨b, off, none⟩) n zs
  sl : w.cell? ⟨g2, 0, none⟩ = some (.slice (some ⟨b, off, none⟩) n cap)
  num : w.cell? ⟨g3, 0, none⟩ = some (.int .i64 x)
theorem SVars.below {w w' : World} {b off n cap g2 g3 : Nat} {zs : List Int} {x : Int} (h : SVars w b off n cap g2 g3 zs x) (hb : Below w.heap.size w w') : SVars w' b off n cap g2 g3 zs x :=
  ⟨h.came.below hb, (hb.cell (World.block_lt_of_cell? w _ h.sl)).trans h.sl, (hb.cell (World.block_lt_of_cell? w _ h.num)).trans h.num⟩
set_option maxHeartbeats 1000000 in
theorem sint1_any (w : World) (b off n cap g2 g3 : Nat) (zs : List Int) (x : Int) (i : Nat) (hi : i < n) (hn : n ≤ 1000) (hv : SVars w b off n cap g2 g3 zs x) :
    Calls Try.prog 57 #[.int .i64 (i : Int), .pointer (some ⟨g2, 0, none⟩), .pointer (some ⟨g3, 0, none⟩)] w fun e w' => e = .returned (.bool (decide (zs.getD i 0 ≥ x))) ∧ Below w.heap.size w w' := by
  obtain ⟨b', off', he, hcell⟩ := hv.came.2 (by omega)
  cases he
  have e1 := hcell i hi
  have e2 := hv.sl
  have e3 := hv.num
  obtain ⟨z, hz⟩ : ∃ z, z = zs.getD i 0 := ⟨_, rfl⟩
  rw [← hz] at e1 ⊢
  have i1 : (0 : Int) ≤ (i : Int) := by omega
  have i2 : (i : Int) < (n : Int) := by omega
  clear hz hcell hv
  go_enter Try.func57, Try.ntmps57
  go_wp2_with fail
  go_quiet (fail)
  go_wp2
  go_ret
  exact ⟨ret_bool (by simp), drewN_down _ _⟩

set_option maxHeartbeats 2000000 in
theorem searchI_any (w : World) (b off n cap g2 g3 : Nat) (zs : List Int) (x : Int) (hn : n ≤ 1000) (hv : SVars w b off n cap g2 g3 zs x) :
    Calls Try.prog 56 #[.int .i64 (n : Int), .func (.func 57) #[] #[.pointer (some ⟨g2, 0, none⟩), .pointer (some ⟨g3, 0, none⟩)]] w fun e w' => ∃ r : Nat, e = .returned (.int .i64 (r : Int)) ∧ (r ≤ n ∧ (0 < r → zs.getD (r - 1) 0 < x) ∧ (r < n → x ≤ zs.getD r 0)) ∧ Below w.heap.size w w' := by
  have HT := Lib.hid (fun (w2 : World) (h : Below w.heap.size w w2) (t : Nat) (ht : t < n) => sint1_any w2 b off n cap g2 g3 zs x t ht hn (hv.below h))
  clear hv
  go_enter Try.func56, Try.ntmps56
  go_wp2
  go_loopw [5, 6] (fun c d wr => ∃ p q : Nat, p ≤ q ∧ q ≤ n ∧ c = .int .i64 (p : Int) ∧ d = .int .i64 (q : Int) ∧ Hid (0 < p → zs.getD (p - 1) 0 < x) ∧ Hid (q < n → x ≤ zs.getD q 0) ∧ Hid (Below w.heap.size w wr)) (fun c d _ => (intOf d - intOf c).toNat)
  case atStart => exact ⟨0, n, by omega, Nat.le_refl _, rfl, rfl, Lib.hid (fun h => absurd h (Nat.lt_irrefl _)), Lib.hid (fun h => absurd h (Nat.lt_irrefl _)), Lib.hid (Below.refl _ _)⟩
  case round =>
    obtain ⟨p, q, hpq, hqn, rfl, rfl, HX, HY, HB⟩ := hrel
    by_cases hlt : p < q
    · obtain ⟨m, hm⟩ : ∃ m, m = (p + q) / 2 := ⟨_, rfl⟩
      have hm2 : p ≤ m ∧ m < q := by omega
      obtain ⟨hm3, hm4⟩ := hm2
      have em : ((p : Int) + (q : Int)) / 2 = (m : Int) := by omega
      have HT2 := Lib.hid (HT.out wr HB.out m (by omega))
      clear hm
      by_cases hK : zs.getD m 0 ≥ x
      · have hT := HT2.out
        rw [decide_eq_true hK] at hT
        have HT3 := Lib.hid hT
        have HK := Lib.hid hK
        clear hT hK HT2
        go_wp2_with fail
        go_at_call 57
        refine HT3.out.mono ?_
        rintro e w2 ⟨rfl, b2⟩
        have HB2 : Hid (Below w.heap.size w w2) := Lib.hid (HB.out.trans (b2.mono HB.out.size))
        clear b2
        go_wp2
        go_roundw
        case rel => exact ⟨p, m, by omega, by omega, rfl, rfl, HX, Lib.hid (fun _ => HK.out), HB2⟩
        case measure => simp [intOf]; omega
      · have hT := HT2.out
        rw [decide_eq_false hK] at hT
        have HT3 := Lib.hid hT
        have HK := Lib.hid hK
        clear hT hK HT2
        go_wp2_with fail
        go_at_call 57
        refine HT3.out.mono ?_
        rintro e w2 ⟨rfl, b2⟩
        have HB2 : Hid (Below w.heap.size w w2) := Lib.hid (HB.out.trans (b2.mono HB.out.size))
        clear b2
        go_wp2
        go_roundw
        case rel => exact ⟨m + 1, q, by omega, by omega, by go_num, rfl, Lib.hid (fun _ => by rw [Nat.add_sub_cancel]; first | exact HK.out | exact Int.not_le.1 HK.out), HY, HB2⟩
        case measure => simp [intOf]; omega
    · obtain rfl : p = q := by omega
      go_wp2
      go_ret
      exact ⟨p, rfl, ⟨hqn, HX.out, HY.out⟩, HB.out⟩
set_option maxHeartbeats 1000000 in
theorem searchInts_any (w : World) (b off n cap : Nat) (zs : List Int) (x : Int) (hn : n ≤ 1000) (hc : Came w (some ⟨b, off, none⟩) n zs) :
    Calls Try.prog 42 #[.slice (some ⟨b, off, none⟩) n cap, .int .i64 x] w fun e w' => ∃ r : Nat, e = .returned (.int .i64 (r : Int)) ∧ (r ≤ n ∧ (0 < r → zs.getD (r - 1) 0 < x) ∧ (r < n → x ≤ zs.getD r 0)) ∧ Below w.heap.size w w' := by
  obtain ⟨w1, hw1⟩ : ∃ w1, w1 = (w.alloc (.cells #[.slice (some ⟨b, off, none⟩) n cap] 38)).alloc (.cells #[.int .i64 x] 3) := ⟨_, rfl⟩
  have HB1 : Hid (Below w.heap.size w w1) := Lib.hid (by rw [hw1]; exact ((Below.refl _ _).alloc (Nat.le_refl _) _).alloc (by simp) _)
  have e2 : w1.cell? ⟨w.heap.size, 0, none⟩ = some (.slice (some ⟨b, off, none⟩) n cap) := by rw [hw1]; simp
  have e3 : w1.cell? ⟨w.heap.size + 1, 0, none⟩ = some (.int .i64 x) := by rw [hw1]; simp
  have HS := Lib.hid (searchI_any w1 b off n cap w.heap.size (w.heap.size + 1) zs x hn ⟨hc.below HB1.out, e2, e3⟩)
  clear hc
  subst hw1
  go_enter Try.func42, Try.ntmps42
  go_wp2_with fail
  go_at_call 56
  refine HS.out.mono ?_
  rintro e w2 ⟨r, rfl, hr, b2⟩
  have B2 : Hid (Below w.heap.size w w2) := Lib.hid (HB1.out.trans (b2.mono HB1.out.size))
  have HR := Lib.hid hr
  clear b2 hr e2 e3 HS HB1
  go_wp2
  go_ret
  exact ⟨r, rfl, HR.out, B2.out⟩

theorem up_get {zs : List Int} (h : zs.Pairwise (· ≤ ·)) (i j : Nat) (hij : i ≤ j) (hj : j < zs.length) : zs.getD i 0 ≤ zs.getD j 0 := by
  by_cases e : i = j
  · subst e; exact Int.le_refl _
  · have := List.pairwise_iff_getElem.1 h i j (by omega) hj (by omega)
    simp only [List.getD_eq_getElem?_getD, List.getElem?_eq_getElem hj, List.getElem?_eq_getElem (show i < zs.length by omega), Option.getD_some]
    exact this
theorem le_found {zs : List Int} (hu : zs.Pairwise (· ≤ ·)) {h : Int} {r : Nat} (hr : r ≤ zs.length) (h1 : 0 < r → zs.getD (r - 1) 0 < h + 1) (h2 : r < zs.length → h + 1 ≤ zs.getD r 0) : leTo zs h zs.length = r := by
  refine leTo_eq zs h r (fun j hj => ?_) zs.length hr (fun j hj hl => ?_)
  · have := up_get hu j (r - 1) (by omega) (by omega)
    have := h1 (by omega); omega
  · have := up_get hu r j hj hl
    have := h2 (by omega); omega
set_option maxHeartbeats 2000000 in
theorem implCountUpTo_any (w : World) (a : Option Addr) (len cap : Nat) (zss : List (List Int)) (h : Int) (_wh : (Lit.int .i64 h).wf = true) (hf : FitsSS zss) (hc : CameSS w a len zss) :
    Calls Try.prog 17 #[.slice a len cap, .int .i64 h] w fun e w' => e = .returned (.tuple #[.int .i64 (outCountUpTo_0 zss h), .bool (outCountUpTo_1 zss h)]) ∧ Below w.heap.size w w' := by
  have HG := Lib.hid (areFiles_any w a len cap zss hf hc)
  have HI := Lib.hid (isHeightAsked_any h w)
  clear _wh
  rcases hb : goodF zss with _ | _
  · have H0 : Hid (outCountUpTo_0 zss h = 0 ∧ outCountUpTo_1 zss h = false) := Lib.hid (by unfold outCountUpTo_0 outCountUpTo_1; rw [hb]; exact ⟨rfl, rfl⟩)
    rw [hb] at HG
    clear hb hc hf
    go_enter Try.func17, Try.ntmps17
    go_wp2_with (go_at_call 32; refine HG.out.mono ?_; rintro e w' ⟨rfl, rfl⟩)
    go_ret2
    exact ⟨by rw [H0.out.1, H0.out.2]; exact rfl, Below.refl _ _⟩
  · rw [hb] at HG
    rcases hb2 : inB h 0 1000 with _ | _
    · have H0 : Hid (outCountUpTo_0 zss h = 0 ∧ outCountUpTo_1 zss h = false) := Lib.hid (by unfold outCountUpTo_0 outCountUpTo_1; rw [hb, hb2]; exact ⟨rfl, rfl⟩)
      rw [hb2] at HI
      clear hb hb2 hc hf
      go_enter Try.func17, Try.ntmps17
      go_wp2_with (first | (go_at_call 32; refine HG.out.mono ?_; rintro e w' ⟨rfl, rfl⟩) | (go_at_call 33; refine HI.out.mono ?_; rintro e w' ⟨rfl, rfl⟩))
      go_ret2
      exact ⟨by rw [H0.out.1, H0.out.2]; exact rfl, Below.refl _ _⟩
    · have hh := inB_yes hb2
      have g := good_of hb
      have H0 : Hid (outCountUpTo_0 zss h = (leTo (allL zss) h (allL zss).length : Nat) ∧ outCountUpTo_1 zss h = true) := Lib.hid (by unfold outCountUpTo_0 outCountUpTo_1; rw [hb, hb2]; exact ⟨rfl, rfl⟩)
      have HBL := Lib.hid (blockOf_any w a len cap zss _ _ g hc)
      have hn64 : (allL zss).length ≤ 64 := by rw [length_allL g]; have := Nat.mul_le_mul g.r8 g.c8; omega
      have hn1 : 1 ≤ (allL zss).length := by rw [length_allL g]; have := Nat.mul_le_mul g.r1 g.c1; omega
      have HUP : Hid ((allL zss).Pairwise (· ≤ ·)) := Lib.hid (sortL_up _)
      obtain ⟨zs, hzs⟩ : ∃ zs, zs = allL zss := ⟨_, rfl⟩
      have HZS := Lib.hid hzs
      rw [← hzs] at H0 hn64 hn1 HUP
      obtain ⟨n, hn⟩ : ∃ n, n = zs.length := ⟨_, rfl⟩
      have HN := Lib.hid hn
      rw [← hn] at H0 hn64 hn1
      rw [hb2] at HI
      obtain ⟨hh0, hh1⟩ := hh
      clear hb hb2 hc hf g hzs hn
      go_enter Try.func17, Try.ntmps17
      go_wp2_with fail
      go_at_call 32
      refine HG.out.mono ?_
      rintro e w' ⟨rfl, rfl⟩
      go_wp2_with fail
      go_at_call 33
      refine HI.out.mono ?_
      rintro e w' ⟨rfl, rfl⟩
      go_wp2_with fail
      go_at_call 34
      refine HBL.out.mono ?_
      rintro e w2 ⟨bs, rfl, hi, b2⟩
      have HI2 := Lib.hid hi
      have L2 := Lib.hid b2
      clear hi b2 HBL
      go_wp2_with fail
      go_at_call 43
      refine (inOrder_any w2 bs _ _ _ HI2.out).mono ?_
      rintro e w3 ⟨v, rfl, o3, b3⟩
      rw [← HZS.out] at o3
      obtain ⟨g3, c3, rfl, _, _⟩ := o3.point (by rw [← HN.out]; omega)
      have hcm := o3.cameC
      obtain ⟨ao, cp, e4, hcm, _⟩ := hcm
      injection e4 with e4 e5 e6
      rw [← HN.out] at hcm ⊢
      subst e4
      have HSI := Lib.hid (searchInts_any w3 g3 0 n c3 zs (h + 1) (by omega) hcm)
      have L3 : Hid (Below w.heap.size w w3) := Lib.hid (L2.out.trans (b3.mono L2.out.size))
      clear o3 b3 hcm e5 e6 L2
      go_wp2_with fail
      go_at_call 42
      refine HSI.out.mono ?_
      rintro e w4 ⟨r, rfl, hr, b4⟩
      have L4 : Hid (Below w.heap.size w w4) := Lib.hid (L3.out.trans (b4.mono L3.out.size))
      have HR : Hid (leTo zs h n = r) := Lib.hid (by rw [HN.out] at hr ⊢; exact le_found HUP.out hr.1 hr.2.1 hr.2.2)
      clear hr b4
      go_wp2
      go_ret2
      exact ⟨by rw [H0.out.1, H0.out.2, HR.out]; exact rfl, L4.out⟩

set_option maxHeartbeats 2000000 in
theorem implHeightOfRank_any (w : World) (a : Option Addr) (len cap : Nat) (zss : List (List Int)) (k : Int) (_wk : (Lit.int .i64 k).wf = true) (hf : FitsSS zss) (hc : CameSS w a len zss) :
    Calls Try.prog 19 #[.slice a len cap, .int .i64 k] w fun e w' => e = .returned (.tuple #[.int .i64 (outHeightOfRank_0 zss k), .bool (outHeightOfRank_1 zss k)]) ∧ Below w.heap.size w w' := by
  have HG := Lib.hid (areFiles_any w a len cap zss hf hc)
  have HNO : Hid (rankB zss k = false → outHeightOfRank_0 zss k = 0 ∧ outHeightOfRank_1 zss k = false) := Lib.hid (fun e => by unfold outHeightOfRank_0 outHeightOfRank_1; rw [e]; exact ⟨rfl, rfl⟩)
  clear _wk
  rcases hb : goodF zss with _ | _
  · have H0 := Lib.hid (HNO.out (by unfold rankB; rw [hb]; rfl))
    rw [hb] at HG
    clear hb hc hf HNO
    go_enter Try.func19, Try.ntmps19
    go_wp2_with (go_at_call 32; refine HG.out.mono ?_; rintro e w' ⟨rfl, rfl⟩)
    go_ret2
    exact ⟨by rw [H0.out.1, H0.out.2]; exact rfl, Below.refl _ _⟩
  · rw [hb] at HG
    have g := good_of hb
    have hlen : len = zss.length := hc.1.symm
    by_cases hk0 : k < 0
    · have H0 := Lib.hid (HNO.out (by unfold rankB; rw [inB_no (n := k) (by omega)]; simp))
      clear hb hc hf HNO g hlen
      go_enter Try.func19, Try.ntmps19
      go_wp2_with (go_at_call 32; refine HG.out.mono ?_; rintro e w' ⟨rfl, rfl⟩)
      go_ret2
      exact ⟨by rw [H0.out.1, H0.out.2]; exact rfl, Below.refl _ _⟩
    obtain ⟨K, rfl⟩ : ∃ K : Nat, k = (K : Int) := ⟨k.toNat, by omega⟩
    obtain ⟨b, off, a0, c0, rfl, e0, _, _, _⟩ := hc.at 0 (by rw [hlen]; exact g.r1)
    rw [Nat.add_zero] at e0
    obtain ⟨C, hC⟩ : ∃ C, C = (row zss 0).length := ⟨_, rfl⟩
    have e0' : w.cell? ⟨b, off, none⟩ = some (.slice a0 C c0) := by rw [hC]; exact e0
    have hRC := Nat.mul_le_mul g.r8 g.c8
    have hR1 := Nat.mul_le_mul g.r1 g.c1
    obtain ⟨p, hp⟩ : ∃ p, p = len * C := ⟨_, rfl⟩
    have ep : (len : Int) * (C : Int) = (p : Int) := by rw [hp]; simp
    have hp64 : p ≤ 64 := by rw [hp, hlen, hC]; exact hRC
    have hp1 : 1 ≤ p := by rw [hp, hlen, hC]; exact hR1
    have HRB : Hid (rankB zss (K : Int) = inB (K : Int) 0 ((p : Int) - 1)) := Lib.hid (by unfold rankB; rw [hb, ← hC, hc.1, ep]; rfl)
    have hl8 : len ≤ 8 := by rw [hlen]; exact g.r8
    have hl1 : 1 ≤ len := by rw [hlen]; exact g.r1
    have hc8 : C ≤ 8 := by rw [hC]; exact g.c8
    have i0 : (0 : Int) < (len : Int) := by omega
    clear e0
    by_cases hkp : p ≤ K
    · have H0 := Lib.hid (HNO.out (by rw [HRB.out]; exact inB_no (fun e => by omega)))
      have i5 : (p : Int) ≤ (K : Int) := by omega
      clear hb hc hf HNO g hlen hC hp hRC hR1
      go_enter Try.func19, Try.ntmps19
      go_wp2_with (go_at_call 32; refine HG.out.mono ?_; rintro e w' ⟨rfl, rfl⟩)
      go_ret2
      exact ⟨by rw [H0.out.1, H0.out.2]; exact rfl, Below.refl _ _⟩
    · have H0 : Hid (outHeightOfRank_0 zss (K : Int) = (allL zss).getD K 0 ∧ outHeightOfRank_1 zss (K : Int) = true) := Lib.hid (by unfold outHeightOfRank_0 outHeightOfRank_1; rw [HRB.out, inB_of ⟨by omega, by omega⟩, Int.toNat_natCast]; exact ⟨rfl, rfl⟩)
      have HLA : Hid ((allL zss).length = p) := Lib.hid (by rw [length_allL g, hp, hlen, hC])
      have HBL := Lib.hid (blockOf_any w _ len cap zss _ _ g hc)
      have i5 : ¬ (p : Int) ≤ (K : Int) := by omega
      have i6 : (K : Int) < (p : Int) := by omega
      have i7 : (0 : Int) ≤ (K : Int) := by omega
      clear hb hc hf HNO g hlen hC hp hRC hR1
      go_enter Try.func19, Try.ntmps19
      go_wp2_with fail
      go_at_call 32
      refine HG.out.mono ?_
      rintro e w' ⟨rfl, rfl⟩
      go_wp2_with fail
      go_at_call 34
      refine HBL.out.mono ?_
      rintro e w2 ⟨bs, rfl, hi, b2⟩
      have HI2 := Lib.hid hi
      have L2 := Lib.hid b2
      clear hi b2 HBL
      go_wp2_with fail
      go_at_call 43
      refine (inOrder_any w2 bs _ _ _ HI2.out).mono ?_
      rintro e w3 ⟨v, rfl, o3, b3⟩
      obtain ⟨ao, c, rfl, hcm⟩ := o3.came
      rw [HLA.out] at hcm ⊢
      obtain ⟨b2', o2', rfl, hcell⟩ := hcm.2 (by omega)
      have e2 := hcell K (by omega)
      obtain ⟨z, hz⟩ : ∃ z, z = (allL zss).getD K 0 := ⟨_, rfl⟩
      rw [← hz] at e2 H0
      have L3 : Hid (Below w.heap.size w w3) := Lib.hid (L2.out.trans (b3.mono L2.out.size))
      clear o3 b3 hcm hcell hz L2
      go_wp2
      go_ret2
      exact ⟨by rw [H0.out.1, H0.out.2]; exact rfl, L3.out⟩

end Go.Proofs.Ytpoceonmlpnhlab
