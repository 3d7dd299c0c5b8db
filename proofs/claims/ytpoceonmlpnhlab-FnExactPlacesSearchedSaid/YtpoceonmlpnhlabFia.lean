/- Chapter 6, the model: PlacesSearched, fiDisorder, FileDisorder, ExchangeFiles. -/
import Derived.Test.YtpoceonmlpnhlabFn
namespace Go.Proofs.Ytpoceonmlpnhlab
open Go.ChangeShapes Go.WideShapes Go.ChangeAt Go.RowKit
open Fi

set_option maxHeartbeats 1000000 in
theorem fiDisorder_any (w : World) (a : Option Addr) (len cap : Nat) (zss : List (List Int)) (R C : Nat) (g : Fi.Good zss R C) (hc : CameSS w a len zss) :
    Calls Try.prog 45 #[.slice a len cap] w fun e w' => e = .returned (.int .i64 (disL zss : Nat)) ∧ Below w.heap.size w w' := by
  have hln : len = R := hc.1.symm.trans g.rows
  subst hln
  have HE : Hid (disL zss = disAll zss len) := Lib.hid (by unfold disL; rw [hc.1])
  have HC := Lib.hid hc
  have HL := Lib.hid (fun i hi => g.cols i hi)
  have hc1 := g.c1
  have hc8 := g.c8
  have hr8 := g.r8
  have HDB : Hid (∀ i, i ≤ len → disAll zss i ≤ i * 8) := Lib.hid (fun i hi => disAll_le (fun j => by
    by_cases hj : j < zss.length
    · rw [g.cols j (by rw [← g.rows]; exact hj)]; exact hc8
    · unfold row; simp [List.getD_eq_getElem?_getD, Nat.le_of_not_lt hj]) i)
  clear hc g
  go_enter Try.func45, Try.ntmps45
  go_wp2
  go_loopw [3, 9] (fun c i wr => ∃ k : Nat, k ≤ len ∧ i = .int .i64 k ∧ c = .int .i64 (disAll zss k : Nat) ∧ Hid (Below w.heap.size w wr)) (fun _ i _ => len - (intOf i).toNat)
  case atStart => exact ⟨0, Nat.zero_le _, rfl, rfl, Lib.hid (Below.refl _ _)⟩
  case round =>
    obtain ⟨k, hk, rfl, rfl, HB⟩ := hrel
    by_cases hlt : k < len
    · obtain ⟨b, off, ak, ck, rfl, e1, hrow, _, _⟩ := (HC.out.below HB.out).at k hlt
      have hq : (zss.getD k []).length = C := HL.out k hlt
      rw [hq] at e1 hrow
      have HR := Lib.hid hrow
      have HS : Hid (disAll zss (k + 1) = disAll zss k + disTo (zss.getD k []) (C - 1)) := Lib.hid (by rw [disAll]; unfold disRow; rw [show (row zss k).length = C from hq]; rfl)
      have hdb := HDB.out k (by omega)
      obtain ⟨r, hr⟩ : ∃ r, r = zss.getD k [] := ⟨_, rfl⟩
      rw [← hr] at HR HS
      obtain ⟨d, hd⟩ : ∃ d, d = disAll zss k := ⟨_, rfl⟩
      rw [← hd] at HS hdb ⊢
      have hd64 : d ≤ 64 := by omega
      have HDR := Lib.hid (disTo_le r)
      have HST : Hid (∀ m, disTo r (m + 1) = if r.getD (m + 1) 0 < r.getD m 0 then disTo r m + 1 else disTo r m) := Lib.hid (fun m => rfl)
      have i3 : (0 : Int) ≤ (k : Int) := by omega
      have i4 : (k : Int) < (len : Int) := by omega
      obtain ⟨wo, rfl⟩ : ∃ wo : World, wo = wr := ⟨_, rfl⟩
      clear hq hrow hr hd hdb
      go_wp2
      go_loopw [3, 6] (fun c i wr => ∃ m : Nat, m + 1 ≤ C ∧ i = .int .i64 ((m : Int) + 1) ∧ c = .int .i64 ((d : Int) + (disTo r m : Nat)) ∧ Hid (Below wo.heap.size wo wr)) (fun _ i _ => C + 1 - (intOf i).toNat)
      case atStart => exact ⟨0, by omega, rfl, int_eq (by simp [disTo]), Lib.hid (Below.refl _ _)⟩
      case round =>
        obtain ⟨m, hm, rfl, rfl, HB2⟩ := hrel
        by_cases hlt2 : m + 1 < C
        · obtain ⟨b2, off2, rfl, hcell⟩ := (HR.out.below HB2.out).2 (by omega)
          have c1 := hcell m (by omega)
          have c2 := hcell (m + 1) hlt2
          have hst := HST.out m
          have hdl := HDR.out m
          obtain ⟨x, hx⟩ : ∃ x, x = r.getD m 0 := ⟨_, rfl⟩
          obtain ⟨y, hy⟩ : ∃ x, x = r.getD (m + 1) 0 := ⟨_, rfl⟩
          rw [← hx] at c1 hst
          rw [← hy] at c2 hst
          obtain ⟨t, ht⟩ : ∃ t, t = disTo r m := ⟨_, rfl⟩
          rw [← ht] at hst hdl ⊢
          have i5 : (0 : Int) ≤ (m : Int) := by omega
          have i6 : (m : Int) + 1 < (C : Int) := by omega
          have i7 : (m : Int) < (C : Int) := by omega
          have ew : (m : Int) + 1 - 1 = (m : Int) := by omega
          clear hcell hx hy ht
          by_cases hgt : y < x
          · rw [if_pos hgt] at hst
            have HS2 := Lib.hid hst
            have bg : decide (y < x) = true := decide_eq_true hgt
            clear hst hgt
            go_wp2_with fail
            go_quiet (fail)
            go_wp2
            go_roundw
            case rel => exact ⟨m + 1, by omega, by go_num, int_eq (by rw [HS2.out]; omega), Lib.hid (below_drewN HB2.out _)⟩
            case measure => simp [intOf]; omega
          · rw [if_neg hgt] at hst
            have HS2 := Lib.hid hst
            have bg : decide (y < x) = false := decide_eq_false hgt
            clear hst hgt
            go_wp2_with fail
            go_quiet (fail)
            go_wp2
            go_roundw
            case rel => exact ⟨m + 1, by omega, by go_num, int_eq (by rw [HS2.out]), Lib.hid (below_drewN HB2.out _)⟩
            case measure => simp [intOf]; omega
        · have hmc : C - 1 = m := by omega
          have HS2 : Hid (((disAll zss (k + 1) : Nat) : Int) = (d : Int) + (disTo r m : Nat)) := Lib.hid (by rw [HS.out, hmc]; omega)
          have BW : Hid (Below w.heap.size w wr) := Lib.hid (HB.out.trans (HB2.out.mono HB.out.size))
          clear hmc
          go_wp2
          go_roundw
          case rel => exact ⟨k + 1, by omega, by go_num, int_eq HS2.out.symm, BW⟩
          case measure => simp [intOf]; omega
    · obtain rfl : k = len := by omega
      go_wp2
      go_ret
      exact ⟨ret_int (by rw [HE.out]), HB.out⟩

set_option maxHeartbeats 1000000 in
theorem specFileDisorder_any (w : World) (a : Option Addr) (len cap : Nat) (zss : List (List Int)) (hf : FitsSS zss) (hc : CameSS w a len zss) :
    Calls Try.prog 20 #[.slice a len cap] w fun e w' => e = .returned (.tuple #[.int .i64 (outFileDisorder_0 zss), .bool (outFileDisorder_1 zss)]) ∧ Below w.heap.size w w' := by
  have HG := Lib.hid (fiGood_any w a len cap zss hf hc)
  rcases hb : goodF zss with _ | _
  · have H0 : Hid (outFileDisorder_0 zss = 0 ∧ outFileDisorder_1 zss = false) := Lib.hid (by unfold outFileDisorder_0 outFileDisorder_1; rw [hb]; exact ⟨rfl, rfl⟩)
    rw [hb] at HG
    clear hb hc hf
    go_enter Try.func20, Try.ntmps20
    go_wp2_with (go_at_call 27; refine HG.out.mono ?_; rintro e w' ⟨rfl, rfl⟩)
    go_ret2
    exact ⟨by rw [H0.out.1, H0.out.2]; exact rfl, Below.refl _ _⟩
  · have H0 : Hid (outFileDisorder_0 zss = (disL zss : Int) + (disL (turnL zss) : Int) ∧ outFileDisorder_1 zss = true) := Lib.hid (by unfold outFileDisorder_0 outFileDisorder_1; rw [hb]; exact ⟨Int.natCast_add _ _, rfl⟩)
    have g := good_of hb
    have G := Lib.hid g
    have G2 := Lib.hid (good_turn g)
    have HD := Lib.hid (fiDisorder_any w a len cap zss _ _ g hc)
    have HT := Lib.hid (fun w2 (hb : Below w.heap.size w w2) => fiTurn_any w2 a len cap zss _ (by have := g.r1; have := hc.1; omega) (by have := g.r8; have := hc.1; omega) (by have := g.c8; omega) (fun i hi => g.cols i (by have := hc.1; omega)) (hc.below hb))
    have hd1 : disL zss ≤ 64 := by
      have := disAll_le (zss := zss) (c := 8) (fun j => by
        by_cases hj : j < zss.length
        · rw [g.cols j hj]; exact g.c8
        · unfold row; simp [List.getD_eq_getElem?_getD, Nat.le_of_not_lt hj]) zss.length
      unfold disL; have := g.r8; omega
    have hd2 : disL (turnL zss) ≤ 64 := by
      have g2 := good_turn g
      have := disAll_le (zss := turnL zss) (c := 8) (fun j => by
        by_cases hj : j < (turnL zss).length
        · rw [g2.cols j (by rw [← g2.rows]; exact hj)]; exact g2.c8
        · unfold row; simp [List.getD_eq_getElem?_getD, Nat.le_of_not_lt hj]) (turnL zss).length
      unfold disL; have := g2.r8; have := g2.rows; omega
    obtain ⟨d1, hd1e⟩ : ∃ d, d = disL zss := ⟨_, rfl⟩
    rw [← hd1e] at H0 HD hd1
    rw [hb] at HG
    clear hb hc hf g hd1e
    go_enter Try.func20, Try.ntmps20
    go_wp2_with fail
    go_at_call 27
    refine HG.out.mono ?_
    rintro e w' ⟨rfl, rfl⟩
    go_wp2_with fail
    go_at_call 45
    refine HD.out.mono ?_
    rintro e w1 ⟨rfl, b1⟩
    have B1 := Lib.hid b1
    have HT1 := Lib.hid (HT.out w1 b1)
    clear b1
    go_wp2_with fail
    go_at_call 30
    refine HT1.out.mono ?_
    rintro e w2 ⟨v, rfl, o2, b2⟩
    have B2 : Hid (Below w.heap.size w w2) := Lib.hid (B1.out.trans (b2.mono B1.out.size))
    obtain ⟨at2, ct2, rfl, hc2, _⟩ := o2.cameC
    have HD2 := Lib.hid (fiDisorder_any w2 at2 _ ct2 (turnL zss) _ _ G2.out hc2)
    obtain ⟨d2, hd2e⟩ : ∃ d, d = disL (turnL zss) := ⟨_, rfl⟩
    rw [← hd2e] at H0 HD2 hd2
    clear o2 b2 hc2 hd2e HT HT1
    go_wp2_with fail
    go_at_call 45
    refine HD2.out.mono ?_
    rintro e w3 ⟨rfl, b3⟩
    have B3 : Hid (Below w.heap.size w w3) := Lib.hid (B2.out.trans (b3.mono B2.out.size))
    clear b3
    go_wp2
    go_ret2
    exact ⟨by rw [H0.out.1, H0.out.2]; exact rfl, B3.out⟩

set_option maxHeartbeats 2000000 in
theorem specExchangeFiles_any (w : World) (a : Option Addr) (len cap : Nat) (zss : List (List Int)) (x y : Int) (_wx : (Lit.int .i64 x).wf = true) (_wy : (Lit.int .i64 y).wf = true) (hf : FitsSS zss) (hc : CameSS w a len zss) :
    Calls Try.prog 22 #[.slice a len cap, .int .i64 x, .int .i64 y] w fun e w' => ∃ v0, e = .returned (.tuple #[v0, .bool (outExchangeFiles_1 zss x y)]) ∧ OwnSS w' w.heap.size v0 (outExchangeFiles_0 zss x y) ∧ Below w.heap.size w w' := by
  have HG := Lib.hid (fiGood_any w a len cap zss hf hc)
  have HZ : Hid (zss.length = len) := Lib.hid hc.1
  have HI := Lib.hid (l1In_any x 0 ((len : Int) - 1) w)
  have HJ := Lib.hid (l1In_any y 0 ((len : Int) - 1) w)
  have hno : exB zss x y = false → outExchangeFiles_0 zss x y = [] ∧ outExchangeFiles_1 zss x y = false := fun h => by unfold outExchangeFiles_0 outExchangeFiles_1; rw [h]; exact ⟨rfl, rfl⟩
  have hEX : exB zss x y = (goodF zss && (inB x 0 ((len : Int) - 1) && (inB y 0 ((len : Int) - 1) && decide (x ≠ y)))) := by unfold exB; rw [hc.1]
  have hl20 : len ≤ 1048576 := by have := hc.1; have := hf.1; omega
  clear _wx _wy
  rcases hb : goodF zss with _ | _
  · have H0 := Lib.hid (hno (by rw [hEX, hb]; rfl))
    rw [hb] at HG
    clear hb hc hf hno hEX
    go_enter Try.func22, Try.ntmps22
    go_wp2_with (go_at_call 27; refine HG.out.mono ?_; rintro e w' ⟨rfl, rfl⟩)
    go_ret2
    exact ⟨_, by rw [H0.out.2]; exact rfl, by rw [H0.out.1]; exact ownSS_nil _ _, Below.refl _ _⟩
  · rw [hb] at HG
    rcases hb2 : inB x 0 ((len : Int) - 1) with _ | _
    · have H0 := Lib.hid (hno (by rw [hEX, hb, hb2]; rfl))
      rw [hb2] at HI
      clear hb hb2 hc hf hno hEX
      go_enter Try.func22, Try.ntmps22
      go_wp2_with fail
      go_at_call 27
      refine HG.out.mono ?_
      rintro e w' ⟨rfl, rfl⟩
      go_wp2_with (go_at_call 44; refine HI.out.mono ?_; rintro e w' ⟨rfl, rfl⟩)
      go_ret2
      exact ⟨_, by rw [H0.out.2]; exact rfl, by rw [H0.out.1]; exact ownSS_nil _ _, Below.refl _ _⟩
    · rw [hb2] at HI
      rcases hb3 : inB y 0 ((len : Int) - 1) with _ | _
      · have H0 := Lib.hid (hno (by rw [hEX, hb, hb2, hb3]; rfl))
        rw [hb3] at HJ
        clear hb hb2 hb3 hc hf hno hEX
        go_enter Try.func22, Try.ntmps22
        go_wp2_with fail
        go_at_call 27
        refine HG.out.mono ?_
        rintro e w' ⟨rfl, rfl⟩
        go_wp2_with fail
        go_at_call 44
        refine HI.out.mono ?_
        rintro e w' ⟨rfl, rfl⟩
        go_wp2_with (go_at_call 44; refine HJ.out.mono ?_; rintro e w' ⟨rfl, rfl⟩)
        go_ret2
        exact ⟨_, by rw [H0.out.2]; exact rfl, by rw [H0.out.1]; exact ownSS_nil _ _, Below.refl _ _⟩
      · rw [hb3] at HJ
        by_cases hxy : x = y
        · have H0 := Lib.hid (hno (by rw [hEX, hb, hb2, hb3, decide_eq_false (fun h => h hxy)]; rfl))
          have bq : (x == y) = true := by rw [beq_iff_eq]; exact hxy
          clear hb hb2 hb3 hc hf hno hEX hxy
          go_enter Try.func22, Try.ntmps22
          go_wp2_with fail
          go_at_call 27
          refine HG.out.mono ?_
          rintro e w' ⟨rfl, rfl⟩
          go_wp2_with fail
          go_at_call 44
          refine HI.out.mono ?_
          rintro e w' ⟨rfl, rfl⟩
          go_wp2_with fail
          go_at_call 44
          refine HJ.out.mono ?_
          rintro e w' ⟨rfl, rfl⟩
          go_wp2
          go_ret2
          exact ⟨_, by rw [H0.out.2]; exact rfl, by rw [H0.out.1]; exact ownSS_nil _ _, Below.refl _ _⟩
        · obtain ⟨hx0, hx1⟩ := inB_yes hb2
          obtain ⟨hy0, hy1⟩ := inB_yes hb3
          obtain ⟨X, rfl⟩ : ∃ X : Nat, x = (X : Int) := ⟨x.toNat, by omega⟩
          obtain ⟨Y, rfl⟩ : ∃ Y : Nat, y = (Y : Int) := ⟨y.toNat, by omega⟩
          have H0 : Hid (outExchangeFiles_0 zss X Y = exTo zss X Y len ∧ outExchangeFiles_1 zss X Y = true) := Lib.hid (by unfold outExchangeFiles_0 outExchangeFiles_1; rw [hEX, hb, hb2, hb3, decide_eq_true hxy, hc.1, Int.toNat_natCast, Int.toNat_natCast]; exact ⟨rfl, rfl⟩)
          have bq : ((X : Int) == (Y : Int)) = false := by rw [beq_eq_false_iff_ne]; exact hxy
          have g := good_of hb
          have HC := Lib.hid hc
          have hl8 : len ≤ 8 := by rw [← hc.1]; exact g.r8
          have HL : Hid (∀ i, i < len → (zss.getD i []).length = (row zss 0).length) := Lib.hid (fun i hi => g.cols i (by rw [hc.1]; exact hi))
          have hc1 : 1 ≤ (row zss 0).length := g.c1
          have hc8 : (row zss 0).length ≤ 8 := g.c8
          obtain ⟨C, hCe⟩ : ∃ C, C = (row zss 0).length := ⟨_, rfl⟩
          rw [← hCe] at HL hc1 hc8
          have hX : X < len := by omega
          have hY : Y < len := by omega
          clear hb hb2 hb3 hc hf hno hEX hxy g hCe hx0 hx1 hy0 hy1
          go_enter Try.func22, Try.ntmps22
          go_wp2_with fail
          go_at_call 27
          refine HG.out.mono ?_
          rintro e w' ⟨rfl, rfl⟩
          go_wp2_with fail
          go_at_call 44
          refine HI.out.mono ?_
          rintro e w' ⟨rfl, rfl⟩
          go_wp2_with fail
          go_at_call 44
          refine HJ.out.mono ?_
          rintro e w' ⟨rfl, rfl⟩
          go_wp2
          go_loopw [8, 36] (fun v i wr => ∃ k : Nat, k ≤ len ∧ i = .int .i64 k ∧ Hid (OwnSS wr w.heap.size v (exTo zss X Y k)) ∧ Hid (Below w.heap.size w wr)) (fun _ i _ => len - (intOf i).toNat)
          case atStart => exact ⟨0, Nat.zero_le _, rfl, Lib.hid (ownSS_nil _ _), Lib.hid (Below.refl _ _)⟩
          case round =>
            obtain ⟨k, hk, rfl, HO, HB⟩ := hrel
            by_cases hlt : k < len
            · have HS := Lib.hid (exTo_succ zss X Y k)
              have hbl : (exTo zss X Y k).length ≤ 1000000000 := by rw [length_exTo]; omega
              have hz := HB.out.size
              obtain ⟨p, hp⟩ : ∃ p, p = if k = X then Y else if k = Y then X else k := ⟨_, rfl⟩
              have hpl : p < len := by rw [hp]; split; · exact hY
                                       · split; · exact hX
                                         · exact hlt
              have HEX : Hid (exRow zss X Y k = zss.getD p []) := Lib.hid (by unfold exRow; rw [hp]; split; · rfl
                                                                              · split <;> rfl)
              obtain ⟨b, off, ak, ck, rfl, e1, hrow, _, _⟩ := (HC.out.below HB.out).at p hpl
              rw [HL.out p hpl] at e1 hrow
              obtain ⟨b2, o2, rfl, _⟩ := hrow.2 (by omega)
              have HW := Lib.hid (l1OwnC_any wr _ C ck _ (by omega) hrow (fun e => by cases e))
              have i3 : (0 : Int) ≤ (p : Int) := by omega
              have i4 : (p : Int) < (len : Int) := by omega
              have i5 : (k : Int) < (len : Int) := by omega
              have i6 : (0 : Int) ≤ (k : Int) := by omega
              clear hrow
              by_cases h1 : k = X
              · have g1 : ((k : Int) == (X : Int)) = true := by rw [beq_iff_eq]; omega
                have HP : Hid (p = Y) := Lib.hid (by rw [hp, if_pos h1])
                obtain rfl : p = Y := HP.out
                clear h1 hp HP
                go_wp2_with fail
                go_at_call 48
                refine HW.out.mono ?_
                rintro e w2 ⟨v, rfl, o2, b2⟩
                have O2 := Lib.hid o2
                have B2 := Lib.hid b2
                obtain ⟨ar, cr, rfl⟩ := o2.any
                clear o2 b2 e1 HW
                go_wp2_with (at_builtin; refine wpList_appRow rfl _ _ rfl w2 wr _ _ _ _ _ _ rfl rfl rfl HO.out B2.out O2.out hz hbl ?_; intro v' w5 hO hB5)
                have HO5 : Hid (OwnSS w5 w.heap.size v' (exTo zss X p (k + 1))) := Lib.hid (by rw [HS.out, HEX.out]; exact hO)
                have HB5 : Hid (Below w.heap.size w w5) := Lib.hid ((HB.out.trans (B2.out.mono hz)).trans hB5)
                clear hO hB5
                go_wp2
                go_roundw
                case rel => exact ⟨k + 1, by omega, by go_num, HO5, HB5⟩
                case measure => simp [intOf]; omega
              · by_cases h2 : k = Y
                · have g1 : ((k : Int) == (X : Int)) = false := by rw [beq_eq_false_iff_ne]; omega
                  have g2 : ((k : Int) == (Y : Int)) = true := by rw [beq_iff_eq]; omega
                  obtain rfl : p = X := by rw [hp, if_neg h1, if_pos h2]
                  clear h1 h2 hp
                  go_wp2_with fail
                  go_at_call 48
                  refine HW.out.mono ?_
                  rintro e w2 ⟨v, rfl, o2, b2⟩
                  have O2 := Lib.hid o2
                  have B2 := Lib.hid b2
                  obtain ⟨ar, cr, rfl⟩ := o2.any
                  clear o2 b2 e1 HW
                  go_wp2_with (at_builtin; refine wpList_appRow rfl _ _ rfl w2 wr _ _ _ _ _ _ rfl rfl rfl HO.out B2.out O2.out hz hbl ?_; intro v' w5 hO hB5)
                  have HO5 : Hid (OwnSS w5 w.heap.size v' (exTo zss p Y (k + 1))) := Lib.hid (by rw [HS.out, HEX.out]; exact hO)
                  have HB5 : Hid (Below w.heap.size w w5) := Lib.hid ((HB.out.trans (B2.out.mono hz)).trans hB5)
                  clear hO hB5
                  go_wp2
                  go_roundw
                  case rel => exact ⟨k + 1, by omega, by go_num, HO5, HB5⟩
                  case measure => simp [intOf]; omega
                · have g1 : ((k : Int) == (X : Int)) = false := by rw [beq_eq_false_iff_ne]; omega
                  have g2 : ((k : Int) == (Y : Int)) = false := by rw [beq_eq_false_iff_ne]; omega
                  obtain rfl : p = k := by rw [hp, if_neg h1, if_neg h2]
                  clear h1 h2 hp
                  go_wp2_with fail
                  go_at_call 48
                  refine HW.out.mono ?_
                  rintro e w2 ⟨v, rfl, o2, b2⟩
                  have O2 := Lib.hid o2
                  have B2 := Lib.hid b2
                  obtain ⟨ar, cr, rfl⟩ := o2.any
                  clear o2 b2 e1 HW
                  go_wp2_with (at_builtin; refine wpList_appRow rfl _ _ rfl w2 wr _ _ _ _ _ _ rfl rfl rfl HO.out B2.out O2.out hz hbl ?_; intro v' w5 hO hB5)
                  have HO5 : Hid (OwnSS w5 w.heap.size v' (exTo zss X Y (p + 1))) := Lib.hid (by rw [HS.out, HEX.out]; exact hO)
                  have HB5 : Hid (Below w.heap.size w w5) := Lib.hid ((HB.out.trans (B2.out.mono hz)).trans hB5)
                  clear hO hB5
                  go_wp2
                  go_roundw
                  case rel => exact ⟨p + 1, by omega, by go_num, HO5, HB5⟩
                  case measure => simp [intOf]; omega
            · obtain rfl : k = len := by omega
              go_wp2
              go_ret2
              exact ⟨_, by rw [H0.out.2]; exact rfl, by rw [H0.out.1]; exact HO.out, HB.out⟩

theorem ser_no {zss : List (List Int)} {h : Int} (hb : serB zss h = false) : outPlacesSearched_0 zss h = [] ∧ outPlacesSearched_1 zss h = false := by
  unfold outPlacesSearched_0 outPlacesSearched_1
  rw [hb]
  exact ⟨rfl, rfl⟩
set_option maxHeartbeats 2000000 in
theorem specPlacesSearched_any (w : World) (a : Option Addr) (len cap : Nat) (zss : List (List Int)) (h : Int) (_wh : (Lit.int .i64 h).wf = true) (hf : FitsSS zss) (hc : CameSS w a len zss) :
    Calls Try.prog 10 #[.slice a len cap, .int .i64 h] w fun e w' => ∃ v0, e = .returned (.tuple #[v0, .bool (outPlacesSearched_1 zss h)]) ∧ OwnSS w' w.heap.size v0 (outPlacesSearched_0 zss h) ∧ Below w.heap.size w w' := by
  have HG := Lib.hid (fiGood_any w a len cap zss hf hc)
  have HI := Lib.hid (fiHeight_any h w)
  clear _wh
  rcases hb : goodF zss with _ | _
  · have H0 := Lib.hid (ser_no (zss := zss) (h := h) (by unfold serB; rw [hb]; rfl))
    rw [hb] at HG
    clear hb hc hf
    go_enter Try.func10, Try.ntmps10
    go_wp2_with (go_at_call 27; refine HG.out.mono ?_; rintro e w' ⟨rfl, rfl⟩)
    go_ret2
    exact ⟨_, by rw [H0.out.2]; exact rfl, by rw [H0.out.1]; exact ownSS_nil _ _, Below.refl _ _⟩
  · rw [hb] at HG
    rcases hb2 : inB h 0 1000 with _ | _
    · have H0 := Lib.hid (ser_no (zss := zss) (h := h) (by unfold serB; rw [hb, hb2]; rfl))
      rw [hb2] at HI
      clear hb hb2 hc hf
      go_enter Try.func10, Try.ntmps10
      go_wp2_with (first | (go_at_call 27; refine HG.out.mono ?_; rintro e w' ⟨rfl, rfl⟩) | (go_at_call 28; refine HI.out.mono ?_; rintro e w' ⟨rfl, rfl⟩))
      go_ret2
      exact ⟨_, by rw [H0.out.2]; exact rfl, by rw [H0.out.1]; exact ownSS_nil _ _, Below.refl _ _⟩
    · rw [hb2] at HI
      have g := good_of hb
      have HS := Lib.hid (fiSorted_any w a len cap zss (by have := g.r8; have := hc.1; omega) (fun i hi => by rw [g.cols i (by have := hc.1; omega)]; have := g.c8; omega) hc)
      rcases hb3 : sortedB zss with _ | _
      · have H0 := Lib.hid (ser_no (zss := zss) (h := h) (by unfold serB; rw [hb, hb2, hb3]; rfl))
        rw [hb3] at HS
        clear hb hb2 hb3 hc hf g
        go_enter Try.func10, Try.ntmps10
        go_wp2_with fail
        go_at_call 27
        refine HG.out.mono ?_
        rintro e w' ⟨rfl, rfl⟩
        go_wp2_with fail
        go_at_call 28
        refine HI.out.mono ?_
        rintro e w' ⟨rfl, rfl⟩
        go_wp2_with (go_at_call 29; refine HS.out.mono ?_; rintro e w2 ⟨rfl, b2⟩)
        go_ret2
        exact ⟨_, by rw [H0.out.2]; exact rfl, by rw [H0.out.1]; exact ownSS_nil _ _, b2⟩
      · rw [hb3] at HS
        have G2 := Lib.hid (good_turn g)
        have HT := Lib.hid (fun w2 (hb : Below w.heap.size w w2) => fiTurn_any w2 a len cap zss _ (by have := g.r1; have := hc.1; omega) (by have := g.r8; have := hc.1; omega) (by have := g.c8; omega) (fun i hi => g.cols i (by have := hc.1; omega)) (hc.below hb))
        have HST := Lib.hid (fun w2 at2 ct2 (hc2 : CameSS w2 at2 (turnL zss).length (turnL zss)) => fiSorted_any w2 at2 _ ct2 (turnL zss) (by rw [G2.out.rows]; have := G2.out.r8; omega) (fun i hi => by rw [G2.out.cols i (by rw [← G2.out.rows]; exact hi)]; have := G2.out.c8; omega) hc2)
        rcases hb4 : sortedB (turnL zss) with _ | _
        · have H0 := Lib.hid (ser_no (zss := zss) (h := h) (by unfold serB; rw [hb, hb2, hb3, hb4]; rfl))
          rw [hb4] at HST
          clear hb hb2 hb3 hb4 hc hf g
          go_enter Try.func10, Try.ntmps10
          go_wp2_with fail
          go_at_call 27
          refine HG.out.mono ?_
          rintro e w' ⟨rfl, rfl⟩
          go_wp2_with fail
          go_at_call 28
          refine HI.out.mono ?_
          rintro e w' ⟨rfl, rfl⟩
          go_wp2_with fail
          go_at_call 29
          refine HS.out.mono ?_
          rintro e w2 ⟨rfl, b2⟩
          have B2 := Lib.hid b2
          have HT2 := Lib.hid (HT.out w2 b2)
          clear b2
          go_wp2_with fail
          go_at_call 30
          refine HT2.out.mono ?_
          rintro e w3 ⟨v, rfl, o3, b3⟩
          have B3 : Hid (Below w.heap.size w w3) := Lib.hid (B2.out.trans (b3.mono B2.out.size))
          obtain ⟨at3, ct3, rfl, hc3, _⟩ := o3.cameC
          have HS3 := Lib.hid (HST.out w3 at3 ct3 hc3)
          clear o3 b3 hc3 HST HT HT2
          go_wp2_with (go_at_call 29; refine HS3.out.mono ?_; rintro e w4 ⟨rfl, b4⟩; have B4 : Hid (Below w.heap.size w w4) := Lib.hid (B3.out.trans (b4.mono B3.out.size)); clear b4)
          go_ret2
          exact ⟨_, by rw [H0.out.2]; exact rfl, by rw [H0.out.1]; exact ownSS_nil _ _, B4.out⟩
        · rw [hb4] at HST
          have H0 : Hid (outPlacesSearched_0 zss h = srch zss h len (len + (row zss 0).length) 0 (row zss 0).length ∧ outPlacesSearched_1 zss h = true) := Lib.hid (by unfold outPlacesSearched_0 outPlacesSearched_1 searchL serB; rw [hb, hb2, hb3, hb4, hc.1]; exact ⟨rfl, rfl⟩)
          have HSM := Lib.hid (fun f i kk => (srch_mem zss h len f i kk).1)
          have HSX : Hid (∀ f i kk, i < len → 0 < kk → srch zss h len (f + 1) i kk = [(i : Int), ((kk - 1 : Nat) : Int)] :: (if (row zss i).getD (kk - 1) 0 = h then [] else if h < (row zss i).getD (kk - 1) 0 then srch zss h len f i (kk - 1) else srch zss h len f (i + 1) kk)) := Lib.hid (fun f i kk h1 h2 => by rw [srch, if_pos ⟨h1, h2⟩])
          have HSY : Hid (∀ f i kk, ¬ (i < len ∧ 0 < kk) → srch zss h len f i kk = []) := Lib.hid (fun f i kk h1 => by cases f <;> simp only [srch]; rw [if_neg h1])
          have hlen : len = zss.length := hc.1.symm
          have HC := Lib.hid hc
          have hl8 : len ≤ 8 := by rw [hlen]; exact g.r8
          have hl1 : 1 ≤ len := by rw [hlen]; exact g.r1
          have HL : Hid (∀ i, i < len → (zss.getD i []).length = (row zss 0).length) := Lib.hid (fun i hi => g.cols i (by rw [hc.1]; exact hi))
          have hc1 : 1 ≤ (row zss 0).length := g.c1
          have hc8 : (row zss 0).length ≤ 8 := g.c8
          obtain ⟨C, hCe⟩ : ∃ C, C = (row zss 0).length := ⟨_, rfl⟩
          rw [← hCe] at HL hc1 hc8 H0
          obtain ⟨full, hfull⟩ : ∃ x, x = srch zss h len (len + C) 0 C := ⟨_, rfl⟩
          have hful : full.length ≤ 16 := by have := HSM.out (len + C) 0 C; rw [hfull]; omega
          have HFU := Lib.hid hfull
          rw [← hfull] at H0
          clear hb hb2 hb3 hb4 hc hf g hCe hlen hfull
          go_enter Try.func10, Try.ntmps10
          go_wp2_with fail
          go_at_call 27
          refine HG.out.mono ?_
          rintro e w' ⟨rfl, rfl⟩
          go_wp2_with fail
          go_at_call 28
          refine HI.out.mono ?_
          rintro e w' ⟨rfl, rfl⟩
          go_wp2_with fail
          go_at_call 29
          refine HS.out.mono ?_
          rintro e w2 ⟨rfl, b2⟩
          have B2 := Lib.hid b2
          have HT2 := Lib.hid (HT.out w2 b2)
          clear b2
          go_wp2_with fail
          go_at_call 30
          refine HT2.out.mono ?_
          rintro e w3 ⟨v, rfl, o3, b3⟩
          have B3 : Hid (Below w.heap.size w w3) := Lib.hid (B2.out.trans (b3.mono B2.out.size))
          obtain ⟨at3, ct3, rfl, hc3, _⟩ := o3.cameC
          have HS3 := Lib.hid (HST.out w3 at3 ct3 hc3)
          clear o3 b3 hc3 HST HT HT2
          go_wp2_with fail
          go_at_call 29
          refine HS3.out.mono ?_
          rintro e w4 ⟨rfl, b4⟩
          have B4 : Hid (Below w.heap.size w w4) := Lib.hid (B3.out.trans (b4.mono B3.out.size))
          obtain ⟨b0, off0, a0, c0, rfl, e0, _, _, _⟩ := (HC.out.below B4.out).at 0 (by omega)
          rw [Nat.add_zero, HL.out 0 (by omega)] at e0
          have i0 : (0 : Int) < (len : Int) := by omega
          clear b4
          go_wp2_with fail
          go_quiet (fail)
          go_wp2
          clear e0
          go_loopw [6, 7, 8] (fun v iv yv wr => ∃ (i : Nat) (y : Int) (done : List (List Int)), i ≤ len ∧ -1 ≤ y ∧ y < (C : Int) ∧ iv = .int .i64 i ∧ yv = .int .i64 y ∧ Hid (done ++ srch zss h len (len - i + (y + 1).toNat) i (y + 1).toNat = full) ∧ Hid (OwnSS wr w.heap.size v done) ∧ Hid (Below w.heap.size w wr)) (fun _ iv yv _ => (len - (intOf iv).toNat) + (intOf yv + 1).toNat)
          case atStart => exact ⟨0, (C : Int) - 1, [], Nat.zero_le _, by omega, by omega, rfl, rfl, Lib.hid (by rw [List.nil_append, show ((C : Int) - 1 + 1).toNat = C by omega]; exact HFU.out.symm), Lib.hid (ownSS_nil _ _), Lib.hid (below_drewN B4.out _)⟩
          case round =>
            obtain ⟨i, y, done, hi, hy1, hy2, rfl, rfl, HFL, HO, HB⟩ := hrel
            by_cases hil : i < len
            · have gi : decide ((i : Int) < (len : Int)) = true := decide_eq_true (by omega)
              by_cases hy0 : 0 ≤ y
              · obtain ⟨m, rfl⟩ : ∃ m : Nat, y = (m : Int) := ⟨y.toNat, by omega⟩
                have gy : decide ((0 : Int) ≤ (m : Int)) = true := decide_eq_true hy0
                have hmC : m < C := by omega
                obtain ⟨b, off, ai, ci, he, e1, hrow, _, _⟩ := HC.out.at i hil
                cases he
                rw [HL.out i hil] at e1 hrow
                obtain ⟨br, offr, rfl, hcell⟩ := hrow.2 (by omega)
                have e2 := hcell m hmC
                have hfl := HFL.out
                rw [show ((m : Int) + 1).toNat = m + 1 by omega, show len - i + (m + 1) = (len - i + m) + 1 by omega, HSX.out _ _ _ hil (by omega), show m + 1 - 1 = m from rfl] at hfl
                have hdl : done.length ≤ 16 := by have := congrArg List.length hfl; rw [List.length_append] at this; omega
                have hbl : done.length ≤ 1000000000 := by omega
                have hz := HB.out.size
                obtain ⟨z, hzz⟩ : ∃ z, z = (zss.getD i []).getD m 0 := ⟨_, rfl⟩
                rw [← hzz] at e2
                rw [show (row zss i).getD m 0 = z from hzz.symm] at hfl
                have HE1 := Lib.hid (fun w5 (h5 : Below w.heap.size w w5) => (h5.cell (World.block_lt_of_cell? w _ e1)).trans e1)
                have HE2 := Lib.hid (fun w5 (h5 : Below w.heap.size w w5) => (h5.cell (World.block_lt_of_cell? w _ e2)).trans e2)
                have i1 : (0 : Int) ≤ (i : Int) := by omega
                have i2 : (i : Int) < (len : Int) := by omega
                have i3 : (0 : Int) ≤ (m : Int) := by omega
                have i4 : (m : Int) < (C : Int) := by omega
                clear hcell hrow HFL e1 e2 hzz
                by_cases hq : z = h
                · rw [if_pos hq] at hfl
                  have HFL2 := Lib.hid hfl
                  have g1 : (z == h) = true := by rw [beq_iff_eq]; exact hq
                  clear hfl hq
                  go_wp2_with (at_builtin; refine wpList_appRow rfl _ _ rfl _ wr _ _ _ _ _ _ rfl rfl (by simp) HO.out ((Below.refl _ _).alloc (Nat.le_refl _) _) (own_two wr _ _) hz hbl ?_; intro v' w5 hO hB5; have HO5 := Lib.hid hO; have HB5 : Hid (Below w.heap.size w w5) := Lib.hid ((HB.out.alloc hz _).trans hB5); have e1 := HE1.out w5 HB5.out; have e2 := HE2.out w5 HB5.out; clear hO hB5)
                  go_ret2
                  exact ⟨_, by rw [H0.out.2]; exact rfl, by rw [H0.out.1, ← HFL2.out]; exact HO5.out, HB5.out⟩
                · rw [if_neg hq] at hfl
                  have g1 : (z == h) = false := by rw [beq_eq_false_iff_ne]; exact hq
                  by_cases hgt : h < z
                  · rw [if_pos hgt] at hfl
                    have HFL2 : Hid ((done ++ [[(i : Int), (m : Int)]]) ++ srch zss h len (len - i + ((m : Int) - 1 + 1).toNat) i ((m : Int) - 1 + 1).toNat = full) := Lib.hid (by rw [show ((m : Int) - 1 + 1).toNat = m by omega, List.append_assoc]; exact hfl)
                    have g2 : decide (h < z) = true := decide_eq_true hgt
                    clear hfl hq hgt
                    go_wp2_with (at_builtin; refine wpList_appRow rfl _ _ rfl _ wr _ _ _ _ _ _ rfl rfl (by simp) HO.out ((Below.refl _ _).alloc (Nat.le_refl _) _) (own_two wr _ _) hz hbl ?_; intro v' w5 hO hB5; have HO5 := Lib.hid hO; have HB5 : Hid (Below w.heap.size w w5) := Lib.hid ((HB.out.alloc hz _).trans hB5); have e1 := HE1.out w5 HB5.out; have e2 := HE2.out w5 HB5.out; clear hO hB5)
                    go_roundw
                    case rel => exact ⟨i, (m : Int) - 1, done ++ [[(i : Int), (m : Int)]], hi, by omega, by omega, rfl, rfl, HFL2, HO5, HB5⟩
                    case measure => simp [intOf] <;> omega
                  · rw [if_neg hgt] at hfl
                    have HFL2 : Hid ((done ++ [[(i : Int), (m : Int)]]) ++ srch zss h len (len - (i + 1) + ((m : Int) + 1).toNat) (i + 1) ((m : Int) + 1).toNat = full) := Lib.hid (by rw [show ((m : Int) + 1).toNat = m + 1 by omega, show len - (i + 1) + (m + 1) = len - i + m by omega, List.append_assoc]; exact hfl)
                    have g2 : decide (h < z) = false := decide_eq_false hgt
                    clear hfl hq hgt
                    go_wp2_with (at_builtin; refine wpList_appRow rfl _ _ rfl _ wr _ _ _ _ _ _ rfl rfl (by simp) HO.out ((Below.refl _ _).alloc (Nat.le_refl _) _) (own_two wr _ _) hz hbl ?_; intro v' w5 hO hB5; have HO5 := Lib.hid hO; have HB5 : Hid (Below w.heap.size w w5) := Lib.hid ((HB.out.alloc hz _).trans hB5); have e1 := HE1.out w5 HB5.out; have e2 := HE2.out w5 HB5.out; clear hO hB5)
                    go_roundw
                    case rel => exact ⟨i + 1, (m : Int), done ++ [[(i : Int), (m : Int)]], by omega, by omega, by omega, by go_num, rfl, HFL2, HO5, HB5⟩
                    case measure => simp [intOf] <;> omega
              · have HFL2 : Hid (done = full) := Lib.hid (by rw [← HFL.out, HSY.out _ _ _ (by omega), List.append_nil])
                go_wp2
                go_ret2
                exact ⟨_, by rw [H0.out.2]; exact rfl, by rw [H0.out.1, ← HFL2.out]; exact HO.out, HB.out⟩
            · have HFL2 : Hid (done = full) := Lib.hid (by rw [← HFL.out, HSY.out _ _ _ (by omega), List.append_nil])
              go_wp2
              go_ret2
              exact ⟨_, by rw [H0.out.2]; exact rfl, by rw [H0.out.1, ← HFL2.out]; exact HO.out, HB.out⟩

end Go.Proofs.Ytpoceonmlpnhlab
