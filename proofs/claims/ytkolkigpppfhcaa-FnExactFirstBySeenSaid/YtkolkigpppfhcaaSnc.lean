/- Chapter 2, the model: heAsked, heZero, heCounts; CountBySeen. -/
import Derived.Test.YtkolkigpppfhcaaSna
namespace Go.Proofs.Ytkolkigpppfhcaa
open Go.ChangeShapes Go.WideShapes Go.ChangeAt Go.RowKit

def askB (n l r : Int) : Bool := inB n 1 15 && (inB l 0 15 && inB r 0 15)
theorem heAsked_q (n l r : Int) (w : World) : Calls Try.prog 12 #[.int .i64 n, .int .i64 l, .int .i64 r] w fun e w' => e = .returned (.bool (askB n l r)) ∧ w = w' := by
  have H1 := Lib.hid (l1In_any n 1 15 w)
  have H2 := Lib.hid (l1In_any l 0 15 w)
  have H3 := Lib.hid (l1In_any r 0 15 w)
  rcases h1 : inB n 1 15 with _ | _
  · have H0 : Hid (askB n l r = false) := Lib.hid (by unfold askB; rw [h1]; rfl)
    rw [h1] at H1
    clear h1
    go_enter Try.func12, Try.ntmps12
    go_wp2_with (go_at_call 20; refine H1.out.mono ?_; rintro e w' ⟨rfl, rfl⟩)
    go_ret
    exact ⟨ret_bool H0.out.symm, rfl⟩
  · rw [h1] at H1
    rcases h2 : inB l 0 15 with _ | _
    · have H0 : Hid (askB n l r = false) := Lib.hid (by unfold askB; rw [h1, h2]; rfl)
      rw [h2] at H2
      clear h1 h2
      go_enter Try.func12, Try.ntmps12
      go_wp2_with fail
      go_at_call 20
      refine H1.out.mono ?_
      rintro e w' ⟨rfl, rfl⟩
      go_wp2_with (go_at_call 20; refine H2.out.mono ?_; rintro e w' ⟨rfl, rfl⟩)
      go_ret
      exact ⟨ret_bool H0.out.symm, rfl⟩
    · have H0 : Hid (askB n l r = inB r 0 15) := Lib.hid (by unfold askB; rw [h1, h2]; rfl)
      rw [h2] at H2
      clear h1 h2
      go_enter Try.func12, Try.ntmps12
      go_wp2_with fail
      go_at_call 20
      refine H1.out.mono ?_
      rintro e w' ⟨rfl, rfl⟩
      go_wp2_with fail
      go_at_call 20
      refine H2.out.mono ?_
      rintro e w' ⟨rfl, rfl⟩
      go_wp2_with (go_at_call 20; refine H3.out.mono ?_; rintro e w' ⟨rfl, rfl⟩)
      go_ret
      exact ⟨ret_bool H0.out.symm, rfl⟩

set_option maxHeartbeats 1000000 in
theorem heZero_q (w : World) : Calls Try.prog 21 #[.int .i64 16] w fun e w' => ∃ v, e = .returned v ∧ OwnSS w' w.heap.size v (Sn.gridL (fun _ _ => 0)) ∧ Below w.heap.size w w' := by
  obtain ⟨i0, hi, hz0, hz1, hz2⟩ := info_parts Try.info_int
  have HZ : Hid (List.replicate 16 (List.replicate 16 (0 : Int)) = Sn.gridL (fun _ _ => 0)) := Lib.hid Sn.grid_zero
  go_enter Try.func21, Try.ntmps21
  go_wp2
  go_loopw [3, 4] (fun v i wr => ∃ k : Nat, k ≤ 16 ∧ i = .int .i64 (k : Int) ∧ Hid (OwnSS wr w.heap.size v (List.replicate k (List.replicate 16 (0 : Int)))) ∧ Hid (Below w.heap.size w wr)) (fun _ i _ => 16 - (intOf i).toNat)
  case atStart => exact ⟨0, Nat.zero_le _, rfl, Lib.hid (ownSS_nil _ _), Lib.hid (Below.refl _ _)⟩
  case round =>
    obtain ⟨k, hk, rfl, HO, HB⟩ := hrel
    obtain ⟨wo, rfl⟩ : ∃ wo : World, wo = wr := ⟨_, rfl⟩
    have hzb := HB.out.size
    by_cases hlt : k < 16
    · have i1 : (k : Int) < 16 := by omega
      have HS : Hid (List.replicate (k + 1) (List.replicate 16 (0 : Int)) = List.replicate k (List.replicate 16 (0 : Int)) ++ [List.replicate 16 0]) := Lib.hid List.replicate_succ'
      have hbl : (List.replicate k (List.replicate 16 (0 : Int))).length ≤ 1000000000 := by rw [List.length_replicate]; omega
      go_wp2_with (at_make; refine wpList_make_full _ rfl _ _ 25 rfl wo.heap.size 3 i0 (.int .i64 0) 1 Try.underlying25 hi hz0 hz1 .i64 .i64 _ _ 16 rfl rfl rfl rfl (by rw [hz2]; omega) (by unfold maxLen; omega) (Nat.le_refl _) ?_; intro w1 hown hgrow; refine Stop.on ?_)
      have HR : Hid (Own w1 wo.heap.size (.slice (some ⟨wo.heap.size, 0, none⟩) 16 16) (List.replicate 16 0)) := Lib.hid (by
        have := made_own (zs := List.replicate 16 (0 : Int)) (by simp) hown
        rw [copyTo_zero, List.length_replicate] at this
        exact this)
      have HM := Lib.hid (below_made hgrow)
      clear hown hgrow
      refine ⟨?_⟩
      go_wp2_with (at_builtin; refine wpList_appRow rfl _ _ rfl w1 wo _ _ _ _ _ _ rfl rfl rfl HO.out HM.out HR.out hzb hbl ?_; intro v' w5 hO hB5; refine Stop.on ?_)
      have HO5 : Hid (OwnSS w5 w.heap.size v' (List.replicate (k + 1) (List.replicate 16 (0 : Int)))) := Lib.hid (by rw [HS.out]; exact hO)
      have HB5 : Hid (Below w.heap.size w w5) := Lib.hid ((HB.out.trans (HM.out.mono hzb)).trans hB5)
      clear hO hB5
      refine ⟨?_⟩
      go_wp2
      exact ⟨⟨k + 1, by omega, by go_num, HO5, HB5⟩, by simp [intOf]; omega⟩
    · have hk16 : k = 16 := by omega
      subst hk16
      go_wp2
      go_ret
      exact ⟨_, rfl, by rw [← HZ.out]; exact HO.out, HB.out⟩

set_option maxRecDepth 20000 in
set_option maxHeartbeats 4000000 in
theorem heCounts_q (w : World) (N : Nat) (h1 : 1 ≤ N) (h15 : N ≤ 15) : Calls Try.prog 13 #[.int .i64 (N : Int)] w fun e w' => ∃ v, e = .returned v ∧ OwnSS w' w.heap.size v (Sn.gridL (Sn.T N)) ∧ Below w.heap.size w w' := by
  have HZ := Lib.hid (fun w2 => heZero_q w2)
  have HG1 := Lib.hid Sn.grid_one
  go_enter Try.func13, Try.ntmps13
  go_wp2_with fail
  go_at_call 21
  refine (HZ.out _).mono ?_
  rintro e w1 ⟨v1, rfl, O1, B1⟩
  obtain ⟨g, cap, G, C, rfl, hG⟩ := Grid.of O1
  have e1 := hG.row 1 (by omega)
  have e2 := hG.at' 1 1 (by omega) (by omega)
  have e3 := hG.free 1 1 (by omega)
  have HO1 : Hid (OwnSS (w1.setCell ⟨G 1, 1, none⟩ (.int .i64 1)) w.heap.size (.slice (some ⟨g, 0, none⟩) 16 cap) (Sn.gridL (Sn.T 1))) := Lib.hid (by rw [← HG1.out]; exact hG.set 1 1 1 (by omega))
  have HB1 : Hid (Below w.heap.size w (w1.setCell ⟨G 1, 1, none⟩ (.int .i64 1))) := Lib.hid (B1.setCell (p := ⟨G 1, 1, none⟩) (hG.low 1 (by omega)) _)
  obtain ⟨a1, ha1⟩ : ∃ a, a = G 1 := ⟨_, rfl⟩
  obtain ⟨k1, hk1⟩ : ∃ a, a = C 1 := ⟨_, rfl⟩
  rw [← ha1] at e1 e2 e3 HO1 HB1
  rw [← hk1] at e1
  clear O1 B1 hG ha1 hk1
  go_wp2
  go_loopw [4, 5] (fun v i wr => ∃ n : Nat, 2 ≤ n ∧ n ≤ N + 1 ∧ i = .int .i64 (n : Int) ∧ Hid (OwnSS wr w.heap.size v (Sn.gridL (Sn.T (n - 1)))) ∧ Hid (Below w.heap.size w wr)) (fun _ i _ => N + 1 - (intOf i).toNat)
  case atStart => exact ⟨2, Nat.le_refl _, by omega, rfl, HO1, HB1⟩
  case round =>
    obtain ⟨n, hn2, hnN, rfl, HO, HB⟩ := hrel
    obtain ⟨wo, rfl⟩ : ∃ wo : World, wo = wr := ⟨_, rfl⟩
    have hzb := HB.out.size
    by_cases hle : n ≤ N
    · have i1 : (n : Int) ≤ (N : Int) := by omega
      obtain ⟨gt, ct, Gt, Ct, hv, hGt⟩ := Grid.of HO.out
      subst hv
      have HGT := Lib.hid hGt
      clear hGt
      go_wp2_with fail
      go_at_call 21
      refine (HZ.out _).mono ?_
      rintro e w2 ⟨v2, rfl, O2, B2⟩
      obtain ⟨gn, cn, _, _, rfl, _⟩ := Grid.of O2
      have HO2 := Lib.hid O2
      have HB2 := Lib.hid B2
      have HST : Hid (OwnSS w2 wo.heap.size (.slice (some ⟨gn, 0, none⟩) 16 cn) (Sn.gridL (Sn.pg n 1 1))) := Lib.hid (by rw [Sn.pg_start]; exact O2)
      clear O2 B2
      go_wp2
      go_loopw [7] (fun i wr => ∃ l : Nat, 1 ≤ l ∧ l ≤ 16 ∧ i = .int .i64 (l : Int) ∧ Hid (OwnSS wr wo.heap.size (.slice (some ⟨gn, 0, none⟩) 16 cn) (Sn.gridL (Sn.pg n l 1))) ∧ Hid (Below wo.heap.size wo wr)) (fun i _ => 16 - (intOf i).toNat)
      case atStart => exact ⟨1, Nat.le_refl _, by omega, rfl, HST, HB2⟩
      case round =>
        obtain ⟨l, hl1, hl16, rfl, HO3, HB3⟩ := hrel
        obtain ⟨w3, rfl⟩ : ∃ w3 : World, w3 = wr := ⟨_, rfl⟩
        by_cases hl : l < 16
        · have i2 : (l : Int) < 16 := by omega
          go_wp2
          go_loopw [8] (fun i wr => ∃ r : Nat, 1 ≤ r ∧ r ≤ 16 ∧ i = .int .i64 (r : Int) ∧ Hid (OwnSS wr wo.heap.size (.slice (some ⟨gn, 0, none⟩) 16 cn) (Sn.gridL (Sn.pg n l r))) ∧ Hid (Below wo.heap.size wo wr)) (fun i _ => 16 - (intOf i).toNat)
          case atStart => exact ⟨1, Nat.le_refl _, by omega, rfl, HO3, HB3⟩
          case round =>
            obtain ⟨r, hr1, hr16, rfl, HO4, HB4⟩ := hrel
            obtain ⟨w4, rfl⟩ : ∃ w4 : World, w4 = wr := ⟨_, rfl⟩
            by_cases hr : r < 16
            · have i3 : (r : Int) < 16 := by omega
              have old : ∀ g2 j (x : Value), wo.cell? ⟨g2, j, none⟩ = some x → w4.cell? ⟨g2, j, none⟩ = some x := fun g2 j x hx => (HB4.out.cell (World.block_lt_of_cell? wo _ hx)).trans hx
              have a1 := old _ _ _ (HGT.out.row l hl)
              have a2 := old _ _ _ (HGT.out.at' l r hl hr)
              have a3 := old _ _ _ (HGT.out.row (l - 1) (by omega))
              have a4 := old _ _ _ (HGT.out.at' (l - 1) r (by omega) hr)
              have a5 := old _ _ _ (HGT.out.at' l (r - 1) hl (by omega))
              obtain ⟨L, hL⟩ : ∃ L, L = l - 1 := ⟨_, rfl⟩
              obtain ⟨R, hR⟩ : ∃ R, R = r - 1 := ⟨_, rfl⟩
              have HTN := Lib.hid (Sn.T_next n l r hn2 hl1 hr1)
              have hb1 := Sn.T_le (n - 1) l r (by omega)
              have hb2 := Sn.T_le (n - 1) L r (by omega)
              have hb3 := Sn.T_le (n - 1) l R (by omega)
              have hb4 := Sn.T_le n l r (by omega)
              rw [← hL] at a3 a4 HTN
              rw [← hR] at a5 HTN
              obtain ⟨x1, hx1⟩ : ∃ x, x = Sn.T (n - 1) l r := ⟨_, rfl⟩
              obtain ⟨x2, hx2⟩ : ∃ x, x = Sn.T (n - 1) L r := ⟨_, rfl⟩
              obtain ⟨x3, hx3⟩ : ∃ x, x = Sn.T (n - 1) l R := ⟨_, rfl⟩
              obtain ⟨x4, hx4⟩ : ∃ x, x = Sn.T n l r := ⟨_, rfl⟩
              rw [← hx1] at a2 HTN hb1
              rw [← hx2] at a4 HTN hb2
              rw [← hx3] at a5 HTN hb3
              rw [← hx4] at HTN hb4
              obtain ⟨m, hm⟩ : ∃ m, m = x1 * (n - 2) := ⟨_, rfl⟩
              have hmx : m + (x2 + x3) = x4 := by have := HTN.out; rw [hm, Nat.mul_comm]; omega
              have hmul : (x1 : Int) * ((n : Int) - 2) = (m : Int) := by rw [hm, show (n : Int) - 2 = ((n - 2 : Nat) : Int) by omega]; exact (Int.natCast_mul _ _).symm
              obtain ⟨gn2, cn2, Gn, Cn, hvn, hGn⟩ := Grid.of HO4.out
              injection hvn with hv1 hv2 hv3
              injection hv1 with hv1
              injection hv1 with hv1
              subst hv1 hv3
              have b1 := hGn.row l hl
              have b2 := hGn.at' l r hl hr
              have b3 := hGn.free l r hl
              have HSET : Hid (OwnSS (w4.setCell ⟨Gn l, r, none⟩ (.int .i64 ((x4 : Nat) : Int))) wo.heap.size (.slice (some ⟨gn, 0, none⟩) 16 cn) (Sn.gridL (Sn.pg n l (r + 1)))) := Lib.hid (by rw [← Sn.pg_step, ← hx4]; exact hGn.set l r x4 hl)
              have HBS : Hid (Below wo.heap.size wo (w4.setCell ⟨Gn l, r, none⟩ (.int .i64 ((x4 : Nat) : Int)))) := Lib.hid (HB4.out.setCell (p := ⟨Gn l, r, none⟩) (hGn.low l hl) _)
              obtain ⟨al, hal⟩ : ∃ a, a = Gt l := ⟨_, rfl⟩
              obtain ⟨aL, haL⟩ : ∃ a, a = Gt L := ⟨_, rfl⟩
              obtain ⟨bl, hbl⟩ : ∃ a, a = Gn l := ⟨_, rfl⟩
              obtain ⟨kl, hkl⟩ : ∃ a, a = Ct l := ⟨_, rfl⟩
              obtain ⟨kL, hkL⟩ : ∃ a, a = Ct L := ⟨_, rfl⟩
              obtain ⟨kb, hkb⟩ : ∃ a, a = Cn l := ⟨_, rfl⟩
              rw [← hal] at a1 a2 a5
              rw [← haL] at a3 a4
              rw [← hbl] at b1 b2 b3 HSET HBS
              rw [← hkl] at a1
              rw [← hkL] at a3
              rw [← hkb] at b1
              obtain ⟨y, hy⟩ : ∃ y : Int, y = ((Sn.pg n l r l r : Nat) : Int) := ⟨_, rfl⟩
              rw [← hy] at b2
              have eL : (l : Int) - 1 = (L : Int) := by omega
              have eR : (r : Int) - 1 = (R : Int) := by omega
              have hL16 : (L : Int) < 16 := by omega
              have hR16 : (R : Int) < 16 := by omega
              have w1' : IntKind.i64.wrap ((n : Int) - 2) = (n : Int) - 2 := IntWalk.i64_in _ (by omega)
              have w2' : IntKind.i64.wrap (m : Int) = (m : Int) := IntWalk.i64_in _ (by omega)
              have w3' : IntKind.i64.wrap ((x2 : Int) + (x3 : Int)) = (x2 : Int) + (x3 : Int) := IntWalk.i64_in _ (by omega)
              have w4' : IntKind.i64.wrap ((m : Int) + ((x2 : Int) + (x3 : Int))) = (x4 : Int) := by rw [IntWalk.i64_in _ (by omega)]; omega
              have w5' : (m : Int) + ((x2 : Int) + (x3 : Int)) = (x4 : Int) := by omega
              clear hL hR hx1 hx2 hx3 hx4 hm hGn old hal haL hbl hkl hkL hkb hy HTN
              have c1 := fun m => show (w4.drewN m).cell? ⟨gt, l, none⟩ = _ from a1
              have c3 := fun m => show (w4.drewN m).cell? ⟨gt, L, none⟩ = _ from a3
              have c4 := fun m => show (w4.drewN m).cell? ⟨aL, r, none⟩ = _ from a4
              have c5 := fun m => show (w4.drewN m).cell? ⟨al, R, none⟩ = _ from a5
              have d1 := fun m => show (w4.drewN m).cell? ⟨gn, l, none⟩ = _ from b1
              have d2 := fun m => show (w4.drewN m).cell? ⟨bl, r, none⟩ = _ from b2
              have d3 := fun m => show (w4.drewN m).frozen? ⟨bl, r, none⟩ = _ from b3
              have HSD : Hid (∀ m, OwnSS ((w4.drewN m).setCell ⟨bl, r, none⟩ (.int .i64 ((x4 : Nat) : Int))) wo.heap.size (.slice (some ⟨gn, 0, none⟩) 16 cn) (Sn.gridL (Sn.pg n l (r + 1)))) := Lib.hid (fun m => HSET.out.drewN m)
              have HBD : Hid (∀ m, Below wo.heap.size wo ((w4.drewN m).setCell ⟨bl, r, none⟩ (.int .i64 ((x4 : Nat) : Int)))) := Lib.hid (fun m => ⟨HBS.out.os, HBS.out.tape, HBS.out.output, HBS.out.size, HBS.out.block⟩)
              clear HSET HBS
              go_wp2_with fail
              go_quiet (fail)
              go_wp2
              exact ⟨⟨r + 1, by omega, by omega, by go_num, HSD.out _, HBD.out _⟩, by simp [intOf]; omega⟩
            · have hr2 : r = 16 := by omega
              subst hr2
              have HE : Hid (OwnSS w4 wo.heap.size (.slice (some ⟨gn, 0, none⟩) 16 cn) (Sn.gridL (Sn.pg n (l + 1) 1))) := Lib.hid (by rw [← Sn.pg_row]; exact HO4.out)
              go_wp2
              exact ⟨⟨l + 1, by omega, by omega, by go_num, HE, HB4⟩, by simp [intOf]; omega⟩
        · have hl2 : l = 16 := by omega
          subst hl2
          have HE : Hid (OwnSS w3 w.heap.size (.slice (some ⟨gn, 0, none⟩) 16 cn) (Sn.gridL (Sn.T n))) := Lib.hid (by rw [← Sn.pg_all]; exact HO3.out.mono hzb)
          go_wp2
          exact ⟨⟨n + 1, by omega, by omega, by go_num, HE, Lib.hid (HB.out.trans (HB3.out.mono hzb))⟩, by simp [intOf]; omega⟩
    · have HE : Hid (Sn.gridL (Sn.T (n - 1)) = Sn.gridL (Sn.T N)) := Lib.hid (by rw [show n - 1 = N by omega])
      have i1 : ¬ (n : Int) ≤ (N : Int) := by omega
      go_wp2
      go_ret
      exact ⟨_, rfl, by rw [← HE.out]; exact HO.out, HB.out⟩

end Go.Proofs.Ytkolkigpppfhcaa
