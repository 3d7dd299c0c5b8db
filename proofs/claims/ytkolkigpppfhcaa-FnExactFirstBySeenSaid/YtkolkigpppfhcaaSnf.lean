/- Chapter 2, the program: ordersBySeen. -/
import Derived.Test.YtkolkigpppfhcaaSne
import Derived.RegionTactic
import Derived.BigRegion
namespace Go.Proofs.Ytkolkigpppfhcaa
open Go.ChangeShapes Go.WideShapes Go.ChangeAt Go.RowKit
open Go.ChangeMaps (setBlock)
open Sn

theorem cell_set2 {w : World} {b m g j : Nat} {o1 o2 : Obj} (h : g ≠ b) : (setBlock (setBlock (w.drewN m) b o1) b o2).cell? ⟨g, j, none⟩ = w.cell? ⟨g, j, none⟩ := by
  have e : (setBlock (setBlock (w.drewN m) b o1) b o2).heap[g]? = w.heap[g]? := by simp [setBlock, Ne.symm h]
  unfold World.cell?
  simp only [e]

theorem updF_le {f : Nat → Nat → Nat} {l r x B : Nat} (hf : ∀ a b, f a b ≤ B) (hx : x ≤ B) (a b : Nat) : updF f l r x a b ≤ B := by
  unfold updF
  split
  · exact hx
  · exact hf a b
theorem updF_add {f f' : Nat → Nat → Nat} {l r x c : Nat} (e : f' = updF f l r x) (hx : x = f l r + c) (a b : Nat) : f' a b = f a b + (if a = l ∧ b = r then c else 0) := by
  rw [e]
  unfold updF
  by_cases h : a = l ∧ b = r
  · rw [if_pos h, if_pos h, hx, h.1, h.2]
  · rw [if_neg h, if_neg h]; rfl

set_option maxRecDepth 20000 in
set_option maxHeartbeats 4000000 in
theorem ordersBySeen_p (w : World) (S : Nat) (h1 : 1 ≤ S) (h15 : S ≤ 15) :
    Calls Try.prog 15 #[.int .i64 (S : Int)] w fun e w' => ∃ b, e = .returned (.map (some b)) ∧ MapP w' b (3 ^ 14) S (T S) ∧ Below w.heap.size w w' := by
  have hmm := @run_makeMap Try.prog
  obtain ⟨D1, hD1, hR1⟩ := MapP.made w 1
  obtain ⟨wi, hins, howni, hgi⟩ := hD1.update lawS Try.underlying32 (by unfold maxLen; omega) (keyOf_mk (l := ((1 : Nat) : Int)) (r := ((1 : Nat) : Int)) (wfN (by omega)) (wfN (by omega))) (plainElem_int Try.underlying3 (show (Lit.int .i64 ((1 : Nat) : Int)).wf = true by decide))
  have HM1 : Hid (MapP wi w.heap.size (3 ^ (1 - 1)) 1 (T 1)) := Lib.hid ((show MapP wi w.heap.size 1 1 _ from ⟨_, howni, hR1.put hD1.isMap (Nat.le_refl _) (Nat.le_refl _) (Nat.le_refl _) (Nat.le_refl _) (Nat.le_refl _) (by omega)⟩).congr fun l r _ _ => by
    unfold updF
    rw [T])
  have HB1 : Hid (Below w.heap.size w wi) := Lib.hid (((Below.refl _ _).alloc (Nat.le_refl _) _).grown hgi (by simp) (fun k hk => by cases hk; exact Nat.le_refl _))
  have hins2 : (Instr.mapUpdate 32 (.map (some w.heap.size)) (.agg #[.int .i64 1, .int .i64 1]) (.int .i64 1)).run Try.prog (w.alloc (.map #[] 0)) = .ok () wi := hins
  clear hD1 hR1 hins howni hgi
  go_enter Try.func15, Try.ntmps15
  go_wp2
  clear hins2
  go_loopw [3, 4] (fun mv i wr => ∃ n b : Nat, 1 ≤ n ∧ n ≤ S ∧ i = .int .i64 (n : Int) ∧ mv = .map (some b) ∧ Hid (MapP wr b (3 ^ (n - 1)) n (T n)) ∧ Hid (Below w.heap.size w wr)) (fun _ i _ => S - (intOf i).toNat)
  case atStart => exact ⟨1, w.heap.size, Nat.le_refl _, h1, rfl, rfl, HM1, HB1⟩
  case round =>
    obtain ⟨n, b, hn1, hnS, rfl, rfl, HM, HB⟩ := hrel
    obtain ⟨wo, rfl⟩ : ∃ wo : World, wo = wr := ⟨_, rfl⟩
    have hzb := HB.out.size
    by_cases hlt : n < S
    · have i1 : (n : Int) < (S : Int) := by omega
      have hbl := HM.out.lt
      have HMA : Hid (MapP (wo.alloc (.map #[] 0)) b (3 ^ (n - 1)) n (T n)) := Lib.hid (HM.out.kept (World.grownBy_alloc wo _ none) (by simp))
      have HNA : Hid (MapP (wo.alloc (.map #[] 0)) wo.heap.size 0 (n + 1) (fun _ _ => 0)) := Lib.hid (MapP.made wo (n + 1))
      have HBA : Hid (Below w.heap.size w (wo.alloc (.map #[] 0))) := Lib.hid (HB.out.alloc hzb _)
      have hbb : b ≠ wo.heap.size := by omega
      have hgs : (wo.alloc (.map #[] 0)).heap.size = wo.heap.size + 1 := by simp
      obtain ⟨E, hE⟩ : ∃ E, E = 3 ^ (n - 1) := ⟨_, rfl⟩
      have hE2 : 3 * E = 3 ^ n := by rw [hE]; obtain ⟨q, rfl⟩ : ∃ q, n = q + 1 := ⟨n - 1, by omega⟩; rw [Nat.add_sub_cancel, Nat.pow_succ, Nat.mul_comm]
      have hE3 : E ≤ 4782969 := by rw [hE]; exact Nat.pow_le_pow_right (by decide) (by omega : n - 1 ≤ 14)
      have HE2 := Lib.hid hE2
      rw [← hE] at HMA
      clear hE hE2
      go_wp2_with (at_range; refine wpList_rangeP _ rfl _ rfl rfl HMA.out ?_; intro w1 left0 cnt0 hR hL hcN hG hsz)
      go_frame
      have hwl : w.heap.size ≤ (wo.alloc (.map #[] 0)).heap.size := HBA.out.size
      rw [hgs] at hR hwl
      have HR1 := Lib.hid hR
      have HN1 : Hid (MapP w1 wo.heap.size (3 * 0) (n + 1) (ps n left0)) := Lib.hid ((HNA.out.kept hG (by simp)).congr (fun l r hl hr => ps_start n left0 hL l r hl hr))
      have HB1 : Hid (Below w.heap.size w w1) := Lib.hid (HBA.out.grown hG (by omega) (fun k hk => by cases hk))
      rw [hgs]
      clear hR hL hG hsz hgs
      go_loopw [6, 7] (fun _ _ wr => ∃ (left : Lit → Bool) (cnt st : Nat), st + cnt ≤ E ∧ Hid (RngP wr b (wo.heap.size + 1) E n (T n) left cnt) ∧ Hid (MapP wr wo.heap.size (3 * st) (n + 1) (ps n left)) ∧ Hid (Below w.heap.size w wr)) (fun _ _ wr => wr.rangeLeft b (wo.heap.size + 1))
      case atStart => exact ⟨left0, cnt0, 0, by omega, HR1, HN1, HB1⟩
      case round =>
        obtain ⟨left, cnt, st, hst, HR, HN, HBr⟩ := hrel
        obtain ⟨w2, rfl⟩ : ∃ w2 : World, w2 = wr := ⟨_, rfl⟩
        have hz2 := HBr.out.size
        have hb2l := HN.out.lt
        go_wp2_with (first | (at_next; refine wpList_nextP _ rfl _ rfl (by omega) rfl HR.out ?_ ?_) | go_in)
        · intro hl0
          have HE : Hid (MapP w2 wo.heap.size (3 ^ (n + 1 - 1)) (n + 1) (T (n + 1))) := Lib.hid (by
            rw [Nat.add_sub_cancel, ← HE2.out]
            exact (HN.out.mono (by omega)).congr (fun l r _ _ => ps_end n hn1 left hl0 l r))
          clear hl0
          go_wp2
          exact ⟨⟨n + 1, wo.heap.size, by omega, by omega, by go_num, rfl, HE, HBr⟩, by simp [intOf]; omega⟩
        · intro l r w3 left3 cnt3 hl1 hln hr1 hrn hlx hR3 hL3 hlt3 hG3 hsz3 hen
          obtain ⟨c, hc⟩ : ∃ c, c = T n l r := ⟨_, rfl⟩
          rw [← hc] at hen ⊢
          have hcb : c ≤ 1307674368000 := by rw [hc]; exact T_le n l r (by omega)
          have HLE := Lib.hid HR.out.left_eq
          have HLT := Lib.hid hlt3
          have HN3 : Hid (MapP w3 wo.heap.size (3 * st) (n + 1) (ps n left)) := Lib.hid (HN.out.kept hG3 (by simp))
          have HZ3 := Lib.hid (show w3.heap.size = w2.heap.size from hsz3)
          have hz3 : w3.heap.size = w2.heap.size := hsz3
          have HB3 : Hid (Below w.heap.size w w3) := Lib.hid (HBr.out.grown hG3 (by omega) (fun k hk => by cases hk; omega))
          have HPS := Lib.hid (fun a bq ha hb => ps_step n left left3 l r hl1 (by omega) hr1 (by omega) hlx hL3.out a bq ha hb)
          have HR3 := Lib.hid hR3
          have HCC := Lib.hid hc
          have HRNE := Lib.hid hR3.ne
          have hbw3 : b < w3.heap.size := by omega
          -- the pair's own block
          obtain ⟨L, hL⟩ : ∃ L, L = l + 1 := ⟨_, rfl⟩
          obtain ⟨R, hRr⟩ : ∃ R, R = r + 1 := ⟨_, rfl⟩
          have eL : (l : Int) + 1 = (L : Int) := by omega
          have eR : (r : Int) + 1 = (R : Int) := by omega
          have HXM : Hid (MapP (w3.alloc (.cells #[.int .i64 (l : Int), .int .i64 (r : Int)] 35)) wo.heap.size (3 * st) (n + 1) (ps n left)) := Lib.hid (HN3.out.kept (World.grownBy_alloc w3 _ none) (by simp))
          have hst5 : st ≤ 4782969 := by omega
          obtain ⟨X, hX⟩ : ∃ X, X = w3.alloc (.cells #[.int .i64 (l : Int), .int .i64 (r : Int)] 35) := ⟨_, rfl⟩
          have z0 : X.drew.cell? ⟨w3.heap.size, 0, none⟩ = some (.int .i64 (l : Int)) := by
            rw [hX]
            show (w3.alloc _).cell? _ = _
            rw [World.cell?_alloc_new]; rfl
          have z1 : X.drew.cell? ⟨w3.heap.size, 1, none⟩ = some (.int .i64 (r : Int)) := by
            rw [hX]
            show (w3.alloc _).cell? _ = _
            rw [World.cell?_alloc_new]; rfl
          rw [← hX] at HXM
          rw [hz3] at z0 z1
          obtain ⟨va, sa, oa, ma, la, lb, ea⟩ := HXM.out.incr1 (by omega) L r (n + 1) (by omega) (by omega) hr1 (by omega) (Nat.le_refl _) (by omega)
          have hp1 := ps_le n left L r (by omega)
          obtain ⟨F1, hF1⟩ : ∃ F, F = ps n left L r := ⟨_, rfl⟩
          rw [← hF1] at la lb hp1
          obtain ⟨x1, hx1⟩ : ∃ x, x = F1 + c := ⟨_, rfl⟩
          obtain ⟨ob, ea1, ea2⟩ := ea x1 (by omega)
          have EA2 := Lib.hid ea2
          have q1 : (F1 : Int) + (c : Int) = (x1 : Int) := by omega
          have wr1 : IntKind.i64.wrap (x1 : Int) = (x1 : Int) := IntWalk.i64_in _ (by omega)
          have HX1 := Lib.hid hx1
          have HF1 := Lib.hid hF1
          have HL := Lib.hid hL
          have HRR := Lib.hid hRr
          clear ea ea2 hx1 hF1 hL hRr hc hR3 hL3 hlx hG3 hsz3 hlt3
          have HXX := Lib.hid hX
          go_wp2_with fail
          rw [← hX]
          clear hX
          go_region
          -- the pair with one more on the right
          obtain ⟨Y, hY⟩ : ∃ Y, Y = setBlock (setBlock X.drew wo.heap.size oa) wo.heap.size ob := ⟨_, rfl⟩
          rw [← hY]
          obtain ⟨f1, hf1⟩ : ∃ f, f = updF (ps n left) L r x1 := ⟨_, rfl⟩
          have HMY : Hid (MapP Y wo.heap.size (3 * st + 1) (n + 1) f1) := Lib.hid (by rw [hY, hf1]; exact EA2.out)
          have hf1b : f1 l R ≤ 20922789888000 + 1307674368000 := by
            rw [hf1]; exact updF_le (fun a b => Nat.le_trans (ps_le n left a b (by omega)) (by omega)) (by omega) _ _
          have y0 : Y.drew.cell? ⟨w2.heap.size, 0, none⟩ = some (.int .i64 (l : Int)) := by
            rw [hY]; exact (cell_set2 (m := 1) (by omega)).trans z0
          have y1 : Y.drew.cell? ⟨w2.heap.size, 1, none⟩ = some (.int .i64 (r : Int)) := by
            rw [hY]; exact (cell_set2 (m := 1) (by omega)).trans z1
          obtain ⟨vb, sb, oc, mb, lc, ld, eb⟩ := HMY.out.incr1 (by omega) l R (n + 1) hl1 (by omega) (by omega) (by omega) (Nat.le_refl _) (by omega)
          obtain ⟨F2, hF2⟩ : ∃ F, F = f1 l R := ⟨_, rfl⟩
          rw [← hF2] at lc ld hf1b
          obtain ⟨x2, hx2⟩ : ∃ x, x = F2 + c := ⟨_, rfl⟩
          obtain ⟨od, eb1, eb2⟩ := eb x2 (by omega)
          have EB2 := Lib.hid eb2
          have q2 : (F2 : Int) + (c : Int) = (x2 : Int) := by omega
          have wr2 : IntKind.i64.wrap (x2 : Int) = (x2 : Int) := IntWalk.i64_in _ (by omega)
          have HX2 := Lib.hid hx2
          have HF2 := Lib.hid hF2
          have HYY := Lib.hid hY
          have Hf1 := Lib.hid hf1
          clear eb eb2 hx2 hF2 hY hf1 z0 z1 ma la lb ea1
          go_wp2_with fail
          go_region
          -- the pair itself
          obtain ⟨Z, hZ⟩ : ∃ Z, Z = setBlock (setBlock Y.drew wo.heap.size oc) wo.heap.size od := ⟨_, rfl⟩
          rw [← hZ]
          obtain ⟨f2, hf2⟩ : ∃ f, f = updF f1 l R x2 := ⟨_, rfl⟩
          have HMZ : Hid (MapP Z wo.heap.size (3 * st + 1 + 1) (n + 1) f2) := Lib.hid (by rw [hZ, hf2]; exact EB2.out)
          have hf2b : f2 l r ≤ 20922789888000 + 1307674368000 + 1307674368000 := by
            rw [hf2]; refine updF_le (fun a b => ?_) (by omega) _ _
            rw [Hf1.out]; exact Nat.le_trans (updF_le (fun a b => Nat.le_trans (ps_le n left a b (by omega)) (by omega)) (by omega : x1 ≤ 20922789888000 + 1307674368000) _ _) (by omega)
          have v0 : Z.drew.cell? ⟨w2.heap.size, 0, none⟩ = some (.int .i64 (l : Int)) := by
            rw [hZ]; exact (cell_set2 (m := 1) (by omega)).trans y0
          have v1 : Z.drew.cell? ⟨w2.heap.size, 1, none⟩ = some (.int .i64 (r : Int)) := by
            rw [hZ]; exact (cell_set2 (m := 1) (by omega)).trans y1
          obtain ⟨vc, sc, oe, mc, le1, lf, ec⟩ := HMZ.out.incr1 (by omega) l r (n + 1) hl1 (by omega) hr1 (by omega) (Nat.le_refl _) (by omega)
          obtain ⟨F3, hF3⟩ : ∃ F, F = f2 l r := ⟨_, rfl⟩
          rw [← hF3] at le1 lf hf2b
          obtain ⟨k, hk⟩ : ∃ k, k = n - 1 := ⟨_, rfl⟩
          obtain ⟨p, hp⟩ : ∃ p, p = c * k := ⟨_, rfl⟩
          have hpb : p ≤ 1307674368000 * 14 := by rw [hp]; exact Nat.mul_le_mul hcb (by omega)
          obtain ⟨x3, hx3⟩ : ∃ x, x = F3 + p := ⟨_, rfl⟩
          obtain ⟨og, ec1, ec2⟩ := ec x3 (by omega)
          have EC2 := Lib.hid ec2
          have qk : (n : Int) - 1 = (k : Int) := by omega
          have wrk : IntKind.i64.wrap (k : Int) = (k : Int) := IntWalk.i64_in _ (by omega)
          have qp : (c : Int) * (k : Int) = (p : Int) := by rw [hp]; exact (Int.natCast_mul c k).symm
          have wrp : IntKind.i64.wrap (p : Int) = (p : Int) := IntWalk.i64_in _ (by omega)
          have q3 : (F3 : Int) + (p : Int) = (x3 : Int) := by omega
          have wr3 : IntKind.i64.wrap (x3 : Int) = (x3 : Int) := IntWalk.i64_in _ (by omega)
          have HX3 := Lib.hid hx3
          have HF3 := Lib.hid hF3
          have HP := Lib.hid hp
          have HK := Lib.hid hk
          have HZZ := Lib.hid hZ
          have Hf2 := Lib.hid hf2
          clear ec ec2 hx3 hF3 hZ hf2 hp hk y0 y1 mb lc ld eb1
          go_wp2_with fail
          go_region
          obtain ⟨V, hV⟩ : ∃ V, V = setBlock (setBlock Z.drew wo.heap.size oe) wo.heap.size og := ⟨_, rfl⟩
          rw [← hV]
          obtain ⟨f3, hf3⟩ : ∃ f, f = updF f2 l r x3 := ⟨_, rfl⟩
          have HV : Hid (RngP V b (wo.heap.size + 1) E n (T n) left3 cnt3 ∧ MapP V wo.heap.size (3 * (st + 1)) (n + 1) (ps n left3) ∧ Below w.heap.size w V) := Lib.hid (by
            have g1 : w3.grownBy X none := by rw [HXX.out]; exact World.grownBy_alloc w3 _ none
            have g2 : X.grownBy Y (some wo.heap.size) := by rw [HYY.out]; exact set2_grown X _ 1 _ _
            have g3 : Y.grownBy Z (some wo.heap.size) := by rw [HZZ.out]; exact set2_grown Y _ 1 _ _
            have g4 : Z.grownBy V (some wo.heap.size) := by rw [hV]; exact set2_grown Z _ 1 _ _
            have nb : some b ≠ some wo.heap.size := fun e => hbb (Option.some.inj e)
            have ng : some (wo.heap.size + 1) ≠ some wo.heap.size := fun e => by have := Option.some.inj e; omega
            refine ⟨((((HR3.out.kept g1 (by simp) (by simp)).kept g2 nb ng).kept g3 nb ng).kept g4 nb ng), ?_, ?_⟩
            · have hm : MapP V wo.heap.size (3 * st + 1 + 1 + 1) (n + 1) f3 := by rw [hV, hf3]; exact EC2.out
              refine (hm.mono (by omega)).congr fun a bq ha hb => ?_
              have a1 := updF_add Hf1.out (c := c) (by rw [HX1.out, HF1.out]) a bq
              have a2 := updF_add Hf2.out (c := c) (by rw [HX2.out, HF2.out]) a bq
              have a3 := updF_add hf3 (c := p) (by rw [HX3.out, HF3.out]) a bq
              rw [HPS.out a bq ha hb, a3, a2, a1, ← HCC.out, HP.out, HK.out, HL.out, HRR.out]
              omega
            · have z0 : w.heap.size ≤ w3.heap.size := HB3.out.size
              have z1 := g1.size
              have z2 := g2.size
              have z3 := g3.size
              exact (((HB3.out.grown g1 z0 (fun k hk => by cases hk)).grown g2 (by omega) (fun k hk => by cases hk; omega)).grown g3 (by omega) (fun k hk => by cases hk; omega)).grown g4 (by omega) (fun k hk => by cases hk; omega))
          have HVL : V.rangeLeft b (wo.heap.size + 1) = cnt3 := HV.out.1.left_eq
          have HLT2 := HLT.out
          have HLE2 := HLE.out
          clear hV hf3
          go_wp2_with fail
          trace_state
          exact ⟨⟨left3, cnt3, st + 1, by omega, Lib.hid HV.out.1, Lib.hid HV.out.2.1, Lib.hid HV.out.2.2⟩, by rw [HVL, HLE2]; exact HLT2⟩
    · obtain rfl : n = S := by omega
      have HE : Hid (MapP wo b (3 ^ 14) n (T n)) := Lib.hid (HM.out.mono (Nat.pow_le_pow_right (by decide) (by omega)))
      go_wp2
      go_ret
      exact ⟨_, rfl, HE.out, HB.out⟩

end Go.Proofs.Ytkolkigpppfhcaa
