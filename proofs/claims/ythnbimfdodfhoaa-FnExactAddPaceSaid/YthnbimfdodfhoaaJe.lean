/- Chapter 5, the program: slices.Clone at paces; ShiftPaces. -/
import Derived.Test.YthnbimfdodfhoaaJa
import Derived.Test.YthnbimfdodfhoaaPi
import Derived.Test.YthnbimfdodfhoaaAgg
import Derived.StillTailTactics
namespace Go.Proofs.Ythnbimfdodfhoaa
open Go.ChangeShapes Go.WideShapes Go.ChangeAt Go.RowKit
open Pa

@[go_sem] theorem eql_nil_paces (a : Option Addr) (l c : Nat) (w : World) : (binOp .eql 25 (.slice a l c) (.slice none 0 0)).run Try.prog w = .ok (.bool a.isNone) w := by
  simp [binOp, run_equal_slice_nil w 25 _ a l c Try.underlying25]
set_option maxHeartbeats 1000000 in
theorem clonePaces_any (w : World) (b off len cap : Nat) (ps : List RPace) (hl : len ≤ 1000000000) (hc : CamePace w (some ⟨b, off, none⟩) len ps) :
    Calls Try.prog 57 #[.slice (some ⟨b, off, none⟩) len cap] w fun e w' => ∃ v, e = .returned v ∧ OwnPace w' w.heap.size v ps ∧ Below w.heap.size w w' := by
  have HB : Hid (Below w.heap.size w (w.alloc (.cells #[] 48))) := Lib.hid ((Below.refl _ _).alloc (Nat.le_refl _) _)
  have HS := Lib.hid (src_came (hc.below HB.out))
  have HL : Hid (ps.length = len) := Lib.hid hc.1
  clear hc
  go_enter Try.func57, Try.ntmps57
  go_wp2_with (at_builtin; refine wpList_appPace rfl _ _ rfl w.heap.size _ [] ps _ _ _ rfl rfl (ownPace_made w) HL.out HS.out HB.out.size (by simpa using hl) ?_; intro v' w' hO hB hG; have HO : Hid (OwnPace w' w.heap.size v' ps) := Lib.hid hO; have HB2 : Hid (Below w.heap.size w w') := Lib.hid (HB.out.trans hB); clear hO hB hG)
  go_ret
  exact ⟨_, rfl, HO.out, HB2.out⟩

namespace Pa
def sfTo (qs : List (Nat × Nat)) (T k : Nat) : List RPace := movTo qs T k ++ (asP qs).drop k
theorem sfTo_zero (qs : List (Nat × Nat)) (T : Nat) : sfTo qs T 0 = asP qs := by unfold sfTo movTo; simp
theorem sfTo_all (qs : List (Nat × Nat)) (T : Nat) : sfTo qs T qs.length = movL qs T := by
  unfold sfTo movL; rw [List.drop_of_length_le (by rw [length_asP]; exact Nat.le_refl _), List.append_nil]
theorem length_sfTo (qs : List (Nat × Nat)) (T k : Nat) (h : k ≤ qs.length) : (sfTo qs T k).length = qs.length := by
  unfold sfTo; rw [List.length_append, length_movTo, List.length_drop, length_asP]; omega
theorem getD_sfTo (qs : List (Nat × Nat)) (T k : Nat) (h : k < qs.length) : (sfTo qs T k).getD k zPace = (((qs.getD k (1, 0)).1 : Int), ((qs.getD k (1, 0)).2 : Int)) := by
  unfold sfTo
  rw [List.getD_eq_getElem?_getD, List.getElem?_append_right (by rw [length_movTo]; exact Nat.le_refl _), length_movTo, Nat.sub_self, List.getElem?_drop, Nat.add_zero, ← List.getD_eq_getElem?_getD, getD_asP qs k h]
theorem sfTo_succ (qs : List (Nat × Nat)) (T k : Nat) (h : k < qs.length) : (sfTo qs T k).set k (movOne T (qs.getD k (1, 0))) = sfTo qs T (k + 1) := by
  unfold sfTo
  rw [List.set_append_right _ _ (by rw [length_movTo]; exact Nat.le_refl _), length_movTo, Nat.sub_self, movTo_succ, List.append_assoc]
  congr 1
  rw [List.drop_eq_getElem_cons (by rw [length_asP]; exact h), List.set_cons_zero]
  rfl
end Pa
set_option maxHeartbeats 4000000 in
theorem implShiftPaces_any (w : World) (a : Option Addr) (len cap : Nat) (ps : List RPace) (t : Int) (_wt : (Lit.int .i64 t).wf = true) (hl : len ≤ 1048576) (hc : CamePace w a len ps) :
    Calls Try.prog 34 #[.slice a len cap, .int .i64 t] w fun e w' => ∃ v0, e = .returned (.tuple #[v0, .bool (outShiftPaces_1 ps t)]) ∧ OwnPace w' w.heap.size v0 (outShiftPaces_0 ps t) ∧ Below w.heap.size w w' := by
  have HG := Lib.hid (arePaces_any w a len cap ps hl hc)
  have HT := Lib.hid (fun w2 => isTime_any t w2)
  have HC0 := Lib.hid hc
  clear _wt hc
  rcases hb : goodP ps with _ | _
  · have H0 : Hid (outShiftPaces_0 ps t = [] ∧ outShiftPaces_1 ps t = false) := Lib.hid (by unfold outShiftPaces_0 outShiftPaces_1 timedB; rw [hb]; exact ⟨rfl, rfl⟩)
    rw [hb] at HG
    clear hb
    go_enter Try.func34, Try.ntmps34
    go_wp2_with (go_at_call 16; refine HG.out.mono ?_; rintro e w2 ⟨rfl, b2⟩; have B2 := Lib.hid b2; clear b2)
    go_ret2
    exact ⟨_, by rw [H0.out.2]; exact rfl, by rw [H0.out.1]; exact ownPace_nil _ _, B2.out⟩
  · rcases hb2 : inB t 0 1000000000 with _ | _
    · have H0 : Hid (outShiftPaces_0 ps t = [] ∧ outShiftPaces_1 ps t = false) := Lib.hid (by unfold outShiftPaces_0 outShiftPaces_1 timedB; rw [hb, hb2]; exact ⟨rfl, rfl⟩)
      rw [hb] at HG
      rw [hb2] at HT
      clear hb hb2
      go_enter Try.func34, Try.ntmps34
      go_wp2_with fail
      go_at_call 16
      refine HG.out.mono ?_
      rintro e w2 ⟨rfl, b2⟩
      have B2 := Lib.hid b2
      clear b2
      go_wp2_with (go_at_call 50; refine (HT.out _).mono ?_; rintro e w' ⟨rfl, rfl⟩)
      go_ret2
      exact ⟨_, by rw [H0.out.2]; exact rfl, by rw [H0.out.1]; exact ownPace_nil _ _, B2.out⟩
    · obtain ⟨ht0, ht1⟩ := inB_yes hb2
      obtain ⟨T, rfl⟩ : ∃ T : Nat, t = (T : Int) := ⟨t.toNat, by omega⟩
      obtain ⟨qs, rfl, hgq⟩ := good_nat hb
      have H0 : Hid (outShiftPaces_0 (asP qs) T = movL qs T ∧ outShiftPaces_1 (asP qs) T = true) := Lib.hid (by unfold outShiftPaces_0 outShiftPaces_1 timedB; rw [hb, hb2, toQ_asP]; exact ⟨rfl, rfl⟩)
      have hc2 := CameQ.of HC0.out
      have HZ : Hid (qs.length = len) := Lib.hid hc2.1
      have HC := Lib.hid hc2
      have HE := Lib.hid hgq
      have h6 : len ≤ 6 := by have := hgq.few; have := hc2.1; omega
      have hp0 : 0 < len := by have := hgq.pos; have := hc2.1; omega
      obtain ⟨b, off, rfl, _⟩ := hc2.2 hp0
      have HCL := Lib.hid (fun w2 (h : Below w.heap.size w w2) => clonePaces_any w2 b off len cap (asP qs) (by omega) (HC0.out.below h))
      rw [hb] at HG
      rw [hb2] at HT
      clear hb hb2 hgq hc2 HC0
      go_enter Try.func34, Try.ntmps34
      go_wp2_with fail
      go_at_call 16
      refine HG.out.mono ?_
      rintro e w2 ⟨rfl, b2⟩
      have B2 := Lib.hid b2
      have HCL2 := Lib.hid (HCL.out w2 b2)
      clear b2
      go_wp2_with fail
      go_at_call 50
      refine (HT.out _).mono ?_
      rintro e w' ⟨rfl, rfl⟩
      go_wp2_with fail
      go_at_call 57
      refine HCL2.out.mono ?_
      rintro e w3 ⟨v, rfl, o3, b3⟩
      have B3 : Hid (Below w.heap.size w w3) := Lib.hid (B2.out.trans (b3.mono B2.out.size))
      obtain ⟨g, cp, rfl, hg1, _⟩ := o3.point (by rw [length_asP, HZ.out]; exact hp0)
      rw [length_asP, HZ.out] at o3 ⊢
      have O3 : Hid (OwnPace w3 w.heap.size (.slice (some ⟨g, 0, none⟩) len cp) (sfTo qs T 0)) := Lib.hid (by rw [sfTo_zero]; exact o3.mono B2.out.size)
      have HGW : Hid (w.heap.size ≤ g) := Lib.hid (Nat.le_trans B2.out.size hg1)
      clear o3 b3 hg1
      go_wp2
      go_loopw [21] (fun i wr => ∃ k : Nat, k ≤ len ∧ i = .int .i64 (k : Int) ∧ Hid (OwnPace wr w.heap.size (.slice (some ⟨g, 0, none⟩) len cp) (sfTo qs T k)) ∧ Hid (Below w.heap.size w wr)) (fun i _ => len - (intOf i).toNat)
      case atStart => exact ⟨0, Nat.zero_le _, rfl, O3, B3⟩
      case round =>
        obtain ⟨k, hk, rfl, HO, HB⟩ := hrel
        by_cases hlt : k < len
        · obtain ⟨b', off', hbo, hcell⟩ := (HC.out.below HB.out).2 (by omega)
          cases hbo
          obtain ⟨e0, e1⟩ := hcell k hlt
          obtain ⟨hp1, hp2, hp3⟩ := HE.out.si k
          have HS := Lib.hid (sfTo_succ qs T k (by rw [HZ.out]; exact hlt))
          have HLN := Lib.hid (length_sfTo qs T k (by rw [HZ.out]; exact hk))
          have HGT := Lib.hid (getD_sfTo qs T k (by rw [HZ.out]; exact hlt))
          have HMV : Hid (movOne T (qs.getD k (1, 0)) = (((qs.getD k (1, 0)).1 : Int), ((((qs.getD k (1, 0)).2 + (qs.getD k (1, 0)).1 - T % (qs.getD k (1, 0)).1) % (qs.getD k (1, 0)).1 : Nat) : Int))) := Lib.hid rfl
          obtain ⟨x, hx⟩ : ∃ x, x = (qs.getD k (1, 0)).1 := ⟨_, rfl⟩
          obtain ⟨y, hy⟩ : ∃ x, x = (qs.getD k (1, 0)).2 := ⟨_, rfl⟩
          rw [← hx] at e0 hp1 hp2 hp3 HMV HGT
          rw [← hy] at e1 hp3 HMV HGT
          obtain ⟨m, hm⟩ : ∃ m, m = T % x := ⟨_, rfl⟩
          have hmx : m < x := by rw [hm]; exact Nat.mod_lt _ hp1
          have em : (T : Int) % (x : Int) = (m : Int) := by rw [hm]; simp
          rw [← hm] at HMV
          obtain ⟨z, hz0⟩ : ∃ z, z = (y + x - m) % x := ⟨_, rfl⟩
          have ez : ((y : Int) + (x : Int) - (m : Int)) % (x : Int) = (z : Int) := by rw [hz0, show (y : Int) + (x : Int) - (m : Int) = ((y + x - m : Nat) : Int) by omega]; simp
          rw [← hz0] at HMV
          have f1 := HO.out.free (by have := HLN.out; have := HZ.out; omega) (k * 2 + 1)
          have c1 := HO.out.cell1 (by have := HLN.out; have := HZ.out; omega) k (by have := HLN.out; have := HZ.out; omega)
          rw [HGT.out] at c1
          have hx0 : ¬ x = 0 := by omega
          have hx1 : ¬ (x : Int) = 0 := by omega
          have i1 : (0 : Int) ≤ (k : Int) := by omega
          have i2 : (k : Int) < (len : Int) := by omega
          obtain ⟨ws, hws⟩ : ∃ ws, ws = wr.alloc (.cells #[.int .i64 (x : Int), .int .i64 (y : Int)] 48) := ⟨_, rfl⟩
          have HBA : Hid (Below w.heap.size w ws) := Lib.hid (by rw [hws]; exact HB.out.alloc HB.out.size _)
          have HOA : Hid (OwnPace ws w.heap.size (.slice (some ⟨g, 0, none⟩) len cp) (sfTo qs T k)) := Lib.hid (by rw [hws]; exact ownPace_alloc HO.out _)
          have HBO : Hid (OwnPace (ws.setCell ⟨g, k * 2 + 1, none⟩ (.int .i64 (z : Int))) w.heap.size (.slice (some ⟨g, 0, none⟩) len cp) (sfTo qs T (k + 1))) := Lib.hid (by
            have h := HOA.out.set1 (by have := HLN.out; have := HZ.out; omega) k (by have := HLN.out; have := HZ.out; omega) (z : Int)
            rw [HGT.out, show ((((x : Nat) : Int), ((y : Nat) : Int)) : RPace).1 = ((x : Nat) : Int) from rfl, ← HMV.out, HS.out] at h
            exact h)
          have HBB : Hid (Below w.heap.size w (ws.setCell ⟨g, k * 2 + 1, none⟩ (.int .i64 (z : Int)))) := Lib.hid (HBA.out.setCell HGW.out _)
          have ec0 : ws.cell? ⟨wr.heap.size, 0, none⟩ = some (.int .i64 (x : Int)) := by rw [hws]; exact (pace_cells wr _ _).1
          have ec1 : ws.cell? ⟨wr.heap.size, 1, none⟩ = some (.int .i64 (y : Int)) := by rw [hws]; exact (pace_cells wr _ _).2
          have hgl : g ≠ wr.heap.size := by have := World.block_lt_of_cell? wr _ c1; simp only at this; omega
          have c2 := (show ws.cell? ⟨g, k * 2 + 1, none⟩ = some (.int .i64 (y : Int)) from by rw [hws]; exact (((Below.refl wr.heap.size wr).alloc (Nat.le_refl _) _).cell (World.block_lt_of_cell? wr _ c1)).trans c1)
          have f2 : ws.frozen? ⟨g, k * 2 + 1, none⟩ = false := HOA.out.free (by have := HLN.out; have := HZ.out; omega) (k * 2 + 1)
          have ZE : (IntKind.i64.wrap (IntKind.i64.wrap ((y : Int) + (x : Int)) - (T : Int).tmod (x : Int))).tmod (x : Int) = (z : Int) := by
            have t1 : (T : Int).tmod (x : Int) = (m : Int) := by rw [Int.tmod_eq_emod_of_nonneg (by omega)]; exact em
            have t2 : IntKind.i64.wrap ((y : Int) + (x : Int)) = (y : Int) + (x : Int) := by rw [IntKind.wrap_i64]; omega
            have t3 : IntKind.i64.wrap ((y : Int) + (x : Int) - (m : Int)) = (y : Int) + (x : Int) - (m : Int) := by rw [IntKind.wrap_i64]; omega
            rw [t1, t2, t3, Int.tmod_eq_emod_of_nonneg (by omega)]; exact ez
          have HZE := Lib.hid ZE
          clear hcell hx hy hm hz0 HO c1 f1 ZE
          go_wp2_with fail
          rw [← hws]
          clear hws
          go_still_tail 17, (by kernel_rfl)
          change wpList _ _ _ _ _ ws.drew
          rw [HZE.out]
          go_wp2
          go_roundw
          case rel => exact ⟨k + 1, by omega, by go_num, HBO, Lib.hid ⟨HBB.out.os, HBB.out.tape, HBB.out.output, HBB.out.size, HBB.out.block⟩⟩
          case measure => simp [intOf]; omega
        · have HF : Hid (sfTo qs T k = movL qs T) := Lib.hid (by rw [← sfTo_all, HZ.out, show k = len by omega])
          go_wp2
          go_ret2
          exact ⟨_, by rw [H0.out.2]; exact rfl, by rw [H0.out.1, ← HF.out]; exact HO.out, HB.out⟩

end Go.Proofs.Ythnbimfdodfhoaa
