/- Chapter 5: the model's ShiftPaces. -/
import Derived.Test.YthnbimfdodfhoaaPa
import Derived.Test.YthnbimfdodfhoaaAppP
namespace Go.Proofs.Ythnbimfdodfhoaa
open Go.ChangeShapes Go.WideShapes Go.ChangeAt Go.RowKit
open Pa

namespace Pa
theorem GoodQ.si {qs : List (Nat × Nat)} (h : GoodQ qs) (k : Nat) : 1 ≤ (qs.getD k (1, 0)).1 ∧ (qs.getD k (1, 0)).1 ≤ 60 ∧ (qs.getD k (1, 0)).2 < (qs.getD k (1, 0)).1 := by
  by_cases hk : k < qs.length
  · exact h.each k hk
  · simp only [List.getD_eq_getElem?_getD, List.getElem?_eq_none (by omega : qs.length ≤ k), Option.getD_none]; omega
/-- one's pace by that many times later -/
def movOne (T : Nat) (q : Nat × Nat) : RPace := ((q.1 : Int), (((q.2 + q.1 - T % q.1) % q.1 : Nat) : Int))
def movTo (qs : List (Nat × Nat)) (T k : Nat) : List RPace := (List.range k).map fun i => movOne T (qs.getD i (1, 0))
theorem movTo_succ (qs : List (Nat × Nat)) (T k : Nat) : movTo qs T (k + 1) = movTo qs T k ++ [movOne T (qs.getD k (1, 0))] := by unfold movTo; rw [List.range_succ, List.map_append]; rfl
theorem length_movTo (qs : List (Nat × Nat)) (T k : Nat) : (movTo qs T k).length = k := by simp [movTo]
def movL (qs : List (Nat × Nat)) (T : Nat) : List RPace := movTo qs T qs.length
def timedB (ps : List RPace) (t : Int) : Bool := goodP ps && inB t 0 1000000000
end Pa
def outShiftPaces_0 (ps : List RPace) (t : Int) : List RPace := if timedB ps t then movL (toQ ps) t.toNat else []
def outShiftPaces_1 (ps : List RPace) (t : Int) : Bool := timedB ps t
theorem lenShiftPaces_0 (ps : List RPace) (t : Int) : (outShiftPaces_0 ps t).length ≤ 1048576 := by
  unfold outShiftPaces_0
  split
  · rename_i h
    unfold timedB at h
    rw [Bool.and_eq_true] at h
    have := good_len h.1
    unfold movL
    rw [length_movTo, toQ_len]
    omega
  · simp

set_option maxHeartbeats 4000000 in
theorem specShiftPaces_any (w : World) (a : Option Addr) (len cap : Nat) (ps : List RPace) (t : Int) (_wt : (Lit.int .i64 t).wf = true) (hl : len ≤ 1048576) (hc : CamePace w a len ps) :
    Calls Try.prog 33 #[.slice a len cap, .int .i64 t] w fun e w' => ∃ v0, e = .returned (.tuple #[v0, .bool (outShiftPaces_1 ps t)]) ∧ OwnPace w' w.heap.size v0 (outShiftPaces_0 ps t) ∧ Below w.heap.size w w' := by
  have HG := Lib.hid (spGood_any w a len cap ps hl hc)
  have HT := Lib.hid (fun w2 => spTime_any t w2)
  have HC0 := Lib.hid hc
  clear _wt hc
  rcases hb : goodP ps with _ | _
  · have H0 : Hid (outShiftPaces_0 ps t = [] ∧ outShiftPaces_1 ps t = false) := Lib.hid (by unfold outShiftPaces_0 outShiftPaces_1 timedB; rw [hb]; exact ⟨rfl, rfl⟩)
    rw [hb] at HG
    clear hb
    go_enter Try.func33, Try.ntmps33
    go_wp2_with (go_at_call 45; refine HG.out.mono ?_; rintro e w2 ⟨rfl, b2⟩; have B2 := Lib.hid b2; clear b2)
    go_ret2
    exact ⟨_, by rw [H0.out.2]; exact rfl, by rw [H0.out.1]; exact ownPace_nil _ _, B2.out⟩
  · rcases hb2 : inB t 0 1000000000 with _ | _
    · have H0 : Hid (outShiftPaces_0 ps t = [] ∧ outShiftPaces_1 ps t = false) := Lib.hid (by unfold outShiftPaces_0 outShiftPaces_1 timedB; rw [hb, hb2]; exact ⟨rfl, rfl⟩)
      rw [hb] at HG
      rw [hb2] at HT
      clear hb hb2
      go_enter Try.func33, Try.ntmps33
      go_wp2_with fail
      go_at_call 45
      refine HG.out.mono ?_
      rintro e w2 ⟨rfl, b2⟩
      have B2 := Lib.hid b2
      clear b2
      go_wp2_with (go_at_call 48; refine (HT.out _).mono ?_; rintro e w' ⟨rfl, rfl⟩)
      go_ret2
      exact ⟨_, by rw [H0.out.2]; exact rfl, by rw [H0.out.1]; exact ownPace_nil _ _, B2.out⟩
    · obtain ⟨ht0, ht1⟩ := inB_yes hb2
      obtain ⟨T, rfl⟩ : ∃ T : Nat, t = (T : Int) := ⟨t.toNat, by omega⟩
      obtain ⟨qs, rfl, hgq⟩ := good_nat hb
      have H0 : Hid (outShiftPaces_0 (asP qs) T = movL qs T ∧ outShiftPaces_1 (asP qs) T = true) := Lib.hid (by unfold outShiftPaces_0 outShiftPaces_1 timedB; rw [hb, hb2, toQ_asP]; exact ⟨rfl, rfl⟩)
      have hc2 := CameQ.of HC0.out
      have HZ : Hid (qs.length = len) := Lib.hid hc2.1
      have HC := Lib.hid hc2
      have HE := Lib.hid hgq
      have h6 : len ≤ 6 := by have := hgq.few; have := hc2.1; omega
      rw [hb] at HG
      rw [hb2] at HT
      clear hb hb2 hgq hc2 HC0
      go_enter Try.func33, Try.ntmps33
      go_wp2_with fail
      go_at_call 45
      refine HG.out.mono ?_
      rintro e w2 ⟨rfl, b2⟩
      have B2 := Lib.hid b2
      clear b2
      go_wp2_with (go_at_call 48; refine (HT.out _).mono ?_; rintro e w' ⟨rfl, rfl⟩)
      go_loopw [6, 19] (fun v i wr => ∃ k : Nat, k ≤ len ∧ i = .int .i64 (k : Int) ∧ Hid (OwnPace wr w.heap.size v (movTo qs T k)) ∧ Hid (Below w.heap.size w wr)) (fun _ i _ => len - (intOf i).toNat)
      case atStart => exact ⟨0, Nat.zero_le _, rfl, Lib.hid (ownPace_nil _ _), B2⟩
      case round =>
        obtain ⟨k, hk, rfl, HO, HB⟩ := hrel
        by_cases hlt : k < len
        · obtain ⟨b, off, rfl, hcell⟩ := (HC.out.below HB.out).2 (by omega)
          obtain ⟨e0, e1⟩ := hcell k hlt
          obtain ⟨hp1, hp2, hp3⟩ := HE.out.si k
          have HS : Hid (movTo qs T (k + 1) = movTo qs T k ++ [(((qs.getD k (1, 0)).1 : Int), ((((qs.getD k (1, 0)).2 + (qs.getD k (1, 0)).1 - T % (qs.getD k (1, 0)).1) % (qs.getD k (1, 0)).1 : Nat) : Int))]) := Lib.hid (movTo_succ qs T k)
          obtain ⟨x, hx⟩ : ∃ x, x = (qs.getD k (1, 0)).1 := ⟨_, rfl⟩
          obtain ⟨y, hy⟩ : ∃ x, x = (qs.getD k (1, 0)).2 := ⟨_, rfl⟩
          rw [← hx] at e0 hp1 hp2 hp3 HS
          rw [← hy] at e1 hp3 HS
          obtain ⟨m, hm⟩ : ∃ m, m = T % x := ⟨_, rfl⟩
          have hmx : m < x := by rw [hm]; exact Nat.mod_lt _ hp1
          have em : (T : Int) % (x : Int) = (m : Int) := by rw [hm]; simp
          rw [← hm] at HS
          obtain ⟨z, hz0⟩ : ∃ z, z = (y + x - m) % x := ⟨_, rfl⟩
          have ez : ((y : Int) - (m : Int) + (x : Int)) % (x : Int) = (z : Int) := by rw [hz0, show (y : Int) - (m : Int) + (x : Int) = ((y + x - m : Nat) : Int) by omega]; simp
          rw [← hz0] at HS
          have ew1 : IntKind.i64.wrap ((y : Int) - (m : Int)) = (y : Int) - (m : Int) := by rw [IntKind.wrap_i64]; omega
          have ew2 : IntKind.i64.wrap ((y : Int) - (m : Int) + (x : Int)) = (y : Int) - (m : Int) + (x : Int) := by rw [IntKind.wrap_i64]; omega
          have hx0 : ¬ x = 0 := by omega
          have hx1 : ¬ (x : Int) = 0 := by omega
          have i1 : (0 : Int) ≤ (k : Int) := by omega
          have i2 : (k : Int) < (len : Int) := by omega
          have HBA : Hid (Below w.heap.size w (wr.alloc (.cells #[.int .i64 (x : Int), .int .i64 (y : Int)] 48))) := Lib.hid (HB.out.alloc HB.out.size _)
          have HOA : Hid (OwnPace (wr.alloc (.cells #[.int .i64 (x : Int), .int .i64 (y : Int)] 48)) w.heap.size _ (movTo qs T k)) := Lib.hid (ownPace_alloc HO.out _)
          have HEC0 : Hid ((wr.alloc (.cells #[.int .i64 (x : Int), .int .i64 (y : Int)] 48)).cell? ⟨wr.heap.size, 0, none⟩ = some (.int .i64 (x : Int))) := Lib.hid (by rw [World.cell?_alloc_new]; rfl)
          have HEC1 : Hid ((wr.alloc (.cells #[.int .i64 (x : Int), .int .i64 (y : Int)] 48)).cell? ⟨wr.heap.size, 1, none⟩ = some (.int .i64 (y : Int))) := Lib.hid (by rw [World.cell?_alloc_new]; rfl)
          have hbl : (movTo qs T k).length + 1 ≤ 1000000000 := by rw [length_movTo]; omega
          have HNV : Hid (∀ u, OwnPace wr w.heap.size u (movTo qs T k) → some wr.heap.size ≠ u.ownBlock) := Lib.hid (fun u h e => by have := (World.ownsRow.lt h wr.heap.size e.symm).2; omega)
          have HNV2 := Lib.hid (HNV.out _ HO.out)
          clear hcell hx hy hm hz0 HO HNV
          go_wp2_with fail
          obtain ⟨ws, hws⟩ : ∃ ws, ws = wr.alloc (.cells #[.int .i64 (x : Int), .int .i64 (y : Int)] 48) := ⟨_, rfl⟩
          rw [← hws] at HBA HOA HEC0 HEC1 ⊢
          obtain ⟨g, hg⟩ : ∃ g, g = wr.heap.size := ⟨_, rfl⟩
          rw [← hg] at HEC0 HEC1 HNV2 ⊢
          have hz := HBA.out.size
          clear hws hg
          have HKB : Hid (∀ (o : Obj) (w5 : World), (ws.alloc o).drew.grownBy w5 _ → w5.cell? ⟨g, 0, none⟩ = some (.int .i64 (x : Int)) ∧ w5.cell? ⟨g, 1, none⟩ = some (.int .i64 (y : Int))) := Lib.hid (fun o w5 h5 => by
            have hgl := World.block_lt_of_cell? ws _ HEC0.out
            have hb := h5.block g (show g < (ws.alloc o).heap.size by rw [alloc_size1]; exact Nat.lt_succ_of_lt hgl) HNV2.out
            have hb2 : w5.heap[g]? = ws.heap[g]? := hb.trans (heap_alloc_old ws _ hgl)
            exact ⟨(World.cell?_of_block hb2).trans HEC0.out, (World.cell?_of_block hb2).trans HEC1.out⟩)
          have ZE : (IntKind.i64.wrap (IntKind.i64.wrap ((y : Int) - (T : Int).tmod (x : Int)) + (x : Int))).tmod (x : Int) = (z : Int) := by
            have t1 : (T : Int).tmod (x : Int) = (m : Int) := by rw [Int.tmod_eq_emod_of_nonneg (by omega)]; exact em
            rw [t1, ew1, ew2, Int.tmod_eq_emod_of_nonneg (by omega)]; exact ez
          have HZE := Lib.hid ZE
          clear ZE
          have ec0 := HEC0.out
          have ec1 := HEC1.out
          go_region_held_law (fun w' => w'.cell? ⟨g, 0, none⟩ = some (.int .i64 (x : Int)) ∧ w'.cell? ⟨g, 1, none⟩ = some (.int .i64 (y : Int))) (first | go_keep | exact HKB.out _ _ hG5)
            ((refine step_appPace rfl _ _ rfl w.heap.size _ _ [((x : Int), _)] _ _ _ rfl rfl (show OwnPace (ws.alloc _) _ _ _ from ownPace_alloc HOA.out _) rfl (src_one (w := ws) (x : Int) _ rfl) (show w.heap.size ≤ (ws.alloc _).heap.size by rw [alloc_size1]; exact Nat.le_succ_of_le hz) hbl ?_; intro v' w5 hO hB5 hG5))
          have HO5 : Hid (OwnPace w5 w.heap.size v' (movTo qs T (k + 1))) := Lib.hid (by rw [HS.out, ← HZE.out]; exact hO)
          have HB5 : Hid (Below w.heap.size w w5) := Lib.hid ((HBA.out.alloc hz _).trans ⟨hB5.os, hB5.tape, hB5.output, hB5.size, hB5.block⟩)
          clear hO hB5 hG5
          go_wp2
          go_roundw
          case rel => exact ⟨k + 1, by omega, by go_num, HO5, HB5⟩
          case measure => simp [intOf]; omega
        · have HF : Hid (movTo qs T k = movL qs T) := Lib.hid (by unfold movL; rw [HZ.out, show k = len by omega])
          go_wp2
          go_ret2
          exact ⟨_, by rw [H0.out.2]; exact rfl, by rw [H0.out.1, ← HF.out]; exact HO.out, HB.out⟩

end Go.Proofs.Ythnbimfdodfhoaa
