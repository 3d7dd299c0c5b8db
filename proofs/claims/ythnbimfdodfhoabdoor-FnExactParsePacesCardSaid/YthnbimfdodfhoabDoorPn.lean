/- Chapter 5: the model's spParse, ParsePaces. -/
import Derived.Test.YthnbimfdodfhoabDoorPa
import Derived.Test.YthnbimfdodfhoabDoorAppP
import Derived.Test.YthnbimfdodfhoabDoorSplit
namespace Go.Proofs.YthnbimfdodfhoabDoor
open Go.ChangeShapes Go.WideShapes Go.ChangeAt Go.RowKit
open Pa Rd

namespace Rd
theorem cutTo_size (s : ByteArray) (b : Nat) : ∀ k, ∀ z ∈ (cutTo s b k).1, z.size ≤ s.size
  | 0, z, h => by cases h
  | k + 1, z, h => by
    rw [cutTo] at h
    split at h
    · rcases List.mem_append.1 h with h | h
      · exact cutTo_size s b k z h
      · rw [List.mem_singleton.1 h, ByteArray.size_extract]; omega
    · exact cutTo_size s b k z h
theorem cutL_size (s : ByteArray) (b : Nat) : ∀ z ∈ cutL s b, z.size ≤ s.size := by
  intro z h
  unfold cutL at h
  rcases List.mem_append.1 h with h | h
  · exact cutTo_size s b _ z h
  · rw [List.mem_singleton.1 h, ByteArray.size_extract]; omega
theorem cutL_getD (s : ByteArray) (b k : Nat) : ((cutL s b).getD k ByteArray.empty).size ≤ s.size := by
  by_cases h : k < (cutL s b).length
  · rw [List.getD_eq_getElem?_getD, List.getElem?_eq_getElem h]
    exact cutL_size s b _ (List.getElem_mem h)
  · rw [List.getD_eq_getElem?_getD, List.getElem?_eq_none (by omega)]; exact Nat.zero_le _
end Rd
namespace Pa
def okP (t : ByteArray) : Bool := decide ((cutL t 43).length = 2)
def paceP (t : ByteArray) : RPace := (readZ ((cutL t 43).getD 0 ByteArray.empty), readZ ((cutL t 43).getD 1 ByteArray.empty))
def partsL (s : ByteArray) : List ByteArray := cutL s 44
def partTo (s : ByteArray) (k : Nat) : List RPace := (List.range k).map fun i => paceP ((partsL s).getD i ByteArray.empty)
def readL (s : ByteArray) : List RPace := partTo s (partsL s).length
def textB (s : ByteArray) : Bool := decide (s.size ≤ 40) && ((List.range (partsL s).length).all (fun i => okP ((partsL s).getD i ByteArray.empty)) && goodP (readL s))
theorem partTo_succ (s : ByteArray) (k : Nat) : partTo s (k + 1) = partTo s k ++ [paceP ((partsL s).getD k ByteArray.empty)] := by unfold partTo; rw [List.range_succ, List.map_append]; rfl
theorem length_partTo (s : ByteArray) (k : Nat) : (partTo s k).length = k := by simp [partTo]
end Pa
def outParsePaces_0 (s : ByteArray) : List RPace := if textB s then readL s else []
def outParsePaces_1 (s : ByteArray) : Bool := textB s
theorem lenParsePaces_0 (s : ByteArray) : (outParsePaces_0 s).length ≤ 1048576 := by
  unfold outParsePaces_0
  split
  · rename_i h
    unfold textB at h
    simp only [Bool.and_eq_true] at h
    have := good_len h.2.2
    omega
  · simp

set_option maxRecDepth 20000 in
set_option maxHeartbeats 1000000 in
theorem spParse_any (w : World) (s : ByteArray) (hls : s.size ≤ 1048576) :
    Calls Tryd.prog 29 #[.string s] w fun e w' => ∃ v0, e = .returned (.tuple #[v0, .bool (outParsePaces_1 s)]) ∧ OwnPace w' w.heap.size v0 (outParsePaces_0 s) ∧ Below w.heap.size w w' := by
  by_cases h40 : s.size ≤ 40
  · have h40i : ¬ (40 : Int) < (s.size : Int) := by omega
    have HSP := Lib.hid (l1Split_any s 44 (by omega) w hls)
    have HSZ := Lib.hid (fun k => Nat.le_trans (cutL_getD s 44 k) h40)
    have HML : Hid ((partsL s).length ≤ 41) := Lib.hid (by have := cutL_len s 44; unfold partsL; omega)
    have HTB : Hid (textB s = ((List.range (partsL s).length).all (fun i => okP ((partsL s).getD i ByteArray.empty)) && goodP (readL s))) := Lib.hid (by unfold textB; rw [decide_eq_true h40, Bool.true_and])
    have H0 : Hid (textB s = false → outParsePaces_0 s = [] ∧ outParsePaces_1 s = false) := Lib.hid (fun h => by unfold outParsePaces_0 outParsePaces_1; rw [h]; exact ⟨rfl, rfl⟩)
    have H1 : Hid (textB s = true → outParsePaces_0 s = readL s ∧ outParsePaces_1 s = true) := Lib.hid (fun h => by unfold outParsePaces_0 outParsePaces_1; rw [h]; exact ⟨rfl, rfl⟩)
    go_enter Tryd.func29, Tryd.ntmps29
    go_wp2_with fail
    go_at_call 44
    refine HSP.out.mono ?_
    rintro e w1 ⟨v, rfl, o1, b1⟩
    have B1 := Lib.hid b1
    obtain ⟨ao, cp, rfl, hrd⟩ := o1.read
    have HRD := Lib.hid hrd
    obtain ⟨m, hm⟩ : ∃ m, m = (partsL s).length := ⟨_, rfl⟩
    have HM := Lib.hid hm
    have hm41 : m ≤ 41 := by rw [hm]; exact HML.out
    rw [show (cutL s 44).length = m from hm.symm]
    clear hrd o1 b1 hm
    go_wp2
    go_loopw [4, 14] (fun v i wr => ∃ k : Nat, k ≤ m ∧ i = .int .i64 (k : Int) ∧ Hid (OwnPace wr w1.heap.size v (partTo s k)) ∧ Hid (∀ j, j < k → okP ((partsL s).getD j ByteArray.empty) = true) ∧ Hid (Below w1.heap.size w1 wr)) (fun _ i _ => m - (intOf i).toNat)
    case atStart => exact ⟨0, Nat.zero_le _, rfl, Lib.hid (ownPace_nil _ _), Lib.hid (fun j h => absurd h (Nat.not_lt_zero _)), Lib.hid (Below.refl _ _)⟩
    case round =>
      obtain ⟨k, hk, rfl, HO, HOK, HB⟩ := hrel
      have hz1 := HB.out.size
      by_cases hlt : k < m
      · obtain ⟨g1, rfl, hg0, hg1, hcell⟩ := HRD.out (show 0 < (cutL s 44).length by have := HM.out; unfold partsL at this; omega)
        have ec : wr.cell? ⟨g1, k, none⟩ = some (.string ((partsL s).getD k ByteArray.empty)) := (HB.out.cell (p := ⟨g1, k, none⟩) hg1).trans (hcell k (by have := HM.out; unfold partsL at this; omega))
        have hts : ((partsL s).getD k ByteArray.empty).size ≤ 40 := HSZ.out k
        have HPS := Lib.hid (partTo_succ s k)
        have HOKK : Hid (okP ((partsL s).getD k ByteArray.empty) = false → textB s = false) := Lib.hid (fun h => by
          rw [HTB.out, Bool.and_eq_false_iff]
          refine .inl (List.all_eq_false.2 ⟨k, List.mem_range.2 (by rw [← HM.out]; exact hlt), by rw [h]; decide⟩))
        have HOK2 : Hid (okP ((partsL s).getD k ByteArray.empty) = true → ∀ j, j < k + 1 → okP ((partsL s).getD j ByteArray.empty) = true) := Lib.hid (fun h j hj => by
          by_cases e : j = k
          · subst e; exact h
          · exact HOK.out j (by omega))
        obtain ⟨t, ht⟩ : ∃ t, t = (partsL s).getD k ByteArray.empty := ⟨_, rfl⟩
        rw [← ht] at ec hts HPS HOKK HOK2
        have HSP2 := Lib.hid (l1Split_any t 43 (by omega) wr (by omega))
        have HSZ2 := Lib.hid (fun k => Nat.le_trans (cutL_getD t 43 k) hts)
        have HOP : Hid (okP t = decide ((cutL t 43).length = 2)) := Lib.hid rfl
        have HPP : Hid (paceP t = (readZ ((cutL t 43).getD 0 ByteArray.empty), readZ ((cutL t 43).getD 1 ByteArray.empty))) := Lib.hid rfl
        have i1 : (0 : Int) ≤ (k : Int) := by omega
        have i2 : (k : Int) < (m : Int) := by omega
        clear ht hcell hg0 hg1
        go_wp2_with fail
        go_at_call 44
        refine HSP2.out.mono ?_
        rintro e w2 ⟨v, rfl, o2, b2⟩
        have B2 := Lib.hid b2
        obtain ⟨bo, cp2, rfl, hrd2⟩ := o2.read
        have HRD2 := Lib.hid hrd2
        have HB2 : Hid (Below w1.heap.size w1 w2) := Lib.hid (HB.out.trans (b2.mono hz1))
        obtain ⟨L, hL⟩ : ∃ L, L = (cutL t 43).length := ⟨_, rfl⟩
        rw [← hL] at HRD2 HOP ⊢
        clear hrd2 o2 b2 hL
        by_cases hl2 : L = 2
        · subst hl2
          obtain ⟨g7, rfl, hg0, hg1, hcell2⟩ := HRD2.out (by omega)
          have c0 := hcell2 0 (by omega)
          have c1 := hcell2 1 (by omega)
          have hz0 := HSZ2.out 0
          have hzz := HSZ2.out 1
          obtain ⟨t0, ht0⟩ : ∃ t0, t0 = (cutL t 43).getD 0 ByteArray.empty := ⟨_, rfl⟩
          obtain ⟨t1, ht1⟩ : ∃ t0, t0 = (cutL t 43).getD 1 ByteArray.empty := ⟨_, rfl⟩
          rw [← ht0] at c0 hz0 HPP
          rw [← ht1] at c1 hzz HPP
          have HR := Lib.hid (fun (z : ByteArray) (w2 : World) (hz : z.size ≤ 40) => l1Read_any z w2 (by omega))
          have HO2 : Hid (OwnPace w2 w1.heap.size _ (partTo s k)) := Lib.hid (HO.out.below B2.out (Nat.le_refl _))
          have hbl : (partTo s k).length + 1 ≤ 1000000000 := by rw [length_partTo]; omega
          have hz2 := HB2.out.size
          have HNV : Hid (∀ u, OwnPace wr w1.heap.size u (partTo s k) → some g7 ≠ u.ownBlock) := Lib.hid (fun u h e => by have := (World.ownsRow.lt h g7 e.symm).2; omega)
          have HNV2 := Lib.hid (HNV.out _ HO.out)
          have HC0 := Lib.hid c0
          have HC1 := Lib.hid c1
          have HKB : Hid (∀ (o : Obj) (w5 : World), (w2.alloc o).drew.grownBy w5 _ → w5.cell? ⟨g7, 0, none⟩ = some (.string t0) ∧ w5.cell? ⟨g7, 1, none⟩ = some (.string t1)) := Lib.hid (fun o w5 h5 => by
            have hb := h5.block g7 (show g7 < (w2.alloc o).heap.size by rw [alloc_size1]; exact Nat.lt_succ_of_lt hg1) HNV2.out
            have hb2 : w5.heap[g7]? = w2.heap[g7]? := hb.trans (heap_alloc_old w2 _ hg1)
            exact ⟨(World.cell?_of_block hb2).trans HC0.out, (World.cell?_of_block hb2).trans HC1.out⟩)
          clear hcell2 ht0 ht1 HNV HO hg0 hg1
          go_wp2_with fail
          go_region_held_law (fun w' => w'.cell? ⟨g7, 0, none⟩ = some (.string t0) ∧ w'.cell? ⟨g7, 1, none⟩ = some (.string t1)) (first | go_keep | exact HKB.out _ _ hG5)
            (first
              | (go_at_call 45; refine (HR.out _ _ (by assumption)).mono ?_; rintro e w' ⟨rfl, rfl⟩)
              | (refine step_appPace rfl _ _ rfl w1.heap.size _ _ [(readZ t0, readZ t1)] _ _ _ rfl rfl (show OwnPace (w2.alloc _) _ _ _ from ownPace_alloc HO2.out _) rfl (src_one (w := w2) (readZ t0) (readZ t1) rfl) (show w1.heap.size ≤ (w2.alloc _).heap.size by rw [alloc_size1]; exact Nat.le_succ_of_le hz2) hbl ?_; intro v' w5 hO hB5 hG5))
          all_goals
            (try simp only [List.getElem_toArray, List.getElem_cons_zero, List.getElem_cons_succ, List.setIfInBounds_toArray, List.set_cons_zero, List.set_cons_succ])
            have HO5 : Hid (OwnPace w5 w1.heap.size v' (partTo s (k + 1))) := Lib.hid (by rw [HPS.out, HPP.out]; exact hO)
            have HB5 : Hid (Below w1.heap.size w1 w5) := Lib.hid ((HB2.out.alloc hz2 _).trans ⟨hB5.os, hB5.tape, hB5.output, hB5.size, hB5.block⟩)
            have HOK3 := Lib.hid (HOK2.out (by rw [HOP.out]; rfl))
            clear hO hB5 hG5
            go_wp2
            go_roundw
            case rel => exact ⟨k + 1, by omega, by go_num, HO5, HOK3, HB5⟩
            case measure => simp [intOf]; omega
        · have hq : ((L : Int) != 2) = true := by rw [bne_iff_ne]; omega
          have HF := Lib.hid (H0.out (HOKK.out (by rw [HOP.out]; exact decide_eq_false hl2)))
          clear hl2
          go_wp2
          go_ret2
          exact ⟨_, by rw [HF.out.2]; exact rfl, by rw [HF.out.1]; exact ownPace_nil _ _, B1.out.trans (HB2.out.mono B1.out.size)⟩
      · obtain rfl : k = m := by omega
        have HO2 : Hid (OwnPace wr w1.heap.size _ (readL s)) := Lib.hid (by unfold readL; rw [← HM.out]; exact HO.out)
        have HTB2 : Hid (textB s = goodP (readL s)) := Lib.hid (by
          rw [HTB.out, List.all_eq_true.2, Bool.true_and]
          intro j hj
          exact HOK.out j (by rw [HM.out]; exact List.mem_range.1 hj))
        obtain ⟨ao2, cp2, hv, hcm, _⟩ := HO2.out.cameC
        subst hv
        have hrl : (readL s).length ≤ 1048576 := by unfold readL; rw [length_partTo, ← HM.out]; omega
        have HG := Lib.hid (spGood_any wr ao2 (readL s).length cp2 (readL s) hrl hcm)
        obtain ⟨r, hr⟩ : ∃ r, r = (readL s).length := ⟨_, rfl⟩
        clear hcm HO hrl
        rcases hb : goodP (readL s) with _ | _
        · have HF := Lib.hid (H0.out (HTB2.out.trans hb))
          rw [hb] at HG
          clear hb hr
          go_wp2_with (go_at_call 23; refine HG.out.mono ?_; rintro e w2 ⟨rfl, b2⟩; have B2 : Hid (Below w1.heap.size w1 w2) := Lib.hid (HB.out.trans (b2.mono hz1)); clear b2)
          go_ret2
          exact ⟨_, by rw [HF.out.2]; exact rfl, by rw [HF.out.1]; exact ownPace_nil _ _, B1.out.trans (B2.out.mono B1.out.size)⟩
        · have HF := Lib.hid (H1.out (HTB2.out.trans hb))
          rw [hb] at HG
          clear hb hr
          go_wp2_with (go_at_call 23; refine HG.out.mono ?_; rintro e w2 ⟨rfl, b2⟩; have B2 : Hid (Below w1.heap.size w1 w2) := Lib.hid (HB.out.trans (b2.mono hz1)); have HO3 := Lib.hid (HO2.out.below b2 (Nat.le_refl _)); clear b2)
          go_ret2
          exact ⟨_, by rw [HF.out.2]; exact rfl, by rw [HF.out.1]; exact HO3.out.mono B1.out.size, B1.out.trans (B2.out.mono B1.out.size)⟩
  · have h40i : (40 : Int) < (s.size : Int) := by omega
    have H0 : Hid (outParsePaces_0 s = [] ∧ outParsePaces_1 s = false) := Lib.hid (by unfold outParsePaces_0 outParsePaces_1 textB; rw [decide_eq_false h40]; exact ⟨rfl, rfl⟩)
    go_enter Tryd.func29, Tryd.ntmps29
    go_wp2
    go_ret2
    exact ⟨_, by rw [H0.out.2]; exact rfl, by rw [H0.out.1]; exact ownPace_nil _ _, Below.refl _ _⟩

set_option maxRecDepth 20000 in
set_option maxHeartbeats 1000000 in
theorem specParsePaces_any (w : World) (s : ByteArray) (_ws : s.size ≤ maxLen) (hls : s.size ≤ 1048576) :
    Calls Tryd.prog 14 #[.string s] w fun e w' => ∃ v0, e = .returned (.tuple #[v0, .bool (outParsePaces_1 s)]) ∧ OwnPace w' w.heap.size v0 (outParsePaces_0 s) ∧ Below w.heap.size w w' := by
  have HS := Lib.hid (spParse_any w s hls)
  go_enter Tryd.func14, Tryd.ntmps14
  go_wp2_with fail
  go_at_call 29
  refine HS.out.mono ?_
  rintro e w2 ⟨v, rfl, o2, b2⟩
  have O2 := Lib.hid o2
  have B2 := Lib.hid b2
  clear o2 b2
  go_wp2
  go_ret2
  exact ⟨_, rfl, O2.out, B2.out⟩

end Go.Proofs.YthnbimfdodfhoabDoor
