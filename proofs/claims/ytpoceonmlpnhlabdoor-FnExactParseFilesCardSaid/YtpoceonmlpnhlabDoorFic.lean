/- Chapter 6, the model: ParseFiles. -/
import Derived.Test.YtpoceonmlpnhlabDoorFib
import Derived.Test.YtpoceonmlpnhlabDoorSplit
namespace Go.Proofs.YtpoceonmlpnhlabDoor
open Go.ChangeShapes Go.WideShapes Go.ChangeAt Go.RowKit
open Dr Fi Rd

namespace Fi
theorem cutTo_sizeF (s : ByteArray) (b : Nat) : ∀ k, ∀ z ∈ (cutTo s b k).1, z.size ≤ s.size
  | 0, z, h => by cases h
  | k + 1, z, h => by
    rw [cutTo] at h
    split at h
    · rcases List.mem_append.1 h with h | h
      · exact cutTo_sizeF s b k z h
      · rw [List.mem_singleton.1 h, ByteArray.size_extract]; omega
    · exact cutTo_sizeF s b k z h
theorem cutL_sizeF (s : ByteArray) (b k : Nat) : ((cutL s b).getD k ByteArray.empty).size ≤ s.size := by
  by_cases h : k < (cutL s b).length
  · rw [List.getD_eq_getElem?_getD, List.getElem?_eq_getElem h]
    have hm : (cutL s b)[k] ∈ cutL s b := List.getElem_mem h
    show ((cutL s b)[k]).size ≤ _
    generalize (cutL s b)[k] = z at hm
    unfold cutL at hm
    rcases List.mem_append.1 hm with hm | hm
    · exact cutTo_sizeF s b _ z hm
    · rw [List.mem_singleton.1 hm, ByteArray.size_extract]; omega
  · rw [List.getD_eq_getElem?_getD, List.getElem?_eq_none (by omega)]; exact Nat.zero_le _
theorem strs_neF {q s : ByteArray} (h : ¬ q = s) : (q.toList == s.toList) = false := by
  rw [beq_eq_false_iff_ne]
  intro e
  apply h
  rw [ByteArray.toList_eq, ByteArray.toList_eq] at e
  exact ByteArray.ext (Array.toList_inj.1 e)
/-- the heights of the first j words of a row's text -/
def rowRd (t : ByteArray) (j : Nat) : List Int := upTo (fun i => readZ ((cutL t 44).getD i ByteArray.empty)) j
def rowAll (t : ByteArray) : List Int := rowRd t (cutL t 44).length
def filesTo (s : ByteArray) (k : Nat) : List (List Int) := (List.range k).map fun i => rowAll ((cutL s 47).getD i ByteArray.empty)
def readF (s : ByteArray) : List (List Int) := filesTo s (cutL s 47).length
theorem filesTo_succ (s : ByteArray) (k : Nat) : filesTo s (k + 1) = filesTo s k ++ [rowAll ((cutL s 47).getD k ByteArray.empty)] := by unfold filesTo; rw [List.range_succ, List.map_append]; rfl
theorem length_filesTo (s : ByteArray) (k : Nat) : (filesTo s k).length = k := by simp [filesTo]
theorem length_rowRd (t : ByteArray) (j : Nat) : (rowRd t j).length = j := length_upTo _ _
theorem fits_readF {s : ByteArray} (h : s.size ≤ 300) : FitsSS (readF s) := by
  have hl : (readF s).length ≤ 301 := by unfold readF; rw [length_filesTo]; have := cutL_len s 47; omega
  have := tot_rows (readF s) 301 (fun x hx => by
    unfold readF filesTo at hx
    simp only [List.mem_map] at hx
    obtain ⟨i, _, rfl⟩ := hx
    unfold rowAll
    rw [length_rowRd]
    have h1 := cutL_len ((cutL s 47).getD i ByteArray.empty) 44
    have h2 := cutL_sizeF s 47 i
    omega) (readF s).length
  have h2 : (readF s).length * 301 ≤ 301 * 301 := Nat.mul_le_mul hl (Nat.le_refl _)
  exact ⟨by omega, by unfold total; omega⟩
def parB (s : ByteArray) : Bool := decide (s.size ≤ 300) && (goodF (readF s) && decide (fileText (readF s) = s))
end Fi
def outParseFiles_0 (s : ByteArray) : List (List Int) := if parB s then readF s else []
def outParseFiles_1 (s : ByteArray) : Bool := parB s
theorem lenParseFiles_0 (s : ByteArray) (_h : s.size ≤ 1048576) : (outParseFiles_0 s).length ≤ 1000000000 ∧ total (outParseFiles_0 s) ≤ 1000000000 := by
  unfold outParseFiles_0
  split
  · rename_i h
    unfold parB at h
    simp only [Bool.and_eq_true, decide_eq_true_eq] at h
    exact (fits_readF h.1).fits
  · exact ⟨by simp, by simp [total, tot]⟩
theorem par_no {s : ByteArray} (h : parB s = false) : outParseFiles_0 s = [] ∧ outParseFiles_1 s = false := by
  unfold outParseFiles_0 outParseFiles_1
  rw [h]
  exact ⟨rfl, rfl⟩

set_option maxHeartbeats 2000000 in
theorem specParseFiles_any (w : World) (s : ByteArray) (_ws : s.size ≤ maxLen) (hls : s.size ≤ 1048576) :
    Calls Tryd.prog 10 #[.string s] w fun e w' => ∃ v0, e = .returned (.tuple #[v0, .bool (outParseFiles_1 s)]) ∧ OwnSS w' w.heap.size v0 (outParseFiles_0 s) ∧ Below w.heap.size w w' := by
  clear _ws
  by_cases h300 : s.size ≤ 300
  · have h3i : ¬ (300 : Int) < (s.size : Int) := by omega
    have HSP := Lib.hid (l1Split_any s 47 (by omega) w hls)
    have HSZ := Lib.hid (fun k => Nat.le_trans (cutL_sizeF s 47 k) h300)
    have HFI := Lib.hid (fits_readF h300)
    have HPB : Hid (parB s = (goodF (readF s) && decide (fileText (readF s) = s))) := Lib.hid (by unfold parB; rw [decide_eq_true h300, Bool.true_and])
    have hml : (cutL s 47).length ≤ 301 := by have := cutL_len s 47; omega
    have HFS := Lib.hid (filesTo_succ s)
    have HRF : Hid (readF s = filesTo s (cutL s 47).length) := Lib.hid rfl
    go_enter Tryd.func10, Tryd.ntmps10
    go_wp2_with fail
    go_at_call 22
    refine HSP.out.mono ?_
    rintro e w1 ⟨v, rfl, o1, b1⟩
    have B1 := Lib.hid b1
    obtain ⟨ao, cp, rfl, hrd⟩ := o1.read
    obtain ⟨L, hL⟩ : ∃ L, L = cutL s 47 := ⟨_, rfl⟩
    rw [← hL] at hrd hml HFS HRF HSZ ⊢
    have HRD := Lib.hid hrd
    obtain ⟨m, hm⟩ : ∃ m, m = L.length := ⟨_, rfl⟩
    rw [← hm] at HRD hml HRF ⊢
    clear hrd o1 b1 hm hL
    go_wp2
    go_loopw [4, 16] (fun v i wr => ∃ k : Nat, k ≤ m ∧ i = .int .i64 (k : Int) ∧ Hid (OwnSS wr w1.heap.size v (filesTo s k)) ∧ Hid (Below w1.heap.size w1 wr)) (fun _ i _ => m - (intOf i).toNat)
    case atStart => exact ⟨0, Nat.zero_le _, rfl, Lib.hid (ownSS_nil _ _), Lib.hid (Below.refl _ _)⟩
    case round =>
      obtain ⟨k, hk, rfl, HO, HB⟩ := hrel
      have hz1 := HB.out.size
      by_cases hlt : k < m
      · obtain ⟨g1, rfl, hg0, hg1, hcell⟩ := HRD.out (by omega)
        have ec : wr.cell? ⟨g1, k, none⟩ = some (.string (L.getD k ByteArray.empty)) := (HB.out.cell (p := ⟨g1, k, none⟩) hg1).trans (hcell k hlt)
        have hts := HSZ.out k
        have HPS := Lib.hid (HFS.out k)
        obtain ⟨t, ht⟩ : ∃ t, t = L.getD k ByteArray.empty := ⟨_, rfl⟩
        rw [← ht] at ec hts HPS
        have HSP2 := Lib.hid (l1Split_any t 44 (by omega) wr (by omega))
        have HSZ2 := Lib.hid (fun k => Nat.le_trans (cutL_sizeF t 44 k) hts)
        have hnl : (cutL t 44).length ≤ 301 := by have := cutL_len t 44; omega
        have HRA : Hid (rowAll t = rowRd t (cutL t 44).length) := Lib.hid rfl
        have HRS : Hid (∀ j, rowRd t (j + 1) = rowRd t j ++ [readZ ((cutL t 44).getD j ByteArray.empty)]) := Lib.hid (fun j => upTo_succ _ j)
        have hbl : (filesTo s k).length ≤ 1000000000 := by rw [length_filesTo]; omega
        have i1 : (0 : Int) ≤ (k : Int) := by omega
        have i2 : (k : Int) < (m : Int) := by omega
        clear ht hcell hg0 hg1
        go_wp2_with fail
        go_at_call 22
        refine HSP2.out.mono ?_
        rintro e w2 ⟨v, rfl, o2, b2⟩
        have B2 := Lib.hid b2
        obtain ⟨bo, cp2, rfl, hrd2⟩ := o2.read
        obtain ⟨M, hM⟩ : ∃ M, M = cutL t 44 := ⟨_, rfl⟩
        rw [← hM] at hrd2 hnl HRA HRS HSZ2 ⊢
        have HRD2 := Lib.hid hrd2
        have HB2 : Hid (Below w1.heap.size w1 w2) := Lib.hid (HB.out.trans (b2.mono hz1))
        have HO2 := Lib.hid (HO.out.below b2 (Nat.le_refl _))
        obtain ⟨n, hn⟩ : ∃ n, n = M.length := ⟨_, rfl⟩
        rw [← hn] at HRD2 hnl HRA ⊢
        clear hrd2 o2 b2 hM hn HO HB ec
        go_wp2
        go_loopw [7, 23] (fun v i wr => ∃ j : Nat, j ≤ n ∧ i = .int .i64 (j : Int) ∧ Hid (Own wr w2.heap.size v (rowRd t j)) ∧ Hid (Below w2.heap.size w2 wr)) (fun _ i _ => n - (intOf i).toNat)
        case atStart => exact ⟨0, Nat.zero_le _, rfl, Lib.hid (own_nil _ _), Lib.hid (Below.refl _ _)⟩
        case round =>
          obtain ⟨j, hj, rfl, HR, HB3⟩ := hrel
          by_cases hlt2 : j < n
          · obtain ⟨g7, rfl, hg0, hg1, hcell2⟩ := HRD2.out (by omega)
            have ec : wr.cell? ⟨g7, j, none⟩ = some (.string (M.getD j ByteArray.empty)) := (HB3.out.cell (p := ⟨g7, j, none⟩) hg1).trans (hcell2 j hlt2)
            have hzs := HSZ2.out j
            have HS := Lib.hid (HRS.out j)
            obtain ⟨u, hu⟩ : ∃ u, u = M.getD j ByteArray.empty := ⟨_, rfl⟩
            rw [← hu] at ec hzs HS
            have HRR := Lib.hid (fun w2 => l1Read_any u w2 (by omega))
            obtain ⟨z, hzz⟩ : ∃ z, z = readZ u := ⟨_, rfl⟩
            rw [← hzz] at HS HRR
            have hz3 := HB3.out.size
            have hrl : (rowRd t j).length ≤ 1000000000 := by rw [length_rowRd]; omega
            have i3 : (0 : Int) ≤ (j : Int) := by omega
            have i4 : (j : Int) < (n : Int) := by omega
            clear hcell2 hg0 hg1 hu hzz
            go_wp2_with (first
              | (go_at_call 23; refine (HRR.out _).mono ?_; rintro e w' ⟨rfl, rfl⟩)
              | (at_builtin; refine wpList_app rfl _ _ rfl wr _ _ _ _ rfl rfl HR.out hz3 hrl ?_; intro v' w5 hO hB5; have HR5 : Hid (Own w5 w2.heap.size v' (rowRd t (j + 1))) := Lib.hid (by rw [HS.out]; exact hO); have HB5 : Hid (Below w2.heap.size w2 w5) := Lib.hid (HB3.out.trans hB5); clear hO hB5))
            exact ⟨⟨j + 1, by omega, by go_num, HR5, HB5⟩, by simp [intOf]; omega⟩
          · obtain rfl : j = n := by omega
            have HR2 : Hid (Own wr w2.heap.size _ (rowAll t)) := Lib.hid (by rw [HRA.out]; exact HR.out)
            have hz2 := HB2.out.size
            obtain ⟨ar, cr, rfl⟩ := HR2.out.any
            clear HR
            go_wp2_with (at_builtin; refine wpList_appRow rfl _ _ rfl wr w2 _ _ _ _ _ _ rfl rfl rfl HO2.out HB3.out HR2.out hz2 hbl ?_; intro v' w5 hO hB5; have HO5 : Hid (OwnSS w5 w1.heap.size v' (filesTo s (k + 1))) := Lib.hid (by rw [HPS.out]; exact hO); have HB5 : Hid (Below w1.heap.size w1 w5) := Lib.hid ((HB2.out.trans (HB3.out.mono hz2)).trans hB5); clear hO hB5)
            exact ⟨⟨k + 1, by omega, by go_num, HO5, HB5⟩, by simp [intOf]; omega⟩
      · obtain rfl : k = m := by omega
        have HO2 : Hid (OwnSS wr w1.heap.size _ (readF s)) := Lib.hid (by rw [HRF.out]; exact HO.out)
        obtain ⟨ao2, cp2, hv, hcm, _⟩ := HO2.out.cameC
        subst hv
        have HG := Lib.hid (fiGood_any wr ao2 (readF s).length cp2 (readF s) HFI.out hcm)
        rcases hb : goodF (readF s) with _ | _
        · have HF := Lib.hid (par_no (s := s) (by rw [HPB.out, hb]; rfl))
          rw [hb] at HG
          clear hb hcm HO
          go_wp2_with (go_at_call 15; refine HG.out.mono ?_; rintro e w2 ⟨rfl, rfl⟩)
          go_ret2
          exact ⟨_, by rw [HF.out.2]; exact rfl, by rw [HF.out.1]; exact ownSS_nil _ _, B1.out.trans (HB.out.mono B1.out.size)⟩
        · have HT := Lib.hid (fiText_any wr ao2 (readF s).length cp2 (readF s) _ _ (good_of hb) hcm)
          rw [hb] at HG
          by_cases hq : fileText (readF s) = s
          · have HF : Hid (outParseFiles_0 s = readF s ∧ outParseFiles_1 s = true) := Lib.hid (by unfold outParseFiles_0 outParseFiles_1; rw [HPB.out, hb, decide_eq_true hq]; exact ⟨rfl, rfl⟩)
            rw [hq] at HT
            clear hb hcm HO hq
            go_wp2_with fail
            go_at_call 15
            refine HG.out.mono ?_
            rintro e w2 ⟨rfl, rfl⟩
            go_wp2_with (go_at_call 16; refine HT.out.mono ?_; rintro e w2 ⟨rfl, b2⟩; have B2 : Hid (Below w1.heap.size w1 w2) := Lib.hid (HB.out.trans (b2.mono hz1)); have HO3 := Lib.hid (HO2.out.below b2 (Nat.le_refl _)); clear b2)
            go_ret2
            exact ⟨_, by rw [HF.out.2]; exact rfl, by rw [HF.out.1]; exact HO3.out.mono B1.out.size, B1.out.trans (B2.out.mono B1.out.size)⟩
          · have HF := Lib.hid (par_no (s := s) (by rw [HPB.out, hb, decide_eq_false hq]; rfl))
            obtain ⟨q, hqe⟩ : ∃ q, q = fileText (readF s) := ⟨_, rfl⟩
            rw [← hqe] at HT hq
            have bq := strs_neF hq
            clear hb hcm HO hq hqe
            go_wp2_with fail
            go_at_call 15
            refine HG.out.mono ?_
            rintro e w2 ⟨rfl, rfl⟩
            go_wp2_with (go_at_call 16; refine HT.out.mono ?_; rintro e w2 ⟨rfl, b2⟩; have B2 : Hid (Below w1.heap.size w1 w2) := Lib.hid (HB.out.trans (b2.mono hz1)); clear b2)
            go_ret2
            exact ⟨_, by rw [HF.out.2]; exact rfl, by rw [HF.out.1]; exact ownSS_nil _ _, B1.out.trans (B2.out.mono B1.out.size)⟩
  · have h3i : (300 : Int) < (s.size : Int) := by omega
    have H0 := Lib.hid (par_no (s := s) (by unfold parB; rw [decide_eq_false h300]; rfl))
    go_enter Tryd.func10, Tryd.ntmps10
    go_wp2
    go_ret2
    exact ⟨_, by rw [H0.out.2]; exact rfl, by rw [H0.out.1]; exact ownSS_nil _ _, Below.refl _ _⟩

end Go.Proofs.YtpoceonmlpnhlabDoor
