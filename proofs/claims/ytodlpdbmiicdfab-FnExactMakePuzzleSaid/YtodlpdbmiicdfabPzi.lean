/- Chapter 9, the model: NeedlessClues. -/
import Derived.Test.YtodlpdbmiicdfabPzf
import Derived.Test.YtodlpdbmiicdfabPzh
import Derived.Test.YtodlpdbmiicdfabMost
namespace Go.Proofs.Ytodlpdbmiicdfab
open Go.ChangeShapes Go.WideShapes Go.ChangeAt Go.RowKit
open Pz

namespace Pz
theorem clues_without {n : Int} {cs : List RClue} {k : Nat} (h : ∀ j, j < cs.length → clueB n (cs.getD j zClue) = true) : ∀ j, j < (without cs k).length → clueB n ((without cs k).getD j zClue) = true := by
  intro j hj
  rw [List.getD_eq_getElem?_getD, List.getElem?_eq_getElem hj, Option.getD_some]
  have hm := List.getElem_mem hj
  obtain ⟨x, hx⟩ : ∃ x, x = (without cs k)[j] := ⟨_, rfl⟩
  rw [← hx] at hm ⊢
  have hmem : x ∈ cs := by
    unfold without at hm
    rcases List.mem_append.1 hm with h | h
    · exact List.mem_of_mem_take h
    · exact List.mem_of_mem_drop h
  obtain ⟨i, hi, rfl⟩ := List.getElem_of_mem hmem
  have := h i hi
  rwa [List.getD_eq_getElem?_getD, List.getElem?_eq_getElem hi, Option.getD_some] at this
theorem length_without {cs : List RClue} {k : Nat} (h : k < cs.length) : (without cs k).length = cs.length - 1 := by
  unfold without
  rw [List.length_append, List.length_take, List.length_drop]; omega
def needTo (n : Nat) (cs : List RClue) (j : Nat) : List Nat := (List.range j).filter fun k => decide ((solL n (without cs k)).length = (solL n cs).length)
theorem needTo_yes {n : Nat} {cs : List RClue} {j : Nat} (h : (solL n (without cs j)).length = (solL n cs).length) : asInts (needTo n cs (j + 1)) = asInts (needTo n cs j) ++ [(j : Int)] := by
  unfold needTo; rw [List.range_succ, List.filter_append]; simp [h, asInts]
theorem needTo_no {n : Nat} {cs : List RClue} {j : Nat} (h : ¬ (solL n (without cs j)).length = (solL n cs).length) : asInts (needTo n cs (j + 1)) = asInts (needTo n cs j) := by
  unfold needTo; rw [List.range_succ, List.filter_append]; simp [h]
theorem needTo_le (n : Nat) (cs : List RClue) (j : Nat) : (needTo n cs j).length ≤ j := by
  unfold needTo; exact Nat.le_trans (List.length_filter_le _ _) (by simp)
end Pz

def outNeedlessClues_1 (s : Int) (cs : List RClue) : Bool := goodP s cs
def outNeedlessClues_0 (s : Int) (cs : List RClue) : List Int := if goodP s cs then asInts (needTo s.toNat cs cs.length) else []
theorem lenNeedlessClues_0 (s : Int) (cs : List RClue) : (outNeedlessClues_0 s cs).length ≤ 1048576 := by
  unfold outNeedlessClues_0
  split
  · rename_i h
    have h6 := (pz_of h).2.1
    have := needTo_le s.toNat cs cs.length
    rw [asInts_len]; omega
  · simp
set_option maxHeartbeats 4000000 in
theorem specNeedlessClues_any (w : World) (s : Int) (a : Option Addr) (len cap : Nat) (cs : List RClue) (hl : len ≤ 1048576) (hc : CameClue w a len cs) (hcp : len ≤ cap ∧ cap ≤ 9223372036854775807) :
    Calls Try.prog 9 #[.agg #[.int .i64 s, .slice a len cap]] w fun e w' => ∃ v0, e = .returned (.tuple #[v0, .bool (outNeedlessClues_1 s cs)]) ∧ Own w' w.heap.size v0 (outNeedlessClues_0 s cs) ∧ Below w.heap.size w w' := by
  obtain ⟨w0, hw0⟩ : ∃ w0, w0 = w.alloc (.cells #[.int .i64 s, .slice a len cap] 31) := ⟨_, rfl⟩
  have HW0 : Hid (Below w.heap.size w w0) := Lib.hid (by rw [hw0]; exact (Below.refl _ _).alloc (Nat.le_refl _) _)
  obtain ⟨pb, hpb⟩ : ∃ pb, pb = w.heap.size := ⟨_, rfl⟩
  have HPC : Hid (∀ w2, Below w0.heap.size w0 w2 → w2.cell? ⟨pb, 0, none⟩ = some (.int .i64 s) ∧ w2.cell? ⟨pb, 1, none⟩ = some (.slice a len cap)) := Lib.hid (fun w2 h => by
    have c0 : w0.cell? ⟨pb, 0, none⟩ = some (.int .i64 s) := by rw [hw0, hpb, World.cell?_alloc_new]; rfl
    have c1 : w0.cell? ⟨pb, 1, none⟩ = some (.slice a len cap) := by rw [hw0, hpb, World.cell?_alloc_new]; rfl
    exact ⟨(h.cell (World.block_lt_of_cell? _ _ c0)).trans c0, (h.cell (World.block_lt_of_cell? _ _ c1)).trans c1⟩)
  have HC : Hid (CameClue w0 a len cs) := Lib.hid (hc.below HW0.out)
  have HZ : Hid (cs.length = len) := Lib.hid hc.1
  have HG := Lib.hid (pzGood_any w0 s a len cap cs hl HC.out)
  have HCP := Lib.hid hcp
  obtain ⟨c0, c1⟩ := HPC.out w0 (Below.refl _ _)
  clear hc hcp
  rcases hb : goodP s cs with _ | _
  · have HE : Hid (outNeedlessClues_1 s cs = false ∧ outNeedlessClues_0 s cs = []) := Lib.hid (by unfold outNeedlessClues_0 outNeedlessClues_1; rw [hb]; exact ⟨rfl, rfl⟩)
    rw [hb] at HG
    clear hb
    go_enter Try.func9, Try.ntmps9
    go_wp2_with fail
    rw [← hw0, ← hpb]
    clear hw0 hpb
    go_at_call 27
    refine HG.out.mono ?_
    rintro e w2 ⟨rfl, b2⟩
    have B2 : Hid (Below w.heap.size w w2) := Lib.hid (HW0.out.trans (b2.mono HW0.out.size))
    clear b2
    go_wp2
    go_ret2
    exact ⟨_, by rw [HE.out.1]; exact rfl, by rw [HE.out.2]; exact own_nil _ _, B2.out⟩
  obtain ⟨⟨n, rfl, hn1, hn8⟩, hl6, hcl⟩ := pz_of hb
  have hl6' : len ≤ 6 := by have := HZ.out; omega
  have HE : Hid (outNeedlessClues_1 (n : Int) cs = true ∧ outNeedlessClues_0 (n : Int) cs = asInts (needTo n cs len)) := Lib.hid (by unfold outNeedlessClues_0 outNeedlessClues_1; rw [hb, HZ.out]; exact ⟨rfl, rfl⟩)
  have HA := Lib.hid (fun w2 (h : Below w0.heap.size w0 w2) => pzAll_any w2 n hn1 hn8 a len cap cs hl6' hcl (HC.out.below h))
  have HYS := Lib.hid (fun j => @needTo_yes n cs j)
  have HNO := Lib.hid (fun j => @needTo_no n cs j)
  have hsl := solL_le hn8 cs
  obtain ⟨m, hm⟩ : ∃ m, m = (solL n cs).length := ⟨_, rfl⟩
  have HM := Lib.hid hm
  rw [← hm] at hsl HYS HNO
  have HCL := Lib.hid hcl
  rw [hb] at HG
  clear hb hcl hm
  go_enter Try.func9, Try.ntmps9
  go_wp2_with fail
  rw [← hw0, ← hpb]
  clear hw0 hpb
  go_at_call 27
  refine HG.out.mono ?_
  rintro e w2 ⟨rfl, b2⟩
  have HAL := Lib.hid (HA.out w2 b2)
  clear c0 c1
  obtain ⟨c0, c1⟩ := HPC.out w2 b2
  have B2 := Lib.hid b2
  clear b2
  go_wp2_with fail
  go_at_call 28
  refine HAL.out.mono ?_
  rintro e w3 ⟨v, rfl, o3, b3⟩
  have B3 : Hid (Below w0.heap.size w0 w3) := Lib.hid (B2.out.trans (b3.mono B2.out.size))
  obtain ⟨ao, cp, rfl, _⟩ := o3.read
  rw [← HM.out]
  clear o3 b3 c0 c1
  obtain ⟨c0, c1⟩ := HPC.out w3 B3.out
  go_wp2
  go_loopw [4, 19] (fun o i wr => ∃ k : Nat, k ≤ len ∧ i = .int .i64 (k : Int) ∧ Hid (Own wr w0.heap.size o (asInts (needTo n cs k))) ∧ Hid (Below w0.heap.size w0 wr)) (fun _ i _ => len - (intOf i).toNat)
  case atStart => exact ⟨0, Nat.zero_le _, rfl, Lib.hid (own_nil _ _), B3⟩
  case round =>
    obtain ⟨k, hk, rfl, HO, HB⟩ := hrel
    clear c0 c1
    by_cases hlt : k < len
    · obtain ⟨c0, c1⟩ := HPC.out wr HB.out
      have hkc : k < cs.length := by have := HZ.out; omega
      have hlw := length_without hkc
      obtain ⟨q2, hq2⟩ : ∃ q, q = (without cs k).length := ⟨_, rfl⟩
      have hq26 : q2 ≤ 6 := by rw [hq2, hlw]; omega
      have HQ2 := Lib.hid hq2
      have HWO := Lib.hid (fun w5 (h : Below w0.heap.size w0 w5) => show Calls Try.prog 29 #[.slice a len cap, .int .i64 (k : Int)] w5 (fun e w' => ∃ ao2 cp2, e = .returned (.slice ao2 q2 cp2) ∧ CameClue w' ao2 q2 (without cs k) ∧ Below w5.heap.size w5 w') from (pzWithout_any w5 a len cap cs k hlt hl6' (HC.out.below h) HCP.out).mono (by
        rintro e w' ⟨v, he, ho, hb⟩
        obtain ⟨ao2, cp2, rfl, h2, _⟩ := ho.cameC
        rw [← HQ2.out] at he h2
        exact ⟨ao2, cp2, he, h2, hb⟩))
      obtain ⟨m2, hm2⟩ : ∃ q, q = (solL n (without cs k)).length := ⟨_, rfl⟩
      have HM2 := Lib.hid hm2
      have hm26 : m2 ≤ 256 := by rw [hm2]; exact solL_le hn8 _
      have HAW := Lib.hid (fun w5 ao2 cp2 (h : CameClue w5 ao2 q2 (without cs k)) => show Calls Try.prog 28 #[.int .i64 (n : Int), .slice ao2 q2 cp2] w5 (fun e w' => ∃ ao4 cp4, e = .returned (.slice ao4 m2 cp4) ∧ Below w5.heap.size w5 w') from (pzAll_any w5 n hn1 hn8 ao2 q2 cp2 (without cs k) hq26 (clues_without HCL.out) h).mono (by
        rintro e w' ⟨v, he, ho, hb⟩
        obtain ⟨ao2, cp2, rfl, _⟩ := ho.read
        rw [← HM2.out] at he
        exact ⟨ao2, cp2, he, hb⟩))
      have HY1 := Lib.hid (HYS.out k)
      have HN1 := Lib.hid (HNO.out k)
      rw [← hm2] at HY1 HN1
      have i1 : (0 : Int) ≤ (k : Int) := by omega
      have i2 : (k : Int) < (len : Int) := by omega
      clear hkc hlw hq2 hm2
      by_cases hx : m2 = m
      · have HS := Lib.hid (HY1.out hx)
        subst hx
        clear HY1 HN1
        go_wp2_with fail
        go_region_held_law (fun w' => w'.cell? ⟨pb, 0, none⟩ = some (.int .i64 (n : Int)) ∧ w'.cell? ⟨pb, 1, none⟩ = some (.slice a len cap)) (first | go_keep | exact HPC.out _ (HB.out.trans (Below.mono ⟨b5.os, b5.tape, b5.output, b5.size, b5.block⟩ HB.out.size)) | exact HPC.out _ ((HB.out.trans (Below.mono ⟨b5.os, b5.tape, b5.output, b5.size, b5.block⟩ HB.out.size)).trans (Below.mono ⟨b6.os, b6.tape, b6.output, b6.size, b6.block⟩ (HB.out.trans (Below.mono ⟨b5.os, b5.tape, b5.output, b5.size, b5.block⟩ HB.out.size)).size)))
          (first
            | (go_at_call 29; refine (HWO.out _ (by exact ⟨HB.out.os, HB.out.tape, HB.out.output, HB.out.size, HB.out.block⟩)).mono ?_; rintro e w5 ⟨ao5, cp5, rfl, hc5, b5⟩)
            | (go_at_call 28; refine (HAW.out _ ao5 cp5 (by exact hc5)).mono ?_; rintro e w6 ⟨ao6, cp6, rfl, b6⟩))
        have HB6 : Hid (Below w0.heap.size w0 w6) := Lib.hid ((HB.out.trans (Below.mono ⟨b5.os, b5.tape, b5.output, b5.size, b5.block⟩ HB.out.size)).trans (Below.mono ⟨b6.os, b6.tape, b6.output, b6.size, b6.block⟩ (HB.out.trans (Below.mono ⟨b5.os, b5.tape, b5.output, b5.size, b5.block⟩ HB.out.size)).size))
        have HR6 : Hid (Below wr.heap.size wr w6) := Lib.hid ((show Below wr.heap.size wr w5 from ⟨b5.os, b5.tape, b5.output, b5.size, b5.block⟩).trans (Below.mono ⟨b6.os, b6.tape, b6.output, b6.size, b6.block⟩ b5.size))
        have HO6 := Lib.hid (HO.out.below HR6.out (Nat.le_refl _))
        have hz := HB6.out.size
        have hbl : (asInts (needTo n cs k)).length ≤ 1000000000 := by rw [asInts_len]; have := needTo_le n cs k; omega
        clear hc5 b5 b6 HO c0 c1
        go_wp2_with (at_builtin; refine wpList_app rfl _ _ rfl w6 _ _ _ _ rfl rfl HO6.out hz hbl ?_; intro v7 w7 hO7 hB7)
        have HO7 : Hid (Own w7 w0.heap.size v7 (asInts (needTo n cs (k + 1)))) := Lib.hid (by rw [HS.out]; exact hO7)
        have HB7 : Hid (Below w0.heap.size w0 w7) := Lib.hid (HB6.out.trans hB7)
        clear hO7 hB7
        go_wp2
        go_roundw
        case rel => exact ⟨k + 1, by omega, by go_num, HO7, HB7⟩
        case measure => simp [intOf]; omega
      · have HS := Lib.hid (HN1.out hx)
        have g1 : ((m2 : Int) == (m : Int)) = false := by rw [beq_eq_false_iff_ne]; omega
        clear HY1 HN1
        go_wp2_with fail
        go_region_held_law (fun w' => w'.cell? ⟨pb, 0, none⟩ = some (.int .i64 (n : Int)) ∧ w'.cell? ⟨pb, 1, none⟩ = some (.slice a len cap)) (first | go_keep | exact HPC.out _ (HB.out.trans (Below.mono ⟨b5.os, b5.tape, b5.output, b5.size, b5.block⟩ HB.out.size)) | exact HPC.out _ ((HB.out.trans (Below.mono ⟨b5.os, b5.tape, b5.output, b5.size, b5.block⟩ HB.out.size)).trans (Below.mono ⟨b6.os, b6.tape, b6.output, b6.size, b6.block⟩ (HB.out.trans (Below.mono ⟨b5.os, b5.tape, b5.output, b5.size, b5.block⟩ HB.out.size)).size)))
          (first
            | (go_at_call 29; refine (HWO.out _ (by exact ⟨HB.out.os, HB.out.tape, HB.out.output, HB.out.size, HB.out.block⟩)).mono ?_; rintro e w5 ⟨ao5, cp5, rfl, hc5, b5⟩)
            | (go_at_call 28; refine (HAW.out _ ao5 cp5 (by exact hc5)).mono ?_; rintro e w6 ⟨ao6, cp6, rfl, b6⟩))
        have HB6 : Hid (Below w0.heap.size w0 w6) := Lib.hid ((HB.out.trans (Below.mono ⟨b5.os, b5.tape, b5.output, b5.size, b5.block⟩ HB.out.size)).trans (Below.mono ⟨b6.os, b6.tape, b6.output, b6.size, b6.block⟩ (HB.out.trans (Below.mono ⟨b5.os, b5.tape, b5.output, b5.size, b5.block⟩ HB.out.size)).size))
        have HR6 : Hid (Below wr.heap.size wr w6) := Lib.hid ((show Below wr.heap.size wr w5 from ⟨b5.os, b5.tape, b5.output, b5.size, b5.block⟩).trans (Below.mono ⟨b6.os, b6.tape, b6.output, b6.size, b6.block⟩ b5.size))
        have HO6 : Hid (Own w6 w0.heap.size _ (asInts (needTo n cs (k + 1)))) := Lib.hid (by rw [HS.out]; exact HO.out.below HR6.out (Nat.le_refl _))
        clear hc5 b5 b6 HO c0 c1
        go_wp2
        go_roundw
        case rel => exact ⟨k + 1, by omega, by go_num, HO6, HB6⟩
        case measure => simp [intOf]; omega
    · obtain rfl : k = len := by omega
      go_wp2
      go_ret2
      exact ⟨_, by rw [HE.out.1]; exact rfl, by rw [HE.out.2]; exact HO.out.mono HW0.out.size, HW0.out.trans (HB.out.mono HW0.out.size)⟩

end Go.Proofs.Ytodlpdbmiicdfab
