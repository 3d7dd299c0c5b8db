/- Chapter 9, the program: needless, leftByClues, leftByEach, NeedlessClues, LeftByClues. -/
import Derived.Test.YtodlpdbmiicdfabZh
import Derived.Test.YtodlpdbmiicdfabZk
import Derived.Test.YtodlpdbmiicdfabZm
import Derived.Test.YtodlpdbmiicdfabPzk
namespace Go.Proofs.Ytodlpdbmiicdfab
open Go.ChangeShapes Go.WideShapes Go.ChangeAt Go.RowKit
open Pz

set_option maxHeartbeats 4000000 in
set_option maxRecDepth 20000 in
theorem needless_any (w : World) (n : Nat) (h1 : 1 ≤ n) (h8 : n ≤ 8) (a : Option Addr) (len cap : Nat) (cs : List RClue) (hl : len ≤ 6) (hcl : ∀ k, k < cs.length → clueB (n : Int) (cs.getD k zClue) = true) (hc : CameClue w a len cs) (_hcp : len ≤ cap) :
    Calls Try.prog 32 #[.agg #[.int .i64 (n : Int), .slice a len cap]] w fun e w' => ∃ v, e = .returned v ∧ Own w' w.heap.size v (asInts (needTo n cs len)) ∧ Below w.heap.size w w' := by
  obtain ⟨w0, hw0⟩ : ∃ w0, w0 = w.alloc (.cells #[.int .i64 (n : Int), .slice a len cap] 31) := ⟨_, rfl⟩
  have HW0 : Hid (Below w.heap.size w w0) := Lib.hid (by rw [hw0]; exact (Below.refl _ _).alloc (Nat.le_refl _) _)
  obtain ⟨pb, hpb⟩ : ∃ pb, pb = w.heap.size := ⟨_, rfl⟩
  have HPC : Hid (∀ w2, Below w0.heap.size w0 w2 → BoxZ w2 pb (n : Int) (.slice a len cap)) := Lib.hid (fun w2 h => by
    have c0 : BoxZ w0 pb (n : Int) (.slice a len cap) := by rw [hw0, hpb]; exact BoxZ.new _ _ _ _
    exact c0.below h c0.lt)
  have HC : Hid (CameClue w0 a len cs) := Lib.hid (hc.below HW0.out)
  have HZ : Hid (cs.length = len) := Lib.hid hc.1
  have HCN := Lib.hid (fun w2 (h : Below w0.heap.size w0 w2) => count_any w2 n h1 h8 a len cap cs hl hcl (HC.out.below h))
  have HYS := Lib.hid (fun j => @needTo_yes n cs j)
  have HNO := Lib.hid (fun j => @needTo_no n cs j)
  have hsl := solL_le h8 cs
  obtain ⟨m, hm⟩ : ∃ m, m = (solL n cs).length := ⟨_, rfl⟩
  rw [← hm] at hsl HYS HNO HCN
  have HCL := Lib.hid hcl
  obtain ⟨c0, c1⟩ := HPC.out w0 (Below.refl _ _)
  clear hc hcl hm
  go_enter Try.func32, Try.ntmps32
  go_wp2_with fail
  rw [← hw0, ← hpb]
  clear hw0 hpb
  go_at_call 58
  refine (HCN.out w0 (Below.refl _ _)).mono ?_
  rintro e w3 ⟨rfl, b3⟩
  have B3 : Hid (Below w0.heap.size w0 w3) := Lib.hid b3
  clear b3 c0 c1
  obtain ⟨c0, c1⟩ := HPC.out w3 B3.out
  go_wp2
  go_loopw [3, 11] (fun o i wr => ∃ k : Nat, k ≤ len ∧ i = .int .i64 (k : Int) ∧ Hid (Own wr w0.heap.size o (asInts (needTo n cs k))) ∧ Hid (Below w0.heap.size w0 wr)) (fun _ i _ => len - (intOf i).toNat)
  case atStart => exact ⟨0, Nat.zero_le _, rfl, Lib.hid (own_nil _ _), B3⟩
  case round =>
    obtain ⟨k, hk, rfl, HO, HB⟩ := hrel
    clear c0 c1
    by_cases hlt : k < len
    · obtain ⟨c0, c1⟩ := HPC.out wr HB.out
      have hkc : k < cs.length := by have := HZ.out; omega
      have hlw := length_without hkc
      have hl6 : (without cs k).length ≤ 6 := by rw [hlw]; have := HZ.out; omega
      have HWO := Lib.hid (without_any wr (n : Int) a len cap cs k hlt hl (HC.out.below HB.out))
      have HM2 := Lib.hid (solL_le h8 (without cs k))
      have i1 : (k : Int) < (len : Int) := by omega
      clear hlw
      go_wp2_with fail
      go_at_call 59
      refine HWO.out.mono ?_
      rintro e w4 ⟨v, rfl, o4, b4⟩
      have B4 : Hid (Below w0.heap.size w0 w4) := Lib.hid (HB.out.trans (b4.mono HB.out.size))
      have HO4 := Lib.hid (HO.out.below b4 (Nat.le_refl _))
      obtain ⟨ao, cp, rfl, hca, _⟩ := o4.cameC
      have HCT := Lib.hid (count_any w4 n h1 h8 ao (without cs k).length cp (without cs k) hl6 (clues_without HCL.out) hca)
      obtain ⟨m2, hm2⟩ : ∃ q, q = (solL n (without cs k)).length := ⟨_, rfl⟩
      have HY1 := Lib.hid (HYS.out k)
      have HN1 := Lib.hid (HNO.out k)
      rw [← hm2] at HCT HM2 HY1 HN1
      clear o4 b4 hca HO c0 c1 hm2
      go_wp2_with fail
      go_at_call 58
      refine HCT.out.mono ?_
      rintro e w5 ⟨rfl, b5⟩
      have B5 : Hid (Below w0.heap.size w0 w5) := Lib.hid (B4.out.trans (b5.mono B4.out.size))
      have HO5 := Lib.hid (HO4.out.below b5 (Nat.le_refl _))
      clear b5 HO4 B4
      have hz := B5.out.size
      have hbl : (asInts (needTo n cs k)).length ≤ 1000000000 := by rw [asInts_len]; have := needTo_le n cs k; omega
      by_cases he : m2 = m
      · have hq : ((m2 : Int) == (m : Int)) = true := by rw [beq_iff_eq]; omega
        have HR := Lib.hid (HY1.out he)
        go_wp2_with (at_builtin; refine wpList_app rfl _ _ rfl w5 _ _ _ _ rfl rfl HO5.out hz hbl ?_; intro v' w6 hO hB6; have HO6 : Hid (Own w6 w0.heap.size v' (asInts (needTo n cs (k + 1)))) := Lib.hid (by rw [HR.out]; exact hO); have HB6 : Hid (Below w0.heap.size w0 w6) := Lib.hid (B5.out.trans hB6); clear hO hB6)
        go_roundw
        case rel => exact ⟨k + 1, by omega, by go_num, HO6, HB6⟩
        case measure => simp [intOf]; omega
      · have hq : ((m2 : Int) == (m : Int)) = false := by rw [beq_eq_false_iff_ne]; omega
        have HO6 : Hid (Own w5 w0.heap.size _ (asInts (needTo n cs (k + 1)))) := Lib.hid (by rw [HN1.out he]; exact HO5.out)
        go_wp2
        go_roundw
        case rel => exact ⟨k + 1, by omega, by go_num, HO6, B5⟩
        case measure => simp [intOf]; omega
    · have hkl : k = len := by omega
      have HO2 : Hid (Own wr w.heap.size _ (asInts (needTo n cs len))) := Lib.hid (by rw [← hkl]; exact HO.out.mono HW0.out.size)
      clear HO hkl
      go_wp2
      go_ret
      exact ⟨_, rfl, HO2.out, HW0.out.trans (HB.out.mono HW0.out.size)⟩

set_option maxHeartbeats 4000000 in
set_option maxRecDepth 20000 in
theorem leftByClues_any (w : World) (n : Nat) (h1 : 1 ≤ n) (h8 : n ≤ 8) (a : Option Addr) (len cap : Nat) (cs : List RClue) (hl : len ≤ 6) (hcl : ∀ k, k < cs.length → clueB (n : Int) (cs.getD k zClue) = true) (hc : CameClue w a len cs) (hcp : len ≤ cap) :
    Calls Try.prog 35 #[.agg #[.int .i64 (n : Int), .slice a len cap]] w fun e w' => ∃ v, e = .returned v ∧ Own w' w.heap.size v (leftTo n cs (len + 1)) ∧ Below w.heap.size w w' := by
  obtain ⟨i0, hi, hz0, hz1, hz2⟩ := info_parts Try.info_int
  obtain ⟨w0, hw0⟩ : ∃ w0, w0 = w.alloc (.cells #[.int .i64 (n : Int), .slice a len cap] 31) := ⟨_, rfl⟩
  have HW0 : Hid (Below w.heap.size w w0) := Lib.hid (by rw [hw0]; exact (Below.refl _ _).alloc (Nat.le_refl _) _)
  obtain ⟨pb, hpb⟩ : ∃ pb, pb = w.heap.size := ⟨_, rfl⟩
  have HPC : Hid (∀ w2, Below w0.heap.size w0 w2 → BoxZ w2 pb (n : Int) (.slice a len cap)) := Lib.hid (fun w2 h => by
    have c0 : BoxZ w0 pb (n : Int) (.slice a len cap) := by rw [hw0, hpb]; exact BoxZ.new _ _ _ _
    exact c0.below h c0.lt)
  have HC : Hid (CameClue w0 a len cs) := Lib.hid (hc.below HW0.out)
  have HZ : Hid (cs.length = len) := Lib.hid hc.1
  have HCL := Lib.hid hcl
  obtain ⟨N, hN⟩ : ∃ N, N = len + 1 := ⟨_, rfl⟩
  have HN := Lib.hid hN
  have hN7 : N ≤ 7 := by omega
  have hNI : (len : Int) + 1 = (N : Int) := by omega
  obtain ⟨L, hL⟩ : ∃ L, L = leftTo n cs (len + 1) := ⟨_, rfl⟩
  rw [← hL]
  have HLL : Hid (N = L.length) := Lib.hid (by rw [hL, hN]; simp [leftTo, asInts])
  have HLK : Hid (∀ k, k < N → L.getD k 0 = ((leftN n cs k : Nat) : Int)) := Lib.hid (fun k hk => by
    rw [hN] at hk
    rw [hL]; simp [leftTo, asInts, List.getD_eq_getElem?_getD, hk])
  have HCU := Lib.hid (fun k (hk : k < N) w2 (h : Below w0.heap.size w0 w2) => cut_any w2 (n : Int) a len cap cs 0 k (by omega) (by rw [HN.out] at hk; omega) hcp (HC.out.below h))
  obtain ⟨c0, c1⟩ := HPC.out w0 (Below.refl _ _)
  clear hc hcl hN hL
  go_enter Try.func35, Try.ntmps35
  rw [hw0, hpb] at c1
  go_wp2_with (at_make; refine wpList_make_full _ rfl _ _ 26 rfl (w.alloc (.cells #[.int .i64 (n : Int), .slice a len cap] 31)).heap.size 3 i0 (.int .i64 0) 1 Try.underlying26 hi hz0 hz1 .i64 .i64 _ _ N rfl rfl rfl rfl (by rw [hz2]; omega) (by unfold maxLen; omega) (Nat.le_refl _) ?_; intro w3 hown hgrow)
  rw [← hw0] at hown hgrow
  have hO := made_own HLL.out hown
  have hb3 := below_made hgrow
  have B3 : Hid (Below w0.heap.size w0 w3) := Lib.hid hb3
  have y0 : w0.heap.size = w.heap.size + 1 := by rw [hw0]; exact Array.size_push _
  obtain ⟨g, hg⟩ : ∃ g, g = w.heap.size + 1 := ⟨_, rfl⟩
  have HO3 : Hid (Own w3 w0.heap.size (.slice (some ⟨g, 0, none⟩) N N) (copyTo L 0)) := Lib.hid (by rw [hg, ← y0]; exact hO)
  have HG : Hid (w0.heap.size ≤ g) := Lib.hid (by omega)
  rw [← hg, ← hpb]
  clear hown hgrow hO hb3 c0 c1 hw0 hg hpb hNI y0
  go_wp2
  go_loopw [12] (fun i wr => ∃ k : Nat, k ≤ N ∧ i = .int .i64 (k : Int) ∧ Hid (Own wr w0.heap.size (.slice (some ⟨g, 0, none⟩) N N) (copyTo L k)) ∧ Hid (Below w0.heap.size w0 wr)) (fun i _ => N - (intOf i).toNat)
  case atStart => exact ⟨0, Nat.zero_le _, rfl, HO3, B3⟩
  case round =>
    obtain ⟨k, hk, rfl, HO, HB⟩ := hrel
    by_cases hlt : k < N
    · obtain ⟨c0, c1⟩ := HPC.out wr HB.out
      have HCK := Lib.hid (HCU.out k hlt wr HB.out)
      have HV := Lib.hid (HLK.out k hlt)
      have i1 : (k : Int) < (N : Int) := by omega
      have i2 : (0 : Int) ≤ (k : Int) := by omega
      go_wp2_with fail
      go_at_call 61
      refine HCK.out.mono ?_
      rintro e w4 ⟨ao, rfl, hca, _, b4⟩
      have B4 : Hid (Below w0.heap.size w0 w4) := Lib.hid (HB.out.trans (b4.mono HB.out.size))
      have HO4 := Lib.hid (HO.out.below b4 (Nat.le_refl _))
      have HCT0 := count_any w4 n h1 h8 ao _ k _ (by rw [HN.out] at hlt; omega) (clues_take HCL.out) hca
      simp only [Nat.sub_zero] at HCT0
      have HCT := Lib.hid HCT0
      clear b4 hca HO c0 c1 HCT0
      simp only [Nat.sub_zero]
      go_wp2_with fail
      go_at_call 58
      refine HCT.out.mono ?_
      rintro e w5 ⟨rfl, b5⟩
      have B5 : Hid (Below w0.heap.size w0 w5) := Lib.hid (B4.out.trans (b5.mono B4.out.size))
      have HO5 := Lib.hid (HO4.out.below b5 (Nat.le_refl _))
      clear b5 HO4 B4
      have hcl2 := length_copyTo L k (by have := HLL.out; omega)
      have e3 := HO5.out.cell (by rw [hcl2]; exact HLL.out) k (by rw [hcl2]; have := HLL.out; omega)
      have f3 := HO5.out.free (by rw [hcl2]; exact HLL.out) k
      obtain ⟨y, hy⟩ : ∃ y, y = (copyTo L k).getD k 0 := ⟨_, rfl⟩
      rw [← hy] at e3
      have HO6 : Hid (Own (w5.setCell ⟨g, k, none⟩ (.int .i64 ((leftN n cs k : Nat) : Int))) w0.heap.size (.slice (some ⟨g, 0, none⟩) N N) (copyTo L (k + 1))) := Lib.hid (by
        rw [← copyTo_succ L k (by have := HLL.out; omega) _ HV.out.symm]; exact HO5.out.set (by rw [hcl2]; exact HLL.out) k _)
      have HB6 : Hid (Below w0.heap.size w0 (w5.setCell ⟨g, k, none⟩ (.int .i64 ((leftN n cs k : Nat) : Int)))) := Lib.hid (B5.out.setCell (p := ⟨g, k, none⟩) HG.out _)
      clear hy hcl2
      go_wp2
      go_roundw
      case rel => exact ⟨k + 1, by omega, by go_num, HO6, HB6⟩
      case measure => simp [intOf]; omega
    · have hkn : k = L.length := by have := HLL.out; omega
      have HO2 : Hid (Own wr w.heap.size (.slice (some ⟨g, 0, none⟩) N N) L) := Lib.hid (by
        have h := HO.out; rw [hkn, copyTo_all] at h; exact h.mono HW0.out.size)
      clear HO hkn
      go_wp2
      go_ret
      exact ⟨_, rfl, HO2.out, HW0.out.trans (HB.out.mono HW0.out.size)⟩

set_option maxHeartbeats 4000000 in
set_option maxRecDepth 20000 in
theorem leftByEach_any (w : World) (n : Nat) (h1 : 1 ≤ n) (h8 : n ≤ 8) (a : Option Addr) (len cap : Nat) (cs : List RClue) (hl : len ≤ 6) (hcl : ∀ k, k < cs.length → clueB (n : Int) (cs.getD k zClue) = true) (hc : CameClue w a len cs) (hcp : len ≤ cap) :
    Calls Try.prog 36 #[.agg #[.int .i64 (n : Int), .slice a len cap]] w fun e w' => ∃ v, e = .returned v ∧ Own w' w.heap.size v (asInts ((List.range len).map (oneN n cs))) ∧ Below w.heap.size w w' := by
  obtain ⟨i0, hi, hz0, hz1, hz2⟩ := info_parts Try.info_int
  obtain ⟨w0, hw0⟩ : ∃ w0, w0 = w.alloc (.cells #[.int .i64 (n : Int), .slice a len cap] 31) := ⟨_, rfl⟩
  have HW0 : Hid (Below w.heap.size w w0) := Lib.hid (by rw [hw0]; exact (Below.refl _ _).alloc (Nat.le_refl _) _)
  obtain ⟨pb, hpb⟩ : ∃ pb, pb = w.heap.size := ⟨_, rfl⟩
  have HPC : Hid (∀ w2, Below w0.heap.size w0 w2 → BoxZ w2 pb (n : Int) (.slice a len cap)) := Lib.hid (fun w2 h => by
    have c0 : BoxZ w0 pb (n : Int) (.slice a len cap) := by rw [hw0, hpb]; exact BoxZ.new _ _ _ _
    exact c0.below h c0.lt)
  have HC : Hid (CameClue w0 a len cs) := Lib.hid (hc.below HW0.out)
  have HZ : Hid (cs.length = len) := Lib.hid hc.1
  have HCL := Lib.hid hcl
  obtain ⟨L, hL⟩ : ∃ L, L = asInts ((List.range len).map (oneN n cs)) := ⟨_, rfl⟩
  rw [← hL]
  have HLL : Hid (len = L.length) := Lib.hid (by rw [hL]; simp [asInts])
  have HLK : Hid (∀ k, k < len → L.getD k 0 = ((oneN n cs k : Nat) : Int)) := Lib.hid (fun k hk => by
    rw [hL]; simp [asInts, List.getD_eq_getElem?_getD, hk])
  have HCU := Lib.hid (fun k (hk : k < len) w2 (h : Below w0.heap.size w0 w2) => cut_any w2 (n : Int) a len cap cs k (k + 1) (by omega) (by omega) hcp (HC.out.below h))
  obtain ⟨c0, c1⟩ := HPC.out w0 (Below.refl _ _)
  clear hc hcl hL
  go_enter Try.func36, Try.ntmps36
  rw [hw0, hpb] at c1
  go_wp2_with (at_make; refine wpList_make_full _ rfl _ _ 26 rfl (w.alloc (.cells #[.int .i64 (n : Int), .slice a len cap] 31)).heap.size 3 i0 (.int .i64 0) 1 Try.underlying26 hi hz0 hz1 .i64 .i64 _ _ len rfl rfl rfl rfl (by rw [hz2]; omega) (by unfold maxLen; omega) (Nat.le_refl _) ?_; intro w3 hown hgrow)
  rw [← hw0] at hown hgrow
  have hO := made_own HLL.out hown
  have hb3 := below_made hgrow
  have B3 : Hid (Below w0.heap.size w0 w3) := Lib.hid hb3
  have y0 : w0.heap.size = w.heap.size + 1 := by rw [hw0]; exact Array.size_push _
  obtain ⟨g, hg⟩ : ∃ g, g = w.heap.size + 1 := ⟨_, rfl⟩
  have HO3 : Hid (Own w3 w0.heap.size (.slice (some ⟨g, 0, none⟩) len len) (copyTo L 0)) := Lib.hid (by rw [hg, ← y0]; exact hO)
  have HG : Hid (w0.heap.size ≤ g) := Lib.hid (by omega)
  rw [← hg, ← hpb]
  clear hown hgrow hO hb3 c0 c1 hw0 hg hpb y0
  go_wp2
  go_loopw [11] (fun i wr => ∃ k : Nat, k ≤ len ∧ i = .int .i64 (k : Int) ∧ Hid (Own wr w0.heap.size (.slice (some ⟨g, 0, none⟩) len len) (copyTo L k)) ∧ Hid (Below w0.heap.size w0 wr)) (fun i _ => len - (intOf i).toNat)
  case atStart => exact ⟨0, Nat.zero_le _, rfl, HO3, B3⟩
  case round =>
    obtain ⟨k, hk, rfl, HO, HB⟩ := hrel
    by_cases hlt : k < len
    · obtain ⟨c0, c1⟩ := HPC.out wr HB.out
      have HCK := Lib.hid (HCU.out k hlt wr HB.out)
      have HV := Lib.hid (HLK.out k hlt)
      have i1 : (k : Int) < (len : Int) := by omega
      have i2 : (0 : Int) ≤ (k : Int) := by omega
      have i3 : IntKind.i64.wrap ((k : Int) + 1) = (k : Int) + 1 := IntWalk.i64_in _ (by omega)
      have ik : ((k + 1 : Nat) : Int) = (k : Int) + 1 := by omega
      rw [ik] at HCK
      clear ik
      go_wp2_with fail
      go_at_call 61
      refine HCK.out.mono ?_
      rintro e w4 ⟨ao, rfl, hca, _, b4⟩
      rw [show k + 1 - k = 1 by omega] at hca ⊢
      have B4 : Hid (Below w0.heap.size w0 w4) := Lib.hid (HB.out.trans (b4.mono HB.out.size))
      have HO4 := Lib.hid (HO.out.below b4 (Nat.le_refl _))
      have HCT0 := count_any w4 n h1 h8 ao _ 1 _ (by omega) (clues_take (clues_drop HCL.out)) hca
      skip
      have HCT := Lib.hid HCT0
      clear b4 hca HO c0 c1 HCT0
      skip
      go_wp2_with fail
      go_at_call 58
      refine HCT.out.mono ?_
      rintro e w5 ⟨rfl, b5⟩
      have B5 : Hid (Below w0.heap.size w0 w5) := Lib.hid (B4.out.trans (b5.mono B4.out.size))
      have HO5 := Lib.hid (HO4.out.below b5 (Nat.le_refl _))
      clear b5 HO4 B4
      have hcl2 := length_copyTo L k (by have := HLL.out; omega)
      have e3 := HO5.out.cell (by rw [hcl2]; exact HLL.out) k (by rw [hcl2]; have := HLL.out; omega)
      have f3 := HO5.out.free (by rw [hcl2]; exact HLL.out) k
      obtain ⟨y, hy⟩ : ∃ y, y = (copyTo L k).getD k 0 := ⟨_, rfl⟩
      rw [← hy] at e3
      have HO6 : Hid (Own (w5.setCell ⟨g, k, none⟩ (.int .i64 ((oneN n cs k : Nat) : Int))) w0.heap.size (.slice (some ⟨g, 0, none⟩) len len) (copyTo L (k + 1))) := Lib.hid (by
        rw [← copyTo_succ L k (by have := HLL.out; omega) _ HV.out.symm]; exact HO5.out.set (by rw [hcl2]; exact HLL.out) k _)
      have HB6 : Hid (Below w0.heap.size w0 (w5.setCell ⟨g, k, none⟩ (.int .i64 ((oneN n cs k : Nat) : Int)))) := Lib.hid (B5.out.setCell (p := ⟨g, k, none⟩) HG.out _)
      clear hy hcl2
      go_wp2
      go_roundw
      case rel => exact ⟨k + 1, by omega, by go_num, HO6, HB6⟩
      case measure => simp [intOf]; omega
    · have hkn : k = L.length := by have := HLL.out; omega
      have HO2 : Hid (Own wr w.heap.size (.slice (some ⟨g, 0, none⟩) len len) L) := Lib.hid (by
        have h := HO.out; rw [hkn, copyTo_all] at h; exact h.mono HW0.out.size)
      clear HO hkn
      go_wp2
      go_ret
      exact ⟨_, rfl, HO2.out, HW0.out.trans (HB.out.mono HW0.out.size)⟩


end Go.Proofs.Ytodlpdbmiicdfab
