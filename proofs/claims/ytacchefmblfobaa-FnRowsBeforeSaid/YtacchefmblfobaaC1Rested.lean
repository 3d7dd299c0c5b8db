
/- rested, turnsUntilRest, pairsUntilRest. -/
import Derived.Test.YtacchefmblfobaaC1Txt
import Derived.Test.YtacchefmblfobaaC1Settle
import Derived.Test.YtacchefmblfobaaC1Slices
namespace Go.Proofs.Ytacchefmblfobaa.C1
open Go.ChangeShapes Go.WideShapes Go.ChangeAt Go.RowKit

set_option maxRecDepth 20000 in
set_option maxHeartbeats 1000000 in
theorem rested_any (g : Nat) (m : List Bool) (c : List Nat) (h1 : 1 ≤ m.length) (h2 : m.length ≤ 60) (hc : c.sum ≤ 50000) (B : Nat) (hB : B ≤ g) (w0 w : World) (hB0 : B ≤ w0.heap.size) (hb : Below B w0 w) (hT : Trp w g m c) :
    Calls Try.prog 68 #[.slice (some ⟨g, 0, none⟩) m.length m.length] w fun e w' => e = .returned (.string (Rw.str (Rw.restOf m))) ∧ Below B w0 w' := by
  have HC := Lib.hid (settle_any g m c h1 h2 hc w hT)
  have HX := Lib.hid (fun w2 c2 h => text_any g (Rw.restOf m) c2 (by rw [Rw.length_restOf]; exact h1) (by rw [Rw.length_restOf]; exact h2) w2 h)
  rw [Rw.length_restOf] at HX
  obtain ⟨n, hn⟩ : ∃ n, n = m.length := ⟨_, rfl⟩
  rw [← hn] at HC HX ⊢
  have Hb := Lib.hid hb
  have hws := hb.size
  clear hn hT hb
  go_enter Try.func68, Try.ntmps68
  go_wp2_with fail
  go_at_call 64
  refine HC.out.mono ?_
  rintro e w2 ⟨rfl, hT2, hG2⟩
  have H2 : Hid (Below B w0 w2) := grownBy_below Hb.out hG2 hB0 hB
  have hz := H2.out.size
  have HT2 := Lib.hid hT2
  clear hT2 hG2
  go_wp2_with fail
  go_at_call 84
  refine (HX.out _ _ HT2.out).mono ?_
  rintro e w3 ⟨rfl, hb3⟩
  have H3 : Hid (Below B w0 w3) := H2.out.trans (hb3.mono (by omega))
  clear hb3
  go_wp2
  go_ret
  exact ⟨rfl, H3.out⟩

/-- the list as far as it has been copied -/
def copyTo (zs : List Int) (k : Nat) : List Int := zs.take k ++ List.replicate (zs.length - k) 0
theorem length_copyTo (zs : List Int) (k : Nat) (hk : k ≤ zs.length) : (copyTo zs k).length = zs.length := by simp [copyTo]; omega
theorem copyTo_zero (zs : List Int) : copyTo zs 0 = List.replicate zs.length 0 := by simp [copyTo]
theorem copyTo_all (zs : List Int) : copyTo zs zs.length = zs := by simp [copyTo]
theorem copyTo_succ (zs : List Int) (k : Nat) (hk : k < zs.length) (x : Int) (hx : x = zs.getD k 0) : (copyTo zs k).set k x = copyTo zs (k + 1) := by
  subst hx
  unfold copyTo
  have e : zs.length - k = (zs.length - (k + 1)) + 1 := by omega
  rw [e, List.replicate_succ, List.set_append_right _ _ (by rw [List.length_take]; omega), List.take_succ_eq_append_getElem hk, List.append_assoc]
  congr 1
  rw [List.length_take, Nat.min_eq_left (by omega), Nat.sub_self, List.set_cons_zero]
  simp [List.getD_eq_getElem?_getD, hk]
theorem asInts_len (c : List Nat) : (asInts c).length = c.length := by simp [asInts]
theorem getD_asInts (c : List Nat) (k : Nat) : (asInts c).getD k 0 = ((c.getD k 0 : Nat) : Int) := by
  simp only [asInts, List.getD_eq_getElem?_getD, List.getElem?_map]
  cases c[k]? <;> rfl

theorem made_own {w w1 : World} {B n : Nat} {zs : List Int} (hn : n = zs.length) (h : w1.ownsRow B 3 1 (.slice (some ⟨w.heap.size, 0, none⟩) n n) n (madeCells #[.int .i64 0] (n * 1)).toList) :
    Own w1 B (.slice (some ⟨w.heap.size, 0, none⟩) n n) (copyTo zs 0) := by
  unfold Own
  rw [copyTo_zero, ← hn, List.length_replicate]
  rw [Nat.mul_one, toList_madeCells_one] at h
  rw [List.map_replicate]; exact h

set_option maxRecDepth 20000 in
set_option maxHeartbeats 2000000 in
theorem turnsUntilRest_any (g : Nat) (m : List Bool) (c : List Nat) (h1 : 1 ≤ m.length) (h2 : m.length ≤ 60) (hc : c.sum ≤ 50000) (B : Nat) (hB : B ≤ g) (w0 w : World) (hB0 : B ≤ w0.heap.size) (hb : Below B w0 w) (hT : Trp w g m c) :
    Calls Try.prog 73 #[.slice (some ⟨g, 0, none⟩) m.length m.length] w fun e w' => ∃ v, e = .returned v ∧ Own w' B v (asInts (Rw.turnsOf m c)) ∧ Below B w0 w' := by
  obtain ⟨i0, hi, hz0, hz1, hz2⟩ := info_parts Try.info_int
  have HC := Lib.hid (settle_any g m c h1 h2 hc w hT)
  have hlr := Rw.length_restOf m
  have hlt := Rw.length_turnsOf m c
  have hmc := hT.2
  obtain ⟨n, hn⟩ : ∃ n, n = m.length := ⟨_, rfl⟩
  obtain ⟨c', hc'⟩ : ∃ c', c' = Rw.turnsOf m c := ⟨_, rfl⟩
  rw [← hc'] at HC hlt ⊢
  rw [← hn] at HC hlr h1 h2 ⊢
  have hcl : Hid (n = (asInts c').length) := Lib.hid (by simp only [asInts, List.length_map]; omega)
  have Hb := Lib.hid hb
  have HLR := Lib.hid hlr
  clear hn hT hb hc' hlt hmc hlr
  go_enter Try.func73, Try.ntmps73
  go_wp2_with fail
  go_at_call 64
  refine HC.out.mono ?_
  rintro e w2 ⟨rfl, hT2, hG2⟩
  have HT2 := Lib.hid hT2
  have hgl := hT2.lt
  have H2 : Hid (Below B w0 w2) := grownBy_below Hb.out hG2 hB0 hB
  have hz2' := H2.out.size
  clear hT2 hG2
  go_wp2_with (at_make; refine wpList_make_full _ rfl _ _ 29 rfl B 3 i0 (.int .i64 0) 1 Try.underlying29 hi hz0 hz1 .i64 .i64 _ _ n rfl rfl rfl rfl (by rw [hz2]; omega) (by unfold maxLen; omega) (by omega) ?_; intro w3 hown hgrow)
  have hO := made_own hcl.out hown
  have hb3 := below_made hgrow
  have HT3 := Lib.hid (HT2.out.below hb3 hgl)
  have H3 : Hid (Below B w0 w3) := H2.out.trans (hb3.mono (by omega))
  have hgs : w2.heap.size < w3.heap.size := by
    rcases hO.shape with ⟨h, _⟩ | ⟨g', cap', h, _, hl⟩
    · cases h
    · cases h; exact hl
  clear hown hgrow hb3
  go_loopw [13] (fun i wr => ∃ k : Nat, k ≤ n ∧ i = .int .i64 k ∧ Own wr B (.slice (some ⟨w2.heap.size, 0, none⟩) n n) (copyTo (asInts c') k) ∧ Below w2.heap.size w3 wr ∧ Below B w0 wr) (fun i _ => n - (intOf i).toNat)
  case atStart => exact ⟨0, Nat.zero_le _, rfl, hO, Below.refl _ _, H3.out⟩
  case round =>
    obtain ⟨k, hk, rfl, ho, hbr, hbb⟩ := hrel
    have hcpl := length_copyTo (asInts c') k (by have := hcl.out; omega)
    by_cases hlt : k < n
    · have hTr := HT3.out.below hbr hgl
      have e1 := hTr.cellB k (by have := HLR.out; omega)
      have e2 := hTr.cellI k (by have := HLR.out; omega)
      have e3 := ho.cell (by have := hcl.out; omega) k (by have := hcl.out; omega)
      have f3 := ho.free (by have := hcl.out; omega) k
      have HS := Lib.hid (copyTo_succ (asInts c') k (by have := hcl.out; omega) _ (getD_asInts c' k).symm)
      obtain ⟨b, hb⟩ : ∃ b, b = (Rw.restOf m).getD k false := ⟨_, rfl⟩
      obtain ⟨x, hx⟩ : ∃ x, x = c'.getD k 0 := ⟨_, rfl⟩
      obtain ⟨y, hy⟩ : ∃ y, y = (copyTo (asInts c') k).getD k 0 := ⟨_, rfl⟩
      rw [← hb] at e1
      rw [← hx] at e2 HS
      rw [← hy] at e3
      have HO : Hid (Own (wr.setCell ⟨w2.heap.size, k, none⟩ (.int .i64 (x : Int))) B (.slice (some ⟨w2.heap.size, 0, none⟩) n n) (copyTo (asInts c') (k + 1))) := by
        rw [← HS.out]; exact ho.set (by have := hcl.out; omega) k _
      have HB1 := Lib.hid (hbr.setCell (p := ⟨w2.heap.size, k, none⟩) (Nat.le_refl _) (.int .i64 (x : Int)))
      have HB2 := Lib.hid (hbb.setCell (p := ⟨w2.heap.size, k, none⟩) (by show B ≤ w2.heap.size; omega) (.int .i64 (x : Int)))
      have hwz : w2.heap.size < wr.heap.size := by have := hbr.size; omega
      clear hb hx hy ho hbr hbb hTr hO hcpl
      go_wp2
      go_roundw
      case rel => exact ⟨k + 1, by omega, by go_num, own_alloc HO.out _, HB1.out.alloc (by simp; omega) _, HB2.out.alloc (by simp; omega) _⟩
      case measure => simp [intOf]; omega
    · have hkn : k = (asInts c').length := by have := hcl.out; omega
      rw [hkn, copyTo_all] at ho
      have HO := Lib.hid ho
      have HBB := Lib.hid hbb
      clear hkn ho hbr hbb hO hcpl
      go_wp2
      go_ret
      exact ⟨_, rfl, HO.out, HBB.out⟩

theorem sumTo_succ (c : List Nat) (k : Nat) (hk : k < c.length) : (c.take (k + 1)).sum = (c.take k).sum + c.getD k 0 := by
  rw [List.take_succ_eq_append_getElem hk, List.sum_append]; simp [List.getD_eq_getElem?_getD, hk]
theorem sumTo_le (c : List Nat) (k : Nat) : (c.take k).sum ≤ c.sum := by
  have h : (c.take k ++ c.drop k).sum = c.sum := by rw [List.take_append_drop]
  rw [List.sum_append] at h
  omega
set_option maxRecDepth 20000 in
set_option maxHeartbeats 2000000 in
theorem pairsUntilRest_any (g : Nat) (m : List Bool) (c : List Nat) (h1 : 1 ≤ m.length) (h2 : m.length ≤ 60) (hc : c.sum ≤ 0) (B : Nat) (hB : B ≤ g) (w0 w : World) (hB0 : B ≤ w0.heap.size) (hb : Below B w0 w) (hT : Trp w g m c) :
    Calls Try.prog 69 #[.slice (some ⟨g, 0, none⟩) m.length m.length] w fun e w' => e = .returned (.int .i64 (Rw.countOf m : Nat)) ∧ Below B w0 w' := by
  have HC := Lib.hid (turnsUntilRest_any g m c h1 h2 (by omega) B hB w0 w hB0 hb hT)
  have hsum := Rw.sum_turnsOf m c hT.2.symm
  have hcl := Rw.length_turnsOf m c
  have hmc := hT.2
  have hcb := Rw.countOf_le m
  have hmw := Rw.mw_row m h2
  obtain ⟨n, hn⟩ : ∃ n, n = m.length := ⟨_, rfl⟩
  obtain ⟨c', hc'⟩ : ∃ c', c' = Rw.turnsOf m c := ⟨_, rfl⟩
  rw [← hc'] at HC hsum hcl
  rw [← hn] at HC h1 h2 ⊢
  obtain ⟨K, hK⟩ : ∃ K, K = Rw.countOf m := ⟨_, rfl⟩
  rw [← hK] at hsum hcb ⊢
  have hs2 : c'.sum ≤ 7200 := by omega
  have hs3 : Hid (c'.sum = 2 * K) := Lib.hid (by omega)
  have hnl : Hid (n = (asInts c').length) := Lib.hid (by simp only [asInts, List.length_map]; omega)
  have hnc : Hid (n = c'.length) := Lib.hid (by omega)
  clear hn hT hb hc' hcl hmc hK hsum hmw
  go_enter Try.func69, Try.ntmps69
  go_wp2_with fail
  go_at_call 73
  refine HC.out.mono ?_
  rintro e w2 ⟨v, rfl, ho, hb2⟩
  obtain ⟨gv, cap, rfl, _, _⟩ := ho.point (by have := hnl.out; omega)
  have HO := Lib.hid ho
  have HB := Lib.hid hb2
  rw [← hnl.out] at HO ⊢
  clear ho hb2
  go_wp2
  go_loop [3, 9] (fun s i => ∃ k : Nat, k ≤ n ∧ i = .int .i64 k ∧ s = .int .i64 ((c'.take k).sum : Nat)) (fun _ i => n - (intOf i).toNat)
  case atStart => exact ⟨0, Nat.zero_le _, rfl, rfl⟩
  case round =>
    obtain ⟨k, hk, rfl, rfl⟩ := hrel
    have hsl := sumTo_le c' k
    by_cases hlt : k < n
    · have e1 := HO.out.cell hnl.out k (by have := hnl.out; omega)
      rw [getD_asInts] at e1
      have HS := Lib.hid (sumTo_succ c' k (by have := hnc.out; omega))
      have hx := Rw.getD_le_sum c' k
      obtain ⟨x, hxx⟩ : ∃ x, x = c'.getD k 0 := ⟨_, rfl⟩
      obtain ⟨S, hS⟩ : ∃ S, S = (c'.take k).sum := ⟨_, rfl⟩
      rw [← hxx] at e1 HS hx
      rw [← hS] at HS hsl ⊢
      clear hxx hS
      go_wp2
      go_round
      case rel => exact ⟨k + 1, by omega, by go_num, int_eq (by rw [HS.out]; omega)⟩
      case measure => simp [intOf]; omega
    · have hke : k = c'.length := by have := hnc.out; omega
      have H1 : Hid ((c'.take k).sum = 2 * K) := by rw [hke, List.take_length]; exact hs3.out
      obtain ⟨S, hS⟩ : ∃ S, S = (c'.take k).sum := ⟨_, rfl⟩
      rw [← hS] at H1 hsl ⊢
      clear hke hS
      go_wp2
      go_ret
      exact ⟨ret_int (by have := H1.out; omega), HB.out⟩

end Go.Proofs.Ytacchefmblfobaa.C1
