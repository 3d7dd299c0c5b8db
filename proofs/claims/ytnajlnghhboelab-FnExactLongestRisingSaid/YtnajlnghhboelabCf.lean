/- Chains: the program's chainsFrom. -/
import Derived.Test.YtnajlnghhboelabCh
import Derived.RegionTactic
import Derived.BigRegion
namespace Go.Proofs.Ytnajlnghhboelab
open Go.ChangeShapes Go.WideShapes Go.ChangeAt Go.RowKit

theorem Blk.setOther {w : World} {g : Nat} {t : TypeId} {cs : List Value} (h : Blk w g t cs) {b : Nat} (hne : b ≠ g) (j : Nat) (v : Value) : Blk (w.setCell ⟨b, j, none⟩ v) g t cs :=
  h.grown (set_grown w b j v) (fun e => hne (by cases e; rfl))
def nums (l : List Nat) : List Value := vals (asInts l)
theorem length_nums (l : List Nat) : (nums l).length = l.length := by unfold nums; rw [length_vals, asInts_len]
theorem nums_get (l : List Nat) (j : Nat) (hj : j < l.length) : (nums l)[j]? = some (.int .i64 (l.getD j 0 : Nat)) := by
  unfold nums; rw [vals_get _ _ (by rw [asInts_len]; exact hj), getD_asInts]
theorem nums_set (l : List Nat) (j x : Nat) : (nums l).set j (.int .i64 (x : Int)) = nums (l.set j x) := by
  unfold nums; rw [vals_set, asInts_set]
theorem nums_one (l : List Nat) : ∀ v ∈ nums l, v.oneCell' = true := ints_one _
theorem Blk.num {w : World} {g : Nat} {t : TypeId} {l : List Nat} (h : Blk w g t (nums l)) (j : Nat) (hj : j < l.length) : w.cell? ⟨g, j, none⟩ = some (.int .i64 (l.getD j 0 : Nat)) := by
  rw [h.cell j, nums_get _ _ hj]
theorem Try.info_arr : (Try.prog.info? 45).map (fun i => (i.zero, i.size)) = some (some (.agg (nums (List.replicate 40 0)).toArray), 40) := by kernel_rfl
theorem Try.size_arr : (Try.prog.info? 45).map (·.size) = some 40 := by kernel_rfl

set_option maxHeartbeats 400000 in
theorem rises_q (x y : Nat) (w : World) : Calls Try.prog 51 #[.int .i64 (x : Int), .int .i64 (y : Int)] w fun e w' => e = .returned (.bool (He.up x y)) ∧ w' = w := by
  go_enter Try.func51, Try.ntmps51
  go_wp2
  go_ret
  exact ⟨ret_bool (by unfold He.up; simp), rfl⟩
set_option maxHeartbeats 400000 in
theorem falls_q (x y : Nat) (w : World) : Calls Try.prog 55 #[.int .i64 (x : Int), .int .i64 (y : Int)] w fun e w' => e = .returned (.bool (He.down x y)) ∧ w' = w := by
  go_enter Try.func55, Try.ntmps55
  go_wp2
  go_ret
  exact ⟨ret_bool (by unfold He.down; simp), rfl⟩

set_option maxHeartbeats 4000000 in
theorem chains_down (w : World) (hs : List Nat) (h1 : 1 ≤ hs.length) (h2 : hs.length ≤ 40) :
    Calls Try.prog 50 #[.agg (hc hs).toArray, .func (.func 55) #[] #[]] w fun e w' => e = .returned (.agg (nums (He.pad (He.ch He.down hs))).toArray) ∧ Below w.heap.size w w' := by
  obtain ⟨len, hlen⟩ : ∃ n, n = hs.length := ⟨_, rfl⟩
  have HZL := Lib.hid hlen
  have HCL : Hid ((He.ch He.down hs).length = len) := Lib.hid (by rw [He.length_ch]; exact hlen.symm)
  rw [← hlen] at h1 h2
  have HPL : Hid ((He.pad (He.ch He.down hs)).length = 40) := Lib.hid (He.length_pad _ (by have := HCL.out; omega))
  have HZP : Hid (He.zerosTo (He.pad (He.ch He.down hs)) len = List.replicate 40 0) := Lib.hid (by have := He.zerosTo_pad (He.ch He.down hs) (by have := HCL.out; omega); rw [HCL.out] at this; exact this)
  clear hlen
  go_enter Try.func50, Try.ntmps50
  go_wp2_with (refine wpList_box 47 _ rfl rfl (hc hs) rfl ?_; intro w1 g G1 B1 L1)
  refine ⟨?_⟩
  go_wp2_with (refine wpList_new 45 rfl rfl _ _ Try.info_arr ?_; intro w2 r G2 R2 L2)
  refine ⟨?_⟩
  go_wp2_with (refine wpList_new 45 rfl rfl _ _ Try.info_arr ?_; intro w3 c G3 C3 L3)
  refine ⟨?_⟩
  have hrg : Hid (r ≠ g ∧ c ≠ g ∧ c ≠ r ∧ w.heap.size ≤ c ∧ w.heap.size ≤ r) := Lib.hid (by
    have := G1.out; have := G2.out; have := G3.out; have := L1.out.size; have := L2.out.size; have := B1.out.lt; have := R2.out.lt
    omega)
  have BG := Lib.hid ((B1.out.below L2.out B1.out.lt).below L3.out (by have := B1.out.lt; have := L2.out.size; omega))
  have BR := Lib.hid (R2.out.below L3.out R2.out.lt)
  have LA : Hid (Below w.heap.size w w3) := (L1.out.trans (L2.out.mono L1.out.size)).trans (L3.out.mono (by have := L1.out.size; have := L2.out.size; omega))
  have CC : Hid (Blk w3 c 45 (nums (He.zerosTo (He.pad (He.ch He.down hs)) len))) := Lib.hid (by rw [HZP.out]; exact C3.out)
  have ec := BG.out.count (by have := HZL.out; omega)
  rw [← HZL.out] at ec
  clear B1 R2 C3 L1 L2 L3 G1 G2 G3
  go_wp2
  clear ec
  go_loopw [6] (fun i wr => ∃ k : Nat, k ≤ len ∧ i = .int .i64 ((k : Int) - 1) ∧ Blk wr c 45 (nums (He.zerosTo (He.pad (He.ch He.down hs)) k)) ∧ Blk wr g 47 (hc hs) ∧ Blk wr r 45 (nums (List.replicate 40 0)) ∧ Below w.heap.size w wr) (fun i _ => (intOf i + 1).toNat)
  case atStart => exact ⟨len, Nat.le_refl _, rfl, CC.out, BG.out, BR.out, LA.out⟩
  case round =>
    obtain ⟨k, hk, rfl, hcc, hg, hr, hb⟩ := hrel
    rcases k with _ | k
    · have C2 : Hid (Blk wr c 45 (nums (He.pad (He.ch He.down hs)))) := Lib.hid (by rw [He.zerosTo_zero] at hcc; exact hcc)
      have R2 := Lib.hid hr
      have HB := Lib.hid hb
      clear hcc hg hr hb
      go_wp2_with (refine wpList_loadAll 45 _ rfl rfl c _ (nums (He.pad (He.ch He.down hs))) _ Try.underlying45 rfl 40 Try.size_arr rfl C2 (by rw [length_nums]; exact HPL.out) ?_)
      refine ⟨?_⟩
      go_wp2_with (refine wpList_storeAll 45 _ _ rfl rfl r _ (nums (List.replicate 40 0)) (nums (He.pad (He.ch He.down hs))) 40 Try.size_arr rfl rfl R2 (by rw [length_nums]; exact HPL.out) (by rw [length_nums]; simp) (nums_one _) ?_; intro w4 R4 L4)
      refine ⟨?_⟩
      go_wp2
      refine ret_cell 4 45 (by kernel_rfl) r _ (nums (He.pad (He.ch He.down hs))) _ Try.underlying45 rfl 40 Try.size_arr rfl R4.out (by rw [length_nums]; exact HPL.out) rfl ?_
      exact ⟨rfl, grownBy_below HB.out L4.out (Nat.le_refl _) hrg.out.2.2.2.2⟩
    · have ek : ((k + 1 : Nat) : Int) - 1 = (k : Int) := by omega
      rw [ek]
      have HFL : Hid ((He.zerosTo (He.pad (He.ch He.down hs)) (k + 1)).length = 40) := Lib.hid (by rw [He.length_zerosTo _ _ (by have := HPL.out; omega)]; exact HPL.out)
      have f3 := hcc.free k
      have e3 := hcc.num k (by have := HFL.out; omega)
      obtain ⟨z, hzz⟩ : ∃ z, z = (He.zerosTo (He.pad (He.ch He.down hs)) (k + 1)).getD k 0 := ⟨_, rfl⟩
      rw [← hzz] at e3
      have hc2 := hcc.set k (.int .i64 ((1 : Nat) : Int))
      rw [nums_set] at hc2
      have HC2 : Hid (Blk (wr.setCell ⟨c, k, none⟩ (.int .i64 1)) c 45 (nums ((He.zerosTo (He.pad (He.ch He.down hs)) (k + 1)).set k (1 + He.bta He.down hs k (k + 1))))) := Lib.hid (by rw [He.bta_start _ _ _ _ (Nat.le_refl _)]; exact hc2)
      have HG2 := Lib.hid (hg.setOther hrg.out.2.1 k (.int .i64 1))
      have HR2 := Lib.hid (hr.setOther hrg.out.2.2.1 k (.int .i64 1))
      have HB2 := Lib.hid (hb.setCell (p := ⟨c, k, none⟩) hrg.out.2.2.2.1 (.int .i64 1))
      have i1 : (0 : Int) ≤ (k : Int) := by omega
      have i2 : (k : Int) < 40 := by omega
      clear hcc hg hr hb hzz hc2 ek
      go_wp2
      clear f3 e3
      go_loopw [7] (fun jv wq => ∃ j : Nat, k < j ∧ j ≤ len ∧ jv = .int .i64 (j : Int) ∧ Blk wq c 45 (nums ((He.zerosTo (He.pad (He.ch He.down hs)) (k + 1)).set k (1 + He.bta He.down hs k j))) ∧ Blk wq g 47 (hc hs) ∧ Blk wq r 45 (nums (List.replicate 40 0)) ∧ Below w.heap.size w wq) (fun jv _ => len - (intOf jv).toNat)
      case atStart => exact ⟨k + 1, by omega, by omega, by go_num, HC2.out, HG2.out, HR2.out, HB2.out⟩
      case round =>
        obtain ⟨j, hkj, hj, rfl, hcq, hgq, hrq, hbq⟩ := hrel
        have hle := He.bta_le He.down hs k j
        have hle2 : He.bta He.down hs k j ≤ 40 := by have := HZL.out; omega
        have ec := hgq.count (by have := HZL.out; omega)
        rw [← HZL.out] at ec
        by_cases hlt : j < len
        · have e1 := hgq.tall (by have := HZL.out; omega) k (by omega)
          have e2 := hgq.tall (by have := HZL.out; omega) j (by omega)
          have i3 : (0 : Int) ≤ (j : Int) := by omega
          have i4 : (j : Int) < 40 := by omega
          have HRS := Lib.hid (fun w2 => falls_q (hs.getD k 0) (hs.getD j 0) w2)
          rcases hxy : He.down (hs.getD k 0) (hs.getD j 0) with _ | _
          · have HS := Lib.hid (He.bta_no He.down hs k j hxy)
            rw [hxy] at HRS
            have HCQ : Hid (Blk wr c 45 (nums ((He.zerosTo (He.pad (He.ch He.down hs)) (k + 1)).set k (1 + He.bta He.down hs k (j + 1))))) := Lib.hid (by rw [HS.out]; exact hcq)
            have HGQ := Lib.hid hgq
            have HRQ := Lib.hid hrq
            have HBQ := Lib.hid hbq
            obtain ⟨x, hx⟩ : ∃ x, x = hs.getD k 0 := ⟨_, rfl⟩
            obtain ⟨y, hy⟩ : ∃ y, y = hs.getD j 0 := ⟨_, rfl⟩
            rw [← hx] at e1 HRS
            rw [← hy] at e2 HRS
            clear hx hy hcq hgq hrq hbq hle hxy
            go_wp2_with fail
            go_quiet ((go_at_call 55; exact Calls.quiet_of_same (HRS.out _)))
            go_wp2
            go_roundw
            case rel => exact ⟨j + 1, by omega, by omega, by go_num, HCQ.out, HGQ.out, HRQ.out, ⟨HBQ.out.os, HBQ.out.tape, HBQ.out.output, HBQ.out.size, HBQ.out.block⟩⟩
            case measure => simp [intOf]; omega
          · have HS := Lib.hid (He.bta_yes He.down hs k j hkj hxy)
            rw [hxy] at HRS
            have hlq : ((He.zerosTo (He.pad (He.ch He.down hs)) (k + 1)).set k (1 + He.bta He.down hs k j)).length = 40 := by rw [List.length_set]; exact HFL.out
            have f3 := hcq.free k
            have e3 := hcq.num k (by omega)
            rw [show ((He.zerosTo (He.pad (He.ch He.down hs)) (k + 1)).set k (1 + He.bta He.down hs k j)).getD k 0 = 1 + He.bta He.down hs k j from by rw [getD_set, if_pos ⟨rfl, by have := HFL.out; omega⟩]] at e3
            have e4 := hcq.num j (by omega)
            rw [show ((He.zerosTo (He.pad (He.ch He.down hs)) (k + 1)).set k (1 + He.bta He.down hs k j)).getD j 0 = (He.ch He.down hs).getD j 0 from by rw [getD_set, if_neg (by omega), He.getD_zerosTo _ _ _ (by omega), He.getD_pad]] at e4
            have hcb := (He.ch_bd He.down hs j).1
            have hcb2 : (He.ch He.down hs).getD j 0 ≤ 40 := by have := HZL.out; omega
            have hc4 := hcq.set k (.int .i64 ((1 + max (He.bta He.down hs k j) ((He.ch He.down hs).getD j 0) : Nat) : Int))
            rw [nums_set, List.set_set] at hc4
            obtain ⟨q, hq⟩ : ∃ q, q = (He.ch He.down hs).getD j 0 := ⟨_, rfl⟩
            obtain ⟨d, hd⟩ : ∃ d, d = He.bta He.down hs k j := ⟨_, rfl⟩
            rw [← hq] at e4 hcb2 HS hc4
            rw [← hd] at e3 hle2 HS hc4
            have hv : ((1 + max d q : Nat) : Int) = (if 1 + (d : Int) < (q : Int) + 1 then (q : Int) + 1 else 1 + (d : Int)) := by split <;> omega
            rw [hv] at hc4
            have HC4 : Hid (Blk (wr.setCell ⟨c, k, none⟩ (.int .i64 (if 1 + (d : Int) < (q : Int) + 1 then (q : Int) + 1 else 1 + (d : Int)))) c 45 (nums ((He.zerosTo (He.pad (He.ch He.down hs)) (k + 1)).set k (1 + He.bta He.down hs k (j + 1))))) := Lib.hid (by rw [HS.out]; exact hc4)
            have HG4 := Lib.hid (hgq.setOther hrg.out.2.1 k (.int .i64 (if 1 + (d : Int) < (q : Int) + 1 then (q : Int) + 1 else 1 + (d : Int))))
            have HR4 := Lib.hid (hrq.setOther hrg.out.2.2.1 k (.int .i64 (if 1 + (d : Int) < (q : Int) + 1 then (q : Int) + 1 else 1 + (d : Int))))
            have HB4 := Lib.hid (hbq.setCell (p := ⟨c, k, none⟩) hrg.out.2.2.2.1 (.int .i64 (if 1 + (d : Int) < (q : Int) + 1 then (q : Int) + 1 else 1 + (d : Int))))
            obtain ⟨x, hx⟩ : ∃ x, x = hs.getD k 0 := ⟨_, rfl⟩
            obtain ⟨y, hy⟩ : ∃ y, y = hs.getD j 0 := ⟨_, rfl⟩
            rw [← hx] at e1 HRS
            rw [← hy] at e2 HRS
            clear hx hy hcq hgq hrq hbq hle hxy hcb hc4 hq hd hv hlq
            go_wp2_with fail
            go_quiet ((go_at_call 55; exact Calls.quiet_of_same (HRS.out _)))
            go_wp2_with fail
            go_region
            go_wp2
            go_roundw
            case rel => exact ⟨j + 1, by omega, by omega, by go_num, HC4.out, HG4.out, HR4.out, ⟨HB4.out.os, HB4.out.tape, HB4.out.output, HB4.out.size, HB4.out.block⟩⟩
            case measure => simp [intOf]; omega
        · have hjl : j = hs.length := by have := HZL.out; omega
          have HE : Hid (1 + He.bta He.down hs k j = (He.pad (He.ch He.down hs)).getD k 0) := Lib.hid (by rw [hjl, He.getD_pad, He.bta_end He.down hs k (by have := HZL.out; omega)]; omega)
          have HC2 : Hid (Blk wr c 45 (nums (He.zerosTo (He.pad (He.ch He.down hs)) k))) := Lib.hid (by rw [He.zerosTo_set _ _ (by have := HPL.out; omega) _ HE.out] at hcq; exact hcq)
          have HGQ := Lib.hid hgq
          have HRQ := Lib.hid hrq
          have HBQ := Lib.hid hbq
          clear hcq hgq hrq hbq hle hle2 hjl
          go_wp2
          go_roundw
          case rel => exact ⟨k, by omega, rfl, HC2.out, HGQ.out, HRQ.out, HBQ.out⟩
          case measure => first | (simp [intOf]; done) | (simp [intOf]; omega)

set_option maxHeartbeats 4000000 in
theorem chains_up (w : World) (hs : List Nat) (h1 : 1 ≤ hs.length) (h2 : hs.length ≤ 40) :
    Calls Try.prog 50 #[.agg (hc hs).toArray, .func (.func 51) #[] #[]] w fun e w' => e = .returned (.agg (nums (He.pad (He.ch He.up hs))).toArray) ∧ Below w.heap.size w w' := by
  obtain ⟨len, hlen⟩ : ∃ n, n = hs.length := ⟨_, rfl⟩
  have HZL := Lib.hid hlen
  have HCL : Hid ((He.ch He.up hs).length = len) := Lib.hid (by rw [He.length_ch]; exact hlen.symm)
  rw [← hlen] at h1 h2
  have HPL : Hid ((He.pad (He.ch He.up hs)).length = 40) := Lib.hid (He.length_pad _ (by have := HCL.out; omega))
  have HZP : Hid (He.zerosTo (He.pad (He.ch He.up hs)) len = List.replicate 40 0) := Lib.hid (by have := He.zerosTo_pad (He.ch He.up hs) (by have := HCL.out; omega); rw [HCL.out] at this; exact this)
  clear hlen
  go_enter Try.func50, Try.ntmps50
  go_wp2_with (refine wpList_box 47 _ rfl rfl (hc hs) rfl ?_; intro w1 g G1 B1 L1)
  refine ⟨?_⟩
  go_wp2_with (refine wpList_new 45 rfl rfl _ _ Try.info_arr ?_; intro w2 r G2 R2 L2)
  refine ⟨?_⟩
  go_wp2_with (refine wpList_new 45 rfl rfl _ _ Try.info_arr ?_; intro w3 c G3 C3 L3)
  refine ⟨?_⟩
  have hrg : Hid (r ≠ g ∧ c ≠ g ∧ c ≠ r ∧ w.heap.size ≤ c ∧ w.heap.size ≤ r) := Lib.hid (by
    have := G1.out; have := G2.out; have := G3.out; have := L1.out.size; have := L2.out.size; have := B1.out.lt; have := R2.out.lt
    omega)
  have BG := Lib.hid ((B1.out.below L2.out B1.out.lt).below L3.out (by have := B1.out.lt; have := L2.out.size; omega))
  have BR := Lib.hid (R2.out.below L3.out R2.out.lt)
  have LA : Hid (Below w.heap.size w w3) := (L1.out.trans (L2.out.mono L1.out.size)).trans (L3.out.mono (by have := L1.out.size; have := L2.out.size; omega))
  have CC : Hid (Blk w3 c 45 (nums (He.zerosTo (He.pad (He.ch He.up hs)) len))) := Lib.hid (by rw [HZP.out]; exact C3.out)
  have ec := BG.out.count (by have := HZL.out; omega)
  rw [← HZL.out] at ec
  clear B1 R2 C3 L1 L2 L3 G1 G2 G3
  go_wp2
  clear ec
  go_loopw [6] (fun i wr => ∃ k : Nat, k ≤ len ∧ i = .int .i64 ((k : Int) - 1) ∧ Blk wr c 45 (nums (He.zerosTo (He.pad (He.ch He.up hs)) k)) ∧ Blk wr g 47 (hc hs) ∧ Blk wr r 45 (nums (List.replicate 40 0)) ∧ Below w.heap.size w wr) (fun i _ => (intOf i + 1).toNat)
  case atStart => exact ⟨len, Nat.le_refl _, rfl, CC.out, BG.out, BR.out, LA.out⟩
  case round =>
    obtain ⟨k, hk, rfl, hcc, hg, hr, hb⟩ := hrel
    rcases k with _ | k
    · have C2 : Hid (Blk wr c 45 (nums (He.pad (He.ch He.up hs)))) := Lib.hid (by rw [He.zerosTo_zero] at hcc; exact hcc)
      have R2 := Lib.hid hr
      have HB := Lib.hid hb
      clear hcc hg hr hb
      go_wp2_with (refine wpList_loadAll 45 _ rfl rfl c _ (nums (He.pad (He.ch He.up hs))) _ Try.underlying45 rfl 40 Try.size_arr rfl C2 (by rw [length_nums]; exact HPL.out) ?_)
      refine ⟨?_⟩
      go_wp2_with (refine wpList_storeAll 45 _ _ rfl rfl r _ (nums (List.replicate 40 0)) (nums (He.pad (He.ch He.up hs))) 40 Try.size_arr rfl rfl R2 (by rw [length_nums]; exact HPL.out) (by rw [length_nums]; simp) (nums_one _) ?_; intro w4 R4 L4)
      refine ⟨?_⟩
      go_wp2
      refine ret_cell 4 45 (by kernel_rfl) r _ (nums (He.pad (He.ch He.up hs))) _ Try.underlying45 rfl 40 Try.size_arr rfl R4.out (by rw [length_nums]; exact HPL.out) rfl ?_
      exact ⟨rfl, grownBy_below HB.out L4.out (Nat.le_refl _) hrg.out.2.2.2.2⟩
    · have ek : ((k + 1 : Nat) : Int) - 1 = (k : Int) := by omega
      rw [ek]
      have HFL : Hid ((He.zerosTo (He.pad (He.ch He.up hs)) (k + 1)).length = 40) := Lib.hid (by rw [He.length_zerosTo _ _ (by have := HPL.out; omega)]; exact HPL.out)
      have f3 := hcc.free k
      have e3 := hcc.num k (by have := HFL.out; omega)
      obtain ⟨z, hzz⟩ : ∃ z, z = (He.zerosTo (He.pad (He.ch He.up hs)) (k + 1)).getD k 0 := ⟨_, rfl⟩
      rw [← hzz] at e3
      have hc2 := hcc.set k (.int .i64 ((1 : Nat) : Int))
      rw [nums_set] at hc2
      have HC2 : Hid (Blk (wr.setCell ⟨c, k, none⟩ (.int .i64 1)) c 45 (nums ((He.zerosTo (He.pad (He.ch He.up hs)) (k + 1)).set k (1 + He.bta He.up hs k (k + 1))))) := Lib.hid (by rw [He.bta_start _ _ _ _ (Nat.le_refl _)]; exact hc2)
      have HG2 := Lib.hid (hg.setOther hrg.out.2.1 k (.int .i64 1))
      have HR2 := Lib.hid (hr.setOther hrg.out.2.2.1 k (.int .i64 1))
      have HB2 := Lib.hid (hb.setCell (p := ⟨c, k, none⟩) hrg.out.2.2.2.1 (.int .i64 1))
      have i1 : (0 : Int) ≤ (k : Int) := by omega
      have i2 : (k : Int) < 40 := by omega
      clear hcc hg hr hb hzz hc2 ek
      go_wp2
      clear f3 e3
      go_loopw [7] (fun jv wq => ∃ j : Nat, k < j ∧ j ≤ len ∧ jv = .int .i64 (j : Int) ∧ Blk wq c 45 (nums ((He.zerosTo (He.pad (He.ch He.up hs)) (k + 1)).set k (1 + He.bta He.up hs k j))) ∧ Blk wq g 47 (hc hs) ∧ Blk wq r 45 (nums (List.replicate 40 0)) ∧ Below w.heap.size w wq) (fun jv _ => len - (intOf jv).toNat)
      case atStart => exact ⟨k + 1, by omega, by omega, by go_num, HC2.out, HG2.out, HR2.out, HB2.out⟩
      case round =>
        obtain ⟨j, hkj, hj, rfl, hcq, hgq, hrq, hbq⟩ := hrel
        have hle := He.bta_le He.up hs k j
        have hle2 : He.bta He.up hs k j ≤ 40 := by have := HZL.out; omega
        have ec := hgq.count (by have := HZL.out; omega)
        rw [← HZL.out] at ec
        by_cases hlt : j < len
        · have e1 := hgq.tall (by have := HZL.out; omega) k (by omega)
          have e2 := hgq.tall (by have := HZL.out; omega) j (by omega)
          have i3 : (0 : Int) ≤ (j : Int) := by omega
          have i4 : (j : Int) < 40 := by omega
          have HRS := Lib.hid (fun w2 => rises_q (hs.getD k 0) (hs.getD j 0) w2)
          rcases hxy : He.up (hs.getD k 0) (hs.getD j 0) with _ | _
          · have HS := Lib.hid (He.bta_no He.up hs k j hxy)
            rw [hxy] at HRS
            have HCQ : Hid (Blk wr c 45 (nums ((He.zerosTo (He.pad (He.ch He.up hs)) (k + 1)).set k (1 + He.bta He.up hs k (j + 1))))) := Lib.hid (by rw [HS.out]; exact hcq)
            have HGQ := Lib.hid hgq
            have HRQ := Lib.hid hrq
            have HBQ := Lib.hid hbq
            obtain ⟨x, hx⟩ : ∃ x, x = hs.getD k 0 := ⟨_, rfl⟩
            obtain ⟨y, hy⟩ : ∃ y, y = hs.getD j 0 := ⟨_, rfl⟩
            rw [← hx] at e1 HRS
            rw [← hy] at e2 HRS
            clear hx hy hcq hgq hrq hbq hle hxy
            go_wp2_with fail
            go_quiet ((go_at_call 51; exact Calls.quiet_of_same (HRS.out _)))
            go_wp2
            go_roundw
            case rel => exact ⟨j + 1, by omega, by omega, by go_num, HCQ.out, HGQ.out, HRQ.out, ⟨HBQ.out.os, HBQ.out.tape, HBQ.out.output, HBQ.out.size, HBQ.out.block⟩⟩
            case measure => simp [intOf]; omega
          · have HS := Lib.hid (He.bta_yes He.up hs k j hkj hxy)
            rw [hxy] at HRS
            have hlq : ((He.zerosTo (He.pad (He.ch He.up hs)) (k + 1)).set k (1 + He.bta He.up hs k j)).length = 40 := by rw [List.length_set]; exact HFL.out
            have f3 := hcq.free k
            have e3 := hcq.num k (by omega)
            rw [show ((He.zerosTo (He.pad (He.ch He.up hs)) (k + 1)).set k (1 + He.bta He.up hs k j)).getD k 0 = 1 + He.bta He.up hs k j from by rw [getD_set, if_pos ⟨rfl, by have := HFL.out; omega⟩]] at e3
            have e4 := hcq.num j (by omega)
            rw [show ((He.zerosTo (He.pad (He.ch He.up hs)) (k + 1)).set k (1 + He.bta He.up hs k j)).getD j 0 = (He.ch He.up hs).getD j 0 from by rw [getD_set, if_neg (by omega), He.getD_zerosTo _ _ _ (by omega), He.getD_pad]] at e4
            have hcb := (He.ch_bd He.up hs j).1
            have hcb2 : (He.ch He.up hs).getD j 0 ≤ 40 := by have := HZL.out; omega
            have hc4 := hcq.set k (.int .i64 ((1 + max (He.bta He.up hs k j) ((He.ch He.up hs).getD j 0) : Nat) : Int))
            rw [nums_set, List.set_set] at hc4
            obtain ⟨q, hq⟩ : ∃ q, q = (He.ch He.up hs).getD j 0 := ⟨_, rfl⟩
            obtain ⟨d, hd⟩ : ∃ d, d = He.bta He.up hs k j := ⟨_, rfl⟩
            rw [← hq] at e4 hcb2 HS hc4
            rw [← hd] at e3 hle2 HS hc4
            have hv : ((1 + max d q : Nat) : Int) = (if 1 + (d : Int) < (q : Int) + 1 then (q : Int) + 1 else 1 + (d : Int)) := by split <;> omega
            rw [hv] at hc4
            have HC4 : Hid (Blk (wr.setCell ⟨c, k, none⟩ (.int .i64 (if 1 + (d : Int) < (q : Int) + 1 then (q : Int) + 1 else 1 + (d : Int)))) c 45 (nums ((He.zerosTo (He.pad (He.ch He.up hs)) (k + 1)).set k (1 + He.bta He.up hs k (j + 1))))) := Lib.hid (by rw [HS.out]; exact hc4)
            have HG4 := Lib.hid (hgq.setOther hrg.out.2.1 k (.int .i64 (if 1 + (d : Int) < (q : Int) + 1 then (q : Int) + 1 else 1 + (d : Int))))
            have HR4 := Lib.hid (hrq.setOther hrg.out.2.2.1 k (.int .i64 (if 1 + (d : Int) < (q : Int) + 1 then (q : Int) + 1 else 1 + (d : Int))))
            have HB4 := Lib.hid (hbq.setCell (p := ⟨c, k, none⟩) hrg.out.2.2.2.1 (.int .i64 (if 1 + (d : Int) < (q : Int) + 1 then (q : Int) + 1 else 1 + (d : Int))))
            obtain ⟨x, hx⟩ : ∃ x, x = hs.getD k 0 := ⟨_, rfl⟩
            obtain ⟨y, hy⟩ : ∃ y, y = hs.getD j 0 := ⟨_, rfl⟩
            rw [← hx] at e1 HRS
            rw [← hy] at e2 HRS
            clear hx hy hcq hgq hrq hbq hle hxy hcb hc4 hq hd hv hlq
            go_wp2_with fail
            go_quiet ((go_at_call 51; exact Calls.quiet_of_same (HRS.out _)))
            go_wp2_with fail
            go_region
            go_wp2
            go_roundw
            case rel => exact ⟨j + 1, by omega, by omega, by go_num, HC4.out, HG4.out, HR4.out, ⟨HB4.out.os, HB4.out.tape, HB4.out.output, HB4.out.size, HB4.out.block⟩⟩
            case measure => simp [intOf]; omega
        · have hjl : j = hs.length := by have := HZL.out; omega
          have HE : Hid (1 + He.bta He.up hs k j = (He.pad (He.ch He.up hs)).getD k 0) := Lib.hid (by rw [hjl, He.getD_pad, He.bta_end He.up hs k (by have := HZL.out; omega)]; omega)
          have HC2 : Hid (Blk wr c 45 (nums (He.zerosTo (He.pad (He.ch He.up hs)) k))) := Lib.hid (by rw [He.zerosTo_set _ _ (by have := HPL.out; omega) _ HE.out] at hcq; exact hcq)
          have HGQ := Lib.hid hgq
          have HRQ := Lib.hid hrq
          have HBQ := Lib.hid hbq
          clear hcq hgq hrq hbq hle hle2 hjl
          go_wp2
          go_roundw
          case rel => exact ⟨k, by omega, rfl, HC2.out, HGQ.out, HRQ.out, HBQ.out⟩
          case measure => first | (simp [intOf]; done) | (simp [intOf]; omega)


end Go.Proofs.Ytnajlnghhboelab
