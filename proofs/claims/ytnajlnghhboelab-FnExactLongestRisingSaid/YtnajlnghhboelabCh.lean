/- Chains: the model's heRising, heFalling. -/
import Derived.Test.YtnajlnghhboelabFill
import Derived.Test.YtnajlnghhboelabMost
import Derived.Deep.QuietTactic
namespace Go.Proofs.Ytnajlnghhboelab
open Go.ChangeShapes Go.WideShapes Go.ChangeAt Go.RowKit

theorem asInts_zeros (n : Nat) : asInts (List.replicate n 0) = List.replicate n (0 : Int) := by simp [asInts]
theorem asInts_set (l : List Nat) (k x : Nat) : (asInts l).set k (x : Int) = asInts (l.set k x) := by simp [asInts, List.map_set]

set_option maxHeartbeats 2000000 in
theorem heRising_any (w : World) (a : Option Addr) (len cap : Nat) (hs : List Nat) (h1 : 1 ≤ len) (h2 : len ≤ 40) (hc : Came w a len (asInts hs)) :
    Calls Try.prog 33 #[.slice a len cap] w fun e w' => ∃ v, e = .returned v ∧ Own w' w.heap.size v (asInts (He.ch He.up hs)) ∧ Below w.heap.size w w' := by
  obtain ⟨i0, hi, hz0, hz1, hz2⟩ := info_parts Try.info_int
  have hlen : len = hs.length := by rw [← asInts_len]; exact hc.1.symm
  have HZL := Lib.hid hlen
  obtain ⟨b, off, rfl, _⟩ := hc.2 (by omega)
  have HC := Lib.hid hc
  have HCL : Hid ((He.ch He.up hs).length = len) := Lib.hid (by rw [He.length_ch]; exact hlen.symm)
  clear hc hlen
  go_enter Try.func33, Try.ntmps33
  go_wp2_with (at_make; refine wpList_make_full _ rfl _ _ 22 rfl w.heap.size 3 i0 (.int .i64 0) 1 Try.underlying22 hi hz0 hz1 .i64 .i64 _ _ len rfl rfl rfl rfl (by rw [hz2]; omega) (by unfold maxLen; omega) (Nat.le_refl _) ?_; intro w1 hown hgrow)
  have hO : Own w1 w.heap.size (.slice (some ⟨w.heap.size, 0, none⟩) len len) (asInts (He.zerosTo (He.ch He.up hs) len)) := by
    have := made_fill (fun _ => 0) hown
    rw [fillTo_zero] at this
    have hh := HCL.out
    rw [← hh] at this ⊢
    rw [He.zerosTo_all, asInts_zeros]
    exact this
  have hb0 := below_made hgrow
  clear hown hgrow
  go_wp2
  go_loopw [4] (fun i wr => ∃ k : Nat, k ≤ len ∧ i = .int .i64 ((k : Int) - 1) ∧ Own wr w.heap.size (.slice (some ⟨w.heap.size, 0, none⟩) len len) (asInts (He.zerosTo (He.ch He.up hs) k)) ∧ Below w.heap.size w wr) (fun i _ => (intOf i + 1).toNat)
  case atStart => exact ⟨len, Nat.le_refl _, rfl, hO, hb0⟩
  case round =>
    obtain ⟨k, hk, rfl, ho, hb⟩ := hrel
    rcases k with _ | k
    · have HO : Hid (Own wr w.heap.size (.slice (some ⟨w.heap.size, 0, none⟩) len len) (asInts (He.ch He.up hs))) := Lib.hid (by rw [He.zerosTo_zero] at ho; exact ho)
      have HB := Lib.hid hb
      clear ho hb hO hb0
      go_wp2
      go_ret
      exact ⟨_, rfl, HO.out, HB.out⟩
    · have ek : ((k + 1 : Nat) : Int) - 1 = (k : Int) := by omega
      rw [ek]
      have HFL : Hid ((asInts (He.zerosTo (He.ch He.up hs) (k + 1))).length = len) := Lib.hid (by rw [asInts_len, He.length_zerosTo _ _ (by have := HCL.out; omega)]; exact HCL.out)
      have HO := Lib.hid ho
      have HB := Lib.hid hb
      clear ho hb hO hb0 ek
      go_wp2
      go_loopw [5, 6] (fun s jv wq => ∃ j : Nat, k < j ∧ j ≤ len ∧ jv = .int .i64 (j : Int) ∧ s = .int .i64 (He.bta He.up hs k j : Nat) ∧ Own wq w.heap.size (.slice (some ⟨w.heap.size, 0, none⟩) len len) (asInts (He.zerosTo (He.ch He.up hs) (k + 1))) ∧ Below w.heap.size w wq) (fun _ jv _ => len - (intOf jv).toNat)
      case atStart => exact ⟨k + 1, by omega, by omega, by go_num, int_eq (by rw [He.bta_start _ _ _ _ (Nat.le_refl _)]; rfl), HO.out, HB.out⟩
      case round =>
        obtain ⟨j, hkj, hj, rfl, rfl, hoq, hbq⟩ := hrel
        have hle := He.bta_le He.up hs k j
        have hle2 : He.bta He.up hs k j ≤ 40 := by have := HZL.out; omega
        have i1 : (0 : Int) ≤ (k : Int) := by omega
        have i2 : (k : Int) < (len : Int) := by omega
        by_cases hlt : j < len
        · have hcr := HC.out.below hbq
          obtain ⟨b', off', hbo, hcell⟩ := hcr.2 (by omega)
          cases hbo
          have e1 := hcell k (by omega)
          have e2 := hcell j hlt
          rw [getD_asInts] at e1 e2
          have i3 : (0 : Int) ≤ (j : Int) := by omega
          have i4 : (j : Int) < (len : Int) := by omega
          have HOQ := Lib.hid hoq
          have HBQ := Lib.hid hbq
          by_cases hxy : hs.getD k 0 < hs.getD j 0
          · have HS := Lib.hid (He.bta_yes He.up hs k j hkj (decide_eq_true hxy))
            have e3 := hoq.cell HFL.out.symm j (by rw [HFL.out]; exact hlt)
            rw [getD_asInts, He.getD_zerosTo _ _ _ (by omega)] at e3
            obtain ⟨x, hx⟩ : ∃ x, x = hs.getD k 0 := ⟨_, rfl⟩
            obtain ⟨y, hy⟩ : ∃ y, y = hs.getD j 0 := ⟨_, rfl⟩
            obtain ⟨q, hq⟩ : ∃ q, q = (He.ch He.up hs).getD j 0 := ⟨_, rfl⟩
            obtain ⟨c, hcc⟩ : ∃ c, c = He.bta He.up hs k j := ⟨_, rfl⟩
            rw [← hx] at e1 hxy
            rw [← hy] at e2 hxy
            rw [← hq] at e3 HS
            rw [← hcc] at hle2 HS ⊢
            clear hx hy hq hcc hoq hbq hcr hcell hle
            go_wp2_with fail
            go_quiet (fail)
            go_wp2_with fail
            go_at_call 30
            refine (l1Most_q _ _ _).mono ?_
            rintro e w' ⟨rfl, rfl⟩
            go_wp2
            go_roundw
            case rel => exact ⟨j + 1, by omega, by omega, by go_num, int_eq (by rw [HS.out]; omega), HOQ.out, ⟨HBQ.out.os, HBQ.out.tape, HBQ.out.output, HBQ.out.size, HBQ.out.block⟩⟩
            case measure => simp [intOf]; omega
          · have HS := Lib.hid (He.bta_no He.up hs k j (decide_eq_false hxy))
            obtain ⟨x, hx⟩ : ∃ x, x = hs.getD k 0 := ⟨_, rfl⟩
            obtain ⟨y, hy⟩ : ∃ y, y = hs.getD j 0 := ⟨_, rfl⟩
            obtain ⟨c, hcc⟩ : ∃ c, c = He.bta He.up hs k j := ⟨_, rfl⟩
            rw [← hx] at e1 hxy
            rw [← hy] at e2 hxy
            rw [← hcc] at hle2 HS ⊢
            clear hx hy hcc hoq hbq hcr hcell hle
            go_wp2_with fail
            go_quiet (fail)
            go_wp2
            go_roundw
            case rel => exact ⟨j + 1, by omega, by omega, by go_num, int_eq (by rw [HS.out]), HOQ.out, ⟨HBQ.out.os, HBQ.out.tape, HBQ.out.output, HBQ.out.size, HBQ.out.block⟩⟩
            case measure => simp [intOf]; omega
        · have hjl : j = hs.length := by have := HZL.out; omega
          have HE : Hid (He.bta He.up hs k j + 1 = (He.ch He.up hs).getD k 0) := Lib.hid (by rw [hjl]; exact (He.bta_end He.up hs k (by have := HZL.out; omega)).symm)
          have f3 := hoq.free HFL.out.symm k
          have e3 := hoq.cell HFL.out.symm k (by rw [HFL.out]; omega)
          obtain ⟨z, hzz⟩ : ∃ z, z = (asInts (He.zerosTo (He.ch He.up hs) (k + 1))).getD k 0 := ⟨_, rfl⟩
          rw [← hzz] at e3
          have ho4 := hoq.set HFL.out.symm k ((He.bta He.up hs k j : Nat) + 1 : Int)
          rw [show (((He.bta He.up hs k j : Nat) : Int) + 1) = ((He.bta He.up hs k j + 1 : Nat) : Int) from rfl, asInts_set, He.zerosTo_set _ _ (by have := HCL.out; omega) _ HE.out] at ho4
          have hb4 := hbq.setCell (p := ⟨w.heap.size, k, none⟩) (Nat.le_refl _) (.int .i64 ((He.bta He.up hs k j : Nat) + 1 : Int))
          obtain ⟨c, hcc⟩ : ∃ c, c = He.bta He.up hs k j := ⟨_, rfl⟩
          rw [← hcc] at hle2 ho4 hb4 ⊢
          have HO4 := Lib.hid ho4
          have HB4 := Lib.hid hb4
          clear hzz hcc hoq hbq ho4 hb4 hle hjl
          go_wp2
          go_roundw
          case rel => exact ⟨k, by omega, rfl, HO4.out, HB4.out⟩
          case measure => first | (simp [intOf]; done) | (simp [intOf]; omega)

theorem ch_turned (hs : List Nat) (h3 : ∀ x ∈ hs, 1 ≤ x ∧ x ≤ 100) : He.ch He.up (hs.map fun x => 101 - x) = He.ch He.down hs :=
  He.ch_map _ _ _ _ fun x hx y hy => by
    have := h3 x hx
    have := h3 y hy
    unfold He.up He.down
    rw [decide_eq_decide]
    omega
set_option maxHeartbeats 2000000 in
theorem heFalling_any (w : World) (a : Option Addr) (len cap : Nat) (hs : List Nat) (h1 : 1 ≤ len) (h2 : len ≤ 40) (h3 : ∀ x ∈ hs, 1 ≤ x ∧ x ≤ 100) (hc : Came w a len (asInts hs)) :
    Calls Try.prog 53 #[.slice a len cap] w fun e w' => ∃ v, e = .returned v ∧ Own w' w.heap.size v (asInts (He.ch He.down hs)) ∧ Below w.heap.size w w' := by
  have hlen : len = hs.length := by rw [← asInts_len]; exact hc.1.symm
  have HZL := Lib.hid hlen
  have HC := Lib.hid hc
  have H3 := Lib.hid h3
  have HT := Lib.hid (ch_turned hs h3)
  clear hc hlen h3
  go_enter Try.func53, Try.ntmps53
  go_wp2
  go_loopw [3, 8] (fun v i wr => ∃ k : Nat, k ≤ len ∧ i = .int .i64 (k : Int) ∧ Own wr w.heap.size v (asInts (He.mapTo (fun x => 101 - x) hs k)) ∧ Below w.heap.size w wr) (fun _ i _ => len - (intOf i).toNat)
  case atStart => exact ⟨0, Nat.zero_le _, rfl, own_nil _ _, Below.refl _ _⟩
  case round =>
    obtain ⟨k, hk, rfl, ho, hb⟩ := hrel
    have HO := Lib.hid ho
    have HB := Lib.hid hb
    have hz := hb.size
    by_cases hlt : k < len
    · obtain ⟨b, off, rfl, hcell⟩ := (HC.out.below hb).2 (by omega)
      have e1 := hcell k hlt
      rw [getD_asInts] at e1
      have hx3 := H3.out _ (getD_mem0 (show k < hs.length by have := HZL.out; omega))
      have HS := He.mapTo_succ 0 (fun x => 101 - x) hs k (by have := HZL.out; omega)
      have hbl : (asInts (He.mapTo (fun x => 101 - x) hs k)).length ≤ 1000000000 := by rw [asInts_len]; have := He.length_mapTo (fun x => 101 - x) hs k; omega
      obtain ⟨x, hx⟩ : ∃ x, x = hs.getD k 0 := ⟨_, rfl⟩
      rw [← hx] at e1 hx3 HS
      have HS2 : Hid (asInts (He.mapTo (fun x => 101 - x) hs (k + 1)) = asInts (He.mapTo (fun x => 101 - x) hs k) ++ [(101 : Int) - (x : Int)]) := Lib.hid (by
        rw [HS]; unfold asInts; rw [List.map_append]; simp; omega)
      clear hcell hx ho hb HS
      go_wp2_with (at_builtin; refine wpList_app rfl _ _ rfl _ _ _ _ _ rfl rfl HO.out hz hbl ?_; intro v' w1 hO hB1)
      have HO2 : Hid (Own w1 w.heap.size v' (asInts (He.mapTo (fun x => 101 - x) hs (k + 1)))) := by rw [HS2.out]; exact hO
      have HB2 : Hid (Below w.heap.size w w1) := HB.out.trans hB1
      clear hO hB1
      go_wp2
      go_roundw
      case rel => exact ⟨k + 1, by omega, by go_num, HO2.out, HB2.out⟩
      case measure => simp [intOf]; omega
    · have hkn : k = hs.length := by have := HZL.out; omega
      rw [hkn, He.mapTo_all] at ho
      obtain ⟨a1, c1, hv, hc1⟩ := ho.came
      subst hv
      rw [asInts_len, List.length_map, ← HZL.out] at hc1 ⊢
      have HR := Lib.hid (heRising_any wr a1 len c1 _ h1 h2 hc1)
      rw [HT.out] at HR
      clear ho hb hkn hc1 HO
      go_wp2_with fail
      go_at_call 33
      refine HR.out.mono ?_
      rintro e w2 ⟨v, rfl, o2, b2⟩
      have HO2 : Hid (Own w2 w.heap.size v (asInts (He.ch He.down hs))) := o2.mono hz
      have HB2 : Hid (Below w.heap.size w w2) := HB.out.trans (b2.mono hz)
      clear o2 b2
      go_wp2
      go_ret
      exact ⟨_, rfl, HO2.out, HB2.out⟩

end Go.Proofs.Ytnajlnghhboelab
