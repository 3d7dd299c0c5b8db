/- NextTaller: the model and the method. -/
import Derived.Test.YtnajlnghhboelaaHp4
import Derived.Test.YtnajlnghhboelaaHq
import Derived.Deep.RegionHeldLaw
import Derived.WalkMore
namespace Go.Proofs.Ytnajlnghhboelaa
open Go.ChangeShapes Go.WideShapes Go.ChangeAt Go.RowKit

def nextsTo (hs : List Nat) (k : Nat) : List Int := (List.range k).map fun i => He.nextTo hs i hs.length
def nextL (hs : List Nat) : List Int := nextsTo hs hs.length
theorem nextsTo_succ (hs : List Nat) (k : Nat) : nextsTo hs (k + 1) = nextsTo hs k ++ [He.nextTo hs k hs.length] := by unfold nextsTo; rw [List.range_succ, List.map_append]; rfl
theorem length_nextsTo (hs : List Nat) (k : Nat) : (nextsTo hs k).length = k := by simp [nextsTo]
/-- the list as far as it has been written -/
def nextFill (hs : List Nat) (k : Nat) : List Int := nextsTo hs k ++ List.replicate (hs.length - k) 0
theorem length_nextFill (hs : List Nat) (k : Nat) (hk : k ≤ hs.length) : (nextFill hs k).length = hs.length := by unfold nextFill; rw [List.length_append, length_nextsTo, List.length_replicate]; omega
theorem nextFill_zero (hs : List Nat) : nextFill hs 0 = List.replicate hs.length 0 := by simp [nextFill, nextsTo]
theorem nextFill_all (hs : List Nat) : nextFill hs hs.length = nextL hs := by simp [nextFill, nextL]
theorem nextFill_succ (hs : List Nat) (k : Nat) (hk : k < hs.length) (x : Int) (hx : x = He.nextTo hs k hs.length) : (nextFill hs k).set k x = nextFill hs (k + 1) := by
  subst hx
  unfold nextFill
  rw [show hs.length - k = (hs.length - (k + 1)) + 1 from by omega, List.replicate_succ, List.set_append_right _ _ (by rw [length_nextsTo]; omega), length_nextsTo, Nat.sub_self, List.set_cons_zero, nextsTo_succ, List.append_assoc]
  rfl
theorem next_found (hs : List Nat) (i j : Nat) (hj : j < hs.length) (hi : i < j) (h : He.nextTo hs i j < 0) (hx : hs.getD i 0 < hs.getD j 0) : (j : Int) = He.nextTo hs i hs.length := by
  have h1 := He.nextTo_yes hs i j h hi hx
  rw [He.nextTo_stay hs i hs.length (j + 1) (by omega) (by omega), h1]
/-- an owned row of zeros, just made -/
theorem made_zeros {w w1 : World} {B n : Nat} (h : w1.ownsRow B 3 1 (.slice (some ⟨w.heap.size, 0, none⟩) n n) n (madeCells #[.int .i64 0] (n * 1)).toList) :
    Own w1 B (.slice (some ⟨w.heap.size, 0, none⟩) n n) (List.replicate n 0) := by
  unfold Own
  rw [List.length_replicate]
  rw [Nat.mul_one, toList_madeCells_one] at h
  rw [List.map_replicate]; exact h

set_option maxHeartbeats 2000000 in
theorem specNextIn (w : World) (a : Option Addr) (len cap : Nat) (hs : List Nat) (h1 : 1 ≤ hs.length) (h2 : hs.length ≤ 40) (hg : goodH (asInts hs) = true) (hc : Came w a len (asInts hs)) :
    Calls Try.prog 25 #[.slice a len cap] w fun e w' => ∃ v0, e = .returned (.tuple #[v0, .bool true]) ∧ Own w' w.heap.size v0 (nextL hs) ∧ Below w.heap.size w w' := by
  have hlen : len = hs.length := by rw [← asInts_len]; exact hc.1.symm
  have HG := Lib.hid (heGood_any w a len cap (asInts hs) (by omega) hc)
  rw [hg] at HG
  have HZL := Lib.hid hlen
  have HC := Lib.hid hc
  rw [← hlen] at h1 h2
  clear hc hlen hg
  go_enter Try.func25, Try.ntmps25
  go_wp2_with (go_at_call 37; refine HG.out.mono ?_; rintro e w' ⟨rfl, rfl⟩)
  go_loopw [4, 14] (fun v i wr => ∃ k : Nat, k ≤ len ∧ i = .int .i64 (k : Int) ∧ Own wr w.heap.size v (nextsTo hs k) ∧ Below w.heap.size w wr) (fun _ i _ => len - (intOf i).toNat)
  case atStart => exact ⟨0, Nat.zero_le _, rfl, own_nil _ _, Below.refl _ _⟩
  case round =>
    obtain ⟨k, hk, rfl, ho, hb⟩ := hrel
    have HO := Lib.hid ho
    have HB := Lib.hid hb
    have hz := hb.size
    have HC2 := Lib.hid (HC.out.below hb)
    by_cases hlt : k < len
    · obtain ⟨b, off, rfl, hcell⟩ := HC2.out.2 (by omega)
      have e1 := hcell k hlt
      rw [getD_asInts] at e1
      obtain ⟨x, hx⟩ : ∃ x, x = hs.getD k 0 := ⟨_, rfl⟩
      rw [← hx] at e1
      have HX := Lib.hid hx
      clear hcell hx ho hb
      go_wp2
      clear e1
      go_loop [7, 8] (fun nx j => ∃ m : Nat, m ≤ len ∧ k < m ∧ j = .int .i64 (m : Int) ∧ nx = .int .i64 (He.nextTo hs k m)) (fun _ j => len - (intOf j).toNat)
      case atStart => exact ⟨k + 1, by omega, by omega, by go_num, by rw [He.nextTo_start hs k (k + 1) (Nat.le_refl _)]⟩
      case round =>
        obtain ⟨m, hm, hkm, rfl, rfl⟩ := hrel
        have hbd := He.nextTo_bd hs k m
        by_cases hneg : He.nextTo hs k m < 0
        · by_cases hlt2 : m < len
          · obtain ⟨b', off', hbo, hcell⟩ := HC2.out.2 (by omega)
            cases hbo
            have e2 := hcell m hlt2
            rw [getD_asInts] at e2
            by_cases hxy : hs.getD k 0 < hs.getD m 0
            · have HS := Lib.hid (He.nextTo_yes hs k m hneg hkm hxy)
              obtain ⟨y, hy⟩ : ∃ y, y = hs.getD m 0 := ⟨_, rfl⟩
              rw [← hy] at e2 hxy
              rw [← HX.out] at hxy
              obtain ⟨q, hq⟩ : ∃ q, q = He.nextTo hs k m := ⟨_, rfl⟩
              rw [← hq] at hneg ⊢
              clear hcell hy hbd hq
              go_wp2
              go_round
              case rel => exact ⟨m + 1, by omega, by omega, by go_num, int_eq HS.out.symm⟩
              case measure => simp [intOf]; omega
            · have HS := Lib.hid (He.nextTo_no hs k m hneg hxy)
              obtain ⟨y, hy⟩ : ∃ y, y = hs.getD m 0 := ⟨_, rfl⟩
              rw [← hy] at e2 hxy
              rw [← HX.out] at hxy
              obtain ⟨q, hq⟩ : ∃ q, q = He.nextTo hs k m := ⟨_, rfl⟩
              rw [← hq] at hneg HS ⊢
              clear hcell hy hbd hq
              go_wp2
              go_round
              case rel => exact ⟨m + 1, by omega, by omega, by go_num, int_eq HS.out.symm⟩
              case measure => simp [intOf]; omega
          · have hml : m = hs.length := by have := HZL.out; omega
            have HS := Lib.hid (nextsTo_succ hs k)
            have HE : Hid (He.nextTo hs k hs.length = He.nextTo hs k m) := Lib.hid (by rw [hml])
            rw [HE.out] at HS
            obtain ⟨q, hq⟩ : ∃ q, q = He.nextTo hs k m := ⟨_, rfl⟩
            rw [← hq] at hneg HS ⊢
            have hbl : (nextsTo hs k).length ≤ 1000000000 := by rw [length_nextsTo]; omega
            clear hq hml hbd HE
            go_wp2_with (at_builtin; refine wpList_app rfl _ _ rfl _ _ _ _ _ rfl rfl HO.out hz hbl ?_; intro v' w1 hO hB1)
            have HO2 : Hid (Own w1 w.heap.size v' (nextsTo hs (k + 1))) := by rw [HS.out]; exact hO
            have HB2 : Hid (Below w.heap.size w w1) := HB.out.trans hB1
            clear hO hB1
            go_wp2
            go_roundw
            case rel => exact ⟨k + 1, by omega, by go_num, HO2.out, HB2.out⟩
            case measure => simp [intOf]; omega
        · have HS := Lib.hid (nextsTo_succ hs k)
          have HE : Hid (He.nextTo hs k hs.length = He.nextTo hs k m) := He.nextTo_stay hs k hs.length m (by have := HZL.out; omega) (by omega)
          rw [HE.out] at HS
          obtain ⟨q, hq⟩ : ∃ q, q = He.nextTo hs k m := ⟨_, rfl⟩
          rw [← hq] at hneg HS ⊢
          have hbl : (nextsTo hs k).length ≤ 1000000000 := by rw [length_nextsTo]; omega
          clear hq hbd HE
          by_cases hlt2 : m < len
          · go_wp2_with (at_builtin; refine wpList_app rfl _ _ rfl _ _ _ _ _ rfl rfl HO.out hz hbl ?_; intro v' w1 hO hB1)
            have HO2 : Hid (Own w1 w.heap.size v' (nextsTo hs (k + 1))) := by rw [HS.out]; exact hO
            have HB2 : Hid (Below w.heap.size w w1) := HB.out.trans hB1
            clear hO hB1
            go_wp2
            go_roundw
            case rel => exact ⟨k + 1, by omega, by go_num, HO2.out, HB2.out⟩
            case measure => simp [intOf]; omega
          · go_wp2_with (at_builtin; refine wpList_app rfl _ _ rfl _ _ _ _ _ rfl rfl HO.out hz hbl ?_; intro v' w1 hO hB1)
            have HO2 : Hid (Own w1 w.heap.size v' (nextsTo hs (k + 1))) := by rw [HS.out]; exact hO
            have HB2 : Hid (Below w.heap.size w w1) := HB.out.trans hB1
            clear hO hB1
            go_wp2
            go_roundw
            case rel => exact ⟨k + 1, by omega, by go_num, HO2.out, HB2.out⟩
            case measure => simp [intOf]; omega
    · have hjn : k = hs.length := by have := HZL.out; omega
      have HO2 : Hid (Own _ w.heap.size _ (nextL hs)) := Lib.hid (show Own _ w.heap.size _ (nextsTo hs hs.length) from hjn ▸ ho)
      clear ho hb hjn
      go_wp2
      go_ret2
      exact ⟨_, rfl, HO2.out, HB.out⟩

set_option maxHeartbeats 2000000 in
theorem nextTaller_any (w : World) (hs : List Nat) (h1 : 1 ≤ hs.length) (h2 : hs.length ≤ 40) :
    Calls Try.prog 47 #[.agg (hc hs).toArray] w fun e w' => ∃ v, e = .returned v ∧ Own w' w.heap.size v (nextL hs) ∧ Below w.heap.size w w' := by
  obtain ⟨i0, hi, hz0, hz1, hz2⟩ := info_parts Try.info_int
  obtain ⟨len, hlen⟩ : ∃ n, n = hs.length := ⟨_, rfl⟩
  have HZL := Lib.hid hlen
  rw [← hlen] at h1 h2
  clear hlen
  go_enter Try.func47, Try.ntmps47
  go_wp2_with (refine wpList_box 43 _ rfl rfl (hc hs) rfl ?_; intro w1 g G1 B1 L1)
  refine ⟨?_⟩
  have ec := B1.out.count (by have := HZL.out; omega)
  rw [← HZL.out] at ec
  go_wp2_with fail
  go_step3
  go_wp2_with (at_make; refine wpList_make_full _ rfl _ _ 22 rfl w1.heap.size 3 i0 (.int .i64 0) 1 Try.underlying22 hi hz0 hz1 .i64 .i64 _ _ len rfl rfl rfl rfl (by rw [hz2]; omega) (by unfold maxLen; omega) (Nat.le_refl _) ?_; intro w2 hown hgrow)
  have hO : Own w2 w1.heap.size (.slice (some ⟨w1.heap.size, 0, none⟩) len len) (nextFill hs 0) := by rw [nextFill_zero, ← HZL.out]; exact made_zeros hown
  have hb0 := below_made hgrow
  clear hown hgrow ec
  go_step3
  go_wp2
  go_loopw [11] (fun i wr => ∃ k : Nat, k ≤ len ∧ i = .int .i64 (k : Int) ∧ Own wr w1.heap.size (.slice (some ⟨w1.heap.size, 0, none⟩) len len) (nextFill hs k) ∧ Below w1.heap.size w1 wr) (fun i _ => len - (intOf i).toNat)
  case atStart => exact ⟨0, Nat.zero_le _, rfl, hO, hb0⟩
  case round =>
    obtain ⟨k, hk, rfl, ho, hb⟩ := hrel
    have hfl := length_nextFill hs k (by have := HZL.out; omega)
    by_cases hlt : k < len
    · have BR := Lib.hid (B1.out.below hb B1.out.lt)
      have e1 := BR.out.tall (by have := HZL.out; omega) k (by omega)
      have f3 := ho.free (by have := HZL.out; omega) k
      have HO := Lib.hid ho
      have HB := Lib.hid hb
      have HFL := Lib.hid hfl
      obtain ⟨x, hx⟩ : ∃ x, x = hs.getD k 0 := ⟨_, rfl⟩
      rw [← hx] at e1
      have HX := Lib.hid hx
      clear hO hb0 hx ho hb hfl
      go_wp2
      clear e1 f3
      go_loopw [5] (fun j wq => ∃ m : Nat, m ≤ len ∧ k < m ∧ j = .int .i64 (m : Int) ∧ He.nextTo hs k m < 0 ∧ Own wq w1.heap.size (.slice (some ⟨w1.heap.size, 0, none⟩) len len) (nextFill hs k) ∧ Below w1.heap.size w1 wq) (fun j _ => len - (intOf j).toNat)
      case atStart => exact ⟨k + 1, by omega, by omega, by go_num, by rw [He.nextTo_start hs k (k + 1) (Nat.le_refl _)]; omega, HO.out, HB.out⟩
      case round =>
        obtain ⟨m, hm, hkm, rfl, hneg, hoq, hbq⟩ := hrel
        have BQ := Lib.hid (B1.out.below hbq B1.out.lt)
        have ec := BQ.out.count (by have := HZL.out; omega)
        rw [← HZL.out] at ec
        have f3 := hoq.free (by have := HZL.out; have := HFL.out; omega) k
        have e3 := hoq.cell (by have := HZL.out; have := HFL.out; omega) k (by have := HFL.out; have := HZL.out; omega)
        obtain ⟨z, hzz⟩ : ∃ z, z = (nextFill hs k).getD k 0 := ⟨_, rfl⟩
        rw [← hzz] at e3
        clear hzz
        have i1 : (0 : Int) ≤ (k : Int) := by omega
        have i2 : (k : Int) < (len : Int) := by omega
        by_cases hlt2 : m < len
        · have e1 := BQ.out.tall (by have := HZL.out; omega) k (by omega)
          have e2 := BQ.out.tall (by have := HZL.out; omega) m (by omega)
          have i3 : (0 : Int) ≤ (m : Int) := by omega
          have i4 : (m : Int) < 40 := by omega
          have i5 : (k : Int) < 40 := by omega
          by_cases hxy : hs.getD k 0 < hs.getD m 0
          · have HS := Lib.hid (next_found hs k m (by have := HZL.out; omega) hkm hneg hxy)
            have HOS : Hid (Own (wr.setCell ⟨w1.heap.size, k, none⟩ (.int .i64 (m : Int))) w1.heap.size (.slice (some ⟨w1.heap.size, 0, none⟩) len len) (nextFill hs (k + 1))) := by
              rw [← nextFill_succ hs k (by have := HZL.out; omega) _ HS.out]; exact hoq.set (by have := HZL.out; have := HFL.out; omega) k _
            have HBS := Lib.hid (hbq.setCell (p := ⟨w1.heap.size, k, none⟩) (Nat.le_refl _) (.int .i64 (m : Int)))
            obtain ⟨y, hy⟩ : ∃ y, y = hs.getD m 0 := ⟨_, rfl⟩
            rw [← hy] at e2 hxy
            rw [← HX.out] at hxy e1
            clear hy hoq hbq hneg
            go_wp2_with fail
            go_quiet (fail)
            go_wp2
            go_roundw
            case rel => exact ⟨k + 1, by omega, by go_num, HOS.out, ⟨HBS.out.os, HBS.out.tape, HBS.out.output, HBS.out.size, HBS.out.block⟩⟩
            case measure => simp [intOf]; omega
          · have HS := Lib.hid (He.nextTo_no hs k m hneg hxy)
            obtain ⟨y, hy⟩ : ∃ y, y = hs.getD m 0 := ⟨_, rfl⟩
            rw [← hy] at e2 hxy
            rw [← HX.out] at hxy e1
            have HOQ := Lib.hid hoq
            have HBQ := Lib.hid hbq
            have HNG := Lib.hid hneg
            clear hy hoq hbq hneg
            go_wp2_with fail
            go_quiet (fail)
            go_wp2
            go_roundw
            case rel => exact ⟨m + 1, by omega, by omega, by go_num, by rw [HS.out]; exact HNG.out, HOQ.out, ⟨HBQ.out.os, HBQ.out.tape, HBQ.out.output, HBQ.out.size, HBQ.out.block⟩⟩
            case measure => simp [intOf]; omega
        · have hml : m = hs.length := by have := HZL.out; omega
          have HS : Hid ((-1 : Int) = He.nextTo hs k hs.length) := Lib.hid (by
            rcases He.nextTo_bd hs k m with h | h
            · rw [← hml, h]
            · omega)
          have HOS : Hid (Own (wr.setCell ⟨w1.heap.size, k, none⟩ (.int .i64 (-1))) w1.heap.size (.slice (some ⟨w1.heap.size, 0, none⟩) len len) (nextFill hs (k + 1))) := by
            rw [← nextFill_succ hs k (by have := HZL.out; omega) _ HS.out]; exact hoq.set (by have := HZL.out; have := HFL.out; omega) k _
          have HBS := Lib.hid (hbq.setCell (p := ⟨w1.heap.size, k, none⟩) (Nat.le_refl _) (.int .i64 (-1)))
          clear hml hoq hbq hneg
          go_wp2
          go_roundw
          case rel => exact ⟨k + 1, by omega, by go_num, HOS.out, HBS.out⟩
          case measure => simp [intOf]; omega
    · have hkn : k = hs.length := by have := HZL.out; omega
      rw [hkn, nextFill_all] at ho
      have HO := Lib.hid ho
      have HB := Lib.hid hb
      clear hkn hO hb0 ho hb hfl
      go_wp2
      first | rw [Exit.noGoto_ret] | skip
      go_ret
      exact ⟨_, rfl, HO.out.mono L1.out.size, L1.out.trans (HB.out.mono L1.out.size)⟩

end Go.Proofs.Ytnajlnghhboelaa
