/- tallerBefore; RanksOf: the model and the method. -/
import Derived.Test.YtnajlnghhboelaaFill
namespace Go.Proofs.Ytnajlnghhboelaa
open Go.ChangeShapes Go.WideShapes Go.ChangeAt Go.RowKit

def rankF (hs : List Nat) (i : Nat) : Int := (He.rankTo hs i hs.length : Nat)
def ranksL (hs : List Nat) : List Int := upTo (rankF hs) hs.length

set_option maxHeartbeats 1000000 in
theorem tallerBefore_any (w : World) (hs : List Nat) (k : Nat) (h2 : hs.length ≤ 40) (hk : k < hs.length) :
    Calls Try.prog 65 #[.agg (hc hs).toArray, .int .i64 (k : Int)] w fun e w' => e = .returned (.int .i64 (He.tallTo hs k k : Nat)) ∧ Below w.heap.size w w' := by
  obtain ⟨len, hlen⟩ : ∃ n, n = hs.length := ⟨_, rfl⟩
  have HZL := Lib.hid hlen
  rw [← hlen] at h2 hk
  clear hlen
  have i1 : (0 : Int) ≤ (k : Int) := by omega
  have i2 : (k : Int) ≤ 40 := by omega
  have i3 : (k : Int) < 40 := by omega
  go_enter Try.func65, Try.ntmps65
  go_wp2_with (refine wpList_box 43 _ rfl rfl (hc hs) rfl ?_; intro w1 g G1 B1 L1)
  refine ⟨?_⟩
  go_wp2
  go_loop [5, 12] (fun c i => ∃ j : Nat, j ≤ k ∧ i = .int .i64 (j : Int) ∧ c = .int .i64 (He.tallTo hs k j : Nat)) (fun _ i => k - (intOf i).toNat)
  case atStart => exact ⟨0, Nat.zero_le _, rfl, rfl⟩
  case round =>
    obtain ⟨j, hj, rfl, rfl⟩ := hrel
    have hle := He.tallTo_le hs k j
    by_cases hlt : j < k
    · have e1 := B1.out.tall (by have := HZL.out; omega) j (by omega)
      have e2 := B1.out.tall (by have := HZL.out; omega) k (by omega)
      by_cases hxy : hs.getD k 0 < hs.getD j 0
      · have HS := Lib.hid (He.tallTo_yes hs k j hxy)
        obtain ⟨x, hx⟩ : ∃ x, x = hs.getD k 0 := ⟨_, rfl⟩
        obtain ⟨y, hy⟩ : ∃ y, y = hs.getD j 0 := ⟨_, rfl⟩
        obtain ⟨c, hcc⟩ : ∃ c, c = He.tallTo hs k j := ⟨_, rfl⟩
        rw [← hx] at e2 hxy
        rw [← hy] at e1 hxy
        rw [← hcc] at hle HS ⊢
        clear hx hy hcc
        go_wp2
        go_round
        case rel => exact ⟨j + 1, by omega, by go_num, int_eq (by rw [HS.out]; omega)⟩
        case measure => simp [intOf]; omega
      · have HS := Lib.hid (He.tallTo_no hs k j hxy)
        obtain ⟨x, hx⟩ : ∃ x, x = hs.getD k 0 := ⟨_, rfl⟩
        obtain ⟨y, hy⟩ : ∃ y, y = hs.getD j 0 := ⟨_, rfl⟩
        obtain ⟨c, hcc⟩ : ∃ c, c = He.tallTo hs k j := ⟨_, rfl⟩
        rw [← hx] at e2 hxy
        rw [← hy] at e1 hxy
        rw [← hcc] at hle HS ⊢
        clear hx hy hcc
        go_wp2
        go_round
        case rel => exact ⟨j + 1, by omega, by go_num, int_eq (by rw [HS.out])⟩
        case measure => simp [intOf]; omega
    · have hjk : Hid (j = k) := Lib.hid (by omega)
      go_wp2
      go_ret
      exact ⟨ret_int (by rw [hjk.out]), L1.out⟩

set_option maxHeartbeats 2000000 in
theorem specRanksIn (w : World) (a : Option Addr) (len cap : Nat) (hs : List Nat) (h1 : 1 ≤ hs.length) (h2 : hs.length ≤ 40) (hg : goodH (asInts hs) = true) (hc : Came w a len (asInts hs)) :
    Calls Try.prog 27 #[.slice a len cap] w fun e w' => ∃ v0, e = .returned (.tuple #[v0, .bool true]) ∧ Own w' w.heap.size v0 (ranksL hs) ∧ Below w.heap.size w w' := by
  have hlen : len = hs.length := by rw [← asInts_len]; exact hc.1.symm
  have HG := Lib.hid (heGood_any w a len cap (asInts hs) (by omega) hc)
  rw [hg] at HG
  have HZL := Lib.hid hlen
  have HC := Lib.hid hc
  rw [← hlen] at h1 h2
  clear hc hlen hg
  go_enter Try.func27, Try.ntmps27
  go_wp2_with (go_at_call 37; refine HG.out.mono ?_; rintro e w' ⟨rfl, rfl⟩)
  go_loopw [4, 15] (fun v i wr => ∃ k : Nat, k ≤ len ∧ i = .int .i64 (k : Int) ∧ Own wr w.heap.size v (upTo (rankF hs) k) ∧ Below w.heap.size w wr) (fun _ i _ => len - (intOf i).toNat)
  case atStart => exact ⟨0, Nat.zero_le _, rfl, own_nil _ _, Below.refl _ _⟩
  case round =>
    obtain ⟨k, hk, rfl, ho, hb⟩ := hrel
    have HO := Lib.hid ho
    have HB := Lib.hid hb
    have hz := hb.size
    have HC2 := Lib.hid (HC.out.below hb)
    by_cases hlt : k < len
    · obtain ⟨b, off, rfl, hcell⟩ := HC2.out.2 (by omega)
      have e1 := hcell k hlt
      rw [getD_asInts] at e1
      obtain ⟨x, hx⟩ : ∃ x, x = hs.getD k 0 := ⟨_, rfl⟩
      rw [← hx] at e1
      have HX := Lib.hid hx
      clear hcell hx ho hb
      go_wp2
      clear e1
      go_loop [7, 22] (fun c j => ∃ m : Nat, m ≤ len ∧ j = .int .i64 (m : Int) ∧ c = .int .i64 (He.rankTo hs k m : Nat)) (fun _ j => len - (intOf j).toNat)
      case atStart => exact ⟨0, by omega, rfl, rfl⟩
      case round =>
        obtain ⟨m, hm, rfl, rfl⟩ := hrel
        have hle := He.rankTo_le hs k m
        by_cases hlt2 : m < len
        · obtain ⟨b', off', hbo, hcell⟩ := HC2.out.2 (by omega)
          cases hbo
          have e2 := hcell m hlt2
          rw [getD_asInts] at e2
          by_cases hxy : hs.getD m 0 < hs.getD k 0
          · have HS := Lib.hid (He.rank_yes hs k m hxy)
            rw [← HX.out] at hxy
            obtain ⟨y, hy⟩ : ∃ y, y = hs.getD m 0 := ⟨_, rfl⟩
            rw [← hy] at e2 hxy
            obtain ⟨c, hcc⟩ : ∃ c, c = He.rankTo hs k m := ⟨_, rfl⟩
            rw [← hcc] at hle HS ⊢
            clear hcell hy hcc
            go_wp2
            go_round
            case rel => exact ⟨m + 1, by omega, by go_num, int_eq (by rw [HS.out]; omega)⟩
            case measure => simp [intOf]; omega
          · by_cases hxe : hs.getD m 0 = hs.getD k 0 ∧ m < k
            · have HS := Lib.hid (He.rank_eq hs k m hxe.1 hxe.2)
              obtain ⟨hxe, hmk⟩ := hxe
              rw [hxe, ← HX.out] at e2
              obtain ⟨c, hcc⟩ : ∃ c, c = He.rankTo hs k m := ⟨_, rfl⟩
              rw [← hcc] at hle HS ⊢
              clear hcell hcc hxe hxy
              go_wp2
              go_round
              case rel => exact ⟨m + 1, by omega, by go_num, int_eq (by rw [HS.out]; omega)⟩
              case measure => simp [intOf]; omega
            · have HS := Lib.hid (He.rank_no hs k m hxy (by omega))
              rw [← HX.out] at hxy hxe
              by_cases hq : hs.getD m 0 = x
              · have hmk : ¬ m < k := by omega
                rw [hq] at e2
                obtain ⟨c, hcc⟩ : ∃ c, c = He.rankTo hs k m := ⟨_, rfl⟩
                rw [← hcc] at hle HS ⊢
                clear hcell hcc hxe hxy hq
                go_wp2
                go_round
                case rel => exact ⟨m + 1, by omega, by go_num, int_eq (by rw [HS.out])⟩
                case measure => simp [intOf]; omega
              · obtain ⟨y, hy⟩ : ∃ y, y = hs.getD m 0 := ⟨_, rfl⟩
                rw [← hy] at e2 hxy hq
                obtain ⟨c, hcc⟩ : ∃ c, c = He.rankTo hs k m := ⟨_, rfl⟩
                rw [← hcc] at hle HS ⊢
                clear hcell hy hcc hxe
                go_wp2
                go_round
                case rel => exact ⟨m + 1, by omega, by go_num, int_eq (by rw [HS.out])⟩
                case measure => simp [intOf]; omega
        · have hml : m = hs.length := by have := HZL.out; omega
          have HS : Hid (upTo (rankF hs) (k + 1) = upTo (rankF hs) k ++ [((He.rankTo hs k m : Nat) : Int)]) := Lib.hid (by rw [upTo_succ, hml]; rfl)
          obtain ⟨q, hq⟩ : ∃ q, q = He.rankTo hs k m := ⟨_, rfl⟩
          rw [← hq] at hle HS ⊢
          have hbl : (upTo (rankF hs) k).length ≤ 1000000000 := by rw [length_upTo]; omega
          clear hq hml
          go_wp2_with (at_builtin; refine wpList_app rfl _ _ rfl _ _ _ _ _ rfl rfl HO.out hz hbl ?_; intro v' w1 hO hB1)
          have HO2 : Hid (Own w1 w.heap.size v' (upTo (rankF hs) (k + 1))) := by rw [HS.out]; exact hO
          have HB2 : Hid (Below w.heap.size w w1) := HB.out.trans hB1
          clear hO hB1
          go_wp2
          go_roundw
          case rel => exact ⟨k + 1, by omega, by go_num, HO2.out, HB2.out⟩
          case measure => simp [intOf]; omega
    · have hjn : k = hs.length := by have := HZL.out; omega
      have HO2 : Hid (Own _ w.heap.size _ (ranksL hs)) := Lib.hid (show Own _ w.heap.size _ (upTo (rankF hs) hs.length) from hjn ▸ ho)
      clear ho hb hjn
      go_wp2
      go_ret2
      exact ⟨_, rfl, HO2.out, HB.out⟩

set_option maxHeartbeats 2000000 in
theorem ranks_any (w : World) (hs : List Nat) (h1 : 1 ≤ hs.length) (h2 : hs.length ≤ 40) :
    Calls Try.prog 48 #[.agg (hc hs).toArray] w fun e w' => ∃ v, e = .returned v ∧ Own w' w.heap.size v (ranksL hs) ∧ Below w.heap.size w w' := by
  obtain ⟨i0, hi, hz0, hz1, hz2⟩ := info_parts Try.info_int
  obtain ⟨len, hlen⟩ : ∃ n, n = hs.length := ⟨_, rfl⟩
  have HZL := Lib.hid hlen
  rw [← hlen] at h1 h2
  clear hlen
  go_enter Try.func48, Try.ntmps48
  go_wp2_with (refine wpList_box 43 _ rfl rfl (hc hs) rfl ?_; intro w1 g G1 B1 L1)
  refine ⟨?_⟩
  have ec := B1.out.count (by have := HZL.out; omega)
  rw [← HZL.out] at ec
  go_wp2_with (at_make; refine wpList_make_full _ rfl _ _ 22 rfl w1.heap.size 3 i0 (.int .i64 0) 1 Try.underlying22 hi hz0 hz1 .i64 .i64 _ _ len rfl rfl rfl rfl (by rw [hz2]; omega) (by unfold maxLen; omega) (Nat.le_refl _) ?_; intro w2 hown hgrow)
  have hO : Own w2 w1.heap.size (.slice (some ⟨w1.heap.size, 0, none⟩) len len) (fillTo (rankF hs) len 0) := made_fill _ hown
  have hb0 := below_made hgrow
  clear hown hgrow ec
  go_loopw [12] (fun i wr => ∃ k : Nat, k ≤ len ∧ i = .int .i64 (k : Int) ∧ Own wr w1.heap.size (.slice (some ⟨w1.heap.size, 0, none⟩) len len) (fillTo (rankF hs) len k) ∧ Below w1.heap.size w1 wr) (fun i _ => len - (intOf i).toNat)
  case atStart => exact ⟨0, Nat.zero_le _, rfl, hO, hb0⟩
  case round =>
    obtain ⟨k, hk, rfl, ho, hb⟩ := hrel
    have hfl := length_fillTo (rankF hs) len k hk
    by_cases hlt : k < len
    · have HB := Lib.hid hb
      have HO := Lib.hid ho
      have BR := Lib.hid (B1.out.below hb B1.out.lt)
      have HFL := Lib.hid hfl
      have HT := Lib.hid (fun w3 => tallerBefore_any w3 hs k (by have := HZL.out; omega) (by have := HZL.out; omega))
      have HRT := Lib.hid (He.rank_tall hs k k (Nat.le_refl _))
      have htl := He.tallTo_le hs k k
      obtain ⟨t, ht⟩ : ∃ t, t = He.tallTo hs k k := ⟨_, rfl⟩
      rw [← ht] at HT HRT htl
      clear hO hb0 ho hb hfl ht
      go_wp2_with (refine wpList_loadAll 43 _ rfl rfl g _ (hc hs) _ Try.underlying43 rfl 41 Try.size_heights rfl BR (length_hc _ (by have := HZL.out; omega)) ?_)
      refine ⟨?_⟩
      go_wp2_with fail
      go_at_call 65
      refine (HT.out _).mono ?_
      rintro e w3 ⟨rfl, b3⟩
      have ho3 := HO.out.below b3 (Nat.le_refl _)
      have f3 := ho3.free (by have := HFL.out; omega) k
      have e3 := ho3.cell (by have := HFL.out; omega) k (by have := HFL.out; omega)
      obtain ⟨z, hzz⟩ : ∃ z, z = (fillTo (rankF hs) len k).getD k 0 := ⟨_, rfl⟩
      rw [← hzz] at e3
      have i1 : (0 : Int) ≤ (k : Int) := by omega
      have i2 : (k : Int) < (len : Int) := by omega
      have i3 : (k : Int) ≤ (len : Int) := by omega
      have i4 : (len : Int) ≤ 40 := by omega
      have HOS : Hid (Own (w3.setCell ⟨w1.heap.size, k, none⟩ (.int .i64 ((k : Int) - (t : Int)))) w1.heap.size (.slice (some ⟨w1.heap.size, 0, none⟩) len len) ((fillTo (rankF hs) len k).set k (He.rankTo hs k (k + 0) : Nat))) := by
        have := ho3.set (by have := HFL.out; omega) k ((k : Int) - (t : Int))
        rw [show ((k : Int) - (t : Int)) = ((He.rankTo hs k (k + 0) : Nat) : Int) from by have := HRT.out; rw [Nat.add_zero]; omega] at this ⊢
        exact this
      have hb3 := HB.out.trans (b3.mono (by have := HB.out.size; omega))
      have HBS := Lib.hid (hb3.setCell (p := ⟨w1.heap.size, k, none⟩) (Nat.le_refl _) (.int .i64 ((k : Int) - (t : Int))))
      have ec := (B1.out.below HBS.out B1.out.lt).count (by have := HZL.out; omega)
      rw [← HZL.out] at ec
      clear hzz b3 ho3 hb3
      go_wp2
      clear f3 e3 ec
      go_loopw [29] (fun i wq => ∃ m : Nat, m ≤ len - k ∧ i = .int .i64 (m : Int) ∧ Own wq w1.heap.size (.slice (some ⟨w1.heap.size, 0, none⟩) len len) ((fillTo (rankF hs) len k).set k (He.rankTo hs k (k + m) : Nat)) ∧ Below w1.heap.size w1 wq) (fun i _ => len - k - (intOf i).toNat)
      case atStart => exact ⟨0, Nat.zero_le _, rfl, HOS.out, HBS.out⟩
      case round =>
        obtain ⟨m, hm, rfl, hoq, hbq⟩ := hrel
        have BQ := Lib.hid (B1.out.below hbq B1.out.lt)
        have hle := He.rankTo_le hs k (k + m)
        by_cases hlt2 : m < len - k
        · have e1 := BQ.out.tall (by have := HZL.out; omega) (k + m) (by omega)
          have e2 := BQ.out.tall (by have := HZL.out; omega) k (by omega)
          have i5 : (k : Int) < 40 := by omega
          by_cases hxy : hs.getD (k + m) 0 < hs.getD k 0
          · have HS := Lib.hid (He.rank_yes hs k (k + m) hxy)
            have f3 := hoq.free (by rw [List.length_set]; have := HFL.out; omega) k
            have e3 := hoq.cell (by rw [List.length_set]; have := HFL.out; omega) k (by rw [List.length_set]; have := HFL.out; omega)
            rw [setGet _ _ _ (by have := HFL.out; omega)] at e3
            have ho4 := hoq.set (by rw [List.length_set]; have := HFL.out; omega) k ((He.rankTo hs k (k + m) : Nat) + 1 : Int)
            rw [setSet] at ho4
            obtain ⟨c, hcc⟩ : ∃ c, c = He.rankTo hs k (k + m) := ⟨_, rfl⟩
            rw [← hcc] at hle HS e3 ho4
            have HOS2 : Hid (Own (wr.setCell ⟨w1.heap.size, k, none⟩ (.int .i64 ((c : Int) + 1))) w1.heap.size (.slice (some ⟨w1.heap.size, 0, none⟩) len len) ((fillTo (rankF hs) len k).set k (He.rankTo hs k (k + (m + 1)) : Nat))) := by
              rw [show k + (m + 1) = k + m + 1 from by omega, HS.out]; exact ho4
            have HBS2 := Lib.hid (hbq.setCell (p := ⟨w1.heap.size, k, none⟩) (Nat.le_refl _) (.int .i64 ((c : Int) + 1)))
            obtain ⟨x, hx⟩ : ∃ x, x = hs.getD k 0 := ⟨_, rfl⟩
            obtain ⟨y, hy⟩ : ∃ y, y = hs.getD (k + m) 0 := ⟨_, rfl⟩
            rw [← hx] at e2 hxy
            rw [← hy] at e1 hxy
            clear hx hy hcc hoq hbq ho4
            go_wp2
            go_roundw
            case rel => exact ⟨m + 1, by omega, by go_num, HOS2.out, HBS2.out⟩
            case measure => simp [intOf]; omega
          · have HS := Lib.hid (He.rank_no hs k (k + m) hxy (by omega))
            have HOS2 : Hid (Own wr w1.heap.size (.slice (some ⟨w1.heap.size, 0, none⟩) len len) ((fillTo (rankF hs) len k).set k (He.rankTo hs k (k + (m + 1)) : Nat))) := by
              rw [show k + (m + 1) = k + m + 1 from by omega, HS.out]; exact hoq
            have HBQ := Lib.hid hbq
            obtain ⟨x, hx⟩ : ∃ x, x = hs.getD k 0 := ⟨_, rfl⟩
            obtain ⟨y, hy⟩ : ∃ y, y = hs.getD (k + m) 0 := ⟨_, rfl⟩
            rw [← hx] at e2 hxy
            rw [← hy] at e1 hxy
            clear hx hy hoq hbq hle
            go_wp2
            go_roundw
            case rel => exact ⟨m + 1, by omega, by go_num, HOS2.out, HBQ.out⟩
            case measure => simp [intOf]; omega
        · have HOS2 : Hid (Own wr w1.heap.size (.slice (some ⟨w1.heap.size, 0, none⟩) len len) (fillTo (rankF hs) len (k + 1))) := by
            have e : k + m = hs.length := by have := HZL.out; omega
            rw [e] at hoq
            rw [← fillTo_succ _ _ _ hlt]; exact hoq
          have HBQ := Lib.hid hbq
          clear hoq hbq hle
          go_wp2
          go_roundw
          case rel => exact ⟨k + 1, by omega, by go_num, HOS2.out, HBQ.out⟩
          case measure => simp [intOf]; omega
    · have hkn : k = hs.length := by have := HZL.out; omega
      have HO : Hid (Own _ w1.heap.size _ (ranksL hs)) := Lib.hid (show Own _ w1.heap.size _ (upTo (rankF hs) hs.length) from by rw [← fillTo_all, ← HZL.out]; rw [show k = len from by have := HZL.out; omega] at ho; exact ho)
      have HB := Lib.hid hb
      clear hkn hO hb0 ho hb hfl
      go_wp2
      go_ret
      exact ⟨_, rfl, HO.out.mono L1.out.size, L1.out.trans (HB.out.mono L1.out.size)⟩

end Go.Proofs.Ytnajlnghhboelaa
