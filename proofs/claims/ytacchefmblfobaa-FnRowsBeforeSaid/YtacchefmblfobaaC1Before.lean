
/- rwBefore and before: the rows from which a tick leads to a row. -/
import Derived.Test.YtacchefmblfobaaC1Strs
import Derived.Test.YtacchefmblfobaaC1Make
import Derived.Test.YtacchefmblfobaaC1Number
import Derived.Test.YtacchefmblfobaaC1Spec
namespace Go.Proofs.Ytacchefmblfobaa.C1
open Go.ChangeShapes Go.WideShapes Go.ChangeAt Go.RowKit

/-- of the first j rows those that lead to l, as texts -/
def befTo (l : List Bool) (j : Nat) : List ByteArray := (((List.range j).map (Rw.make l.length)).filter fun r => decide (Rw.tick r = l)).map Rw.str
theorem befTo_yes (l : List Bool) (j : Nat) (h : Rw.tick (Rw.make l.length j) = l) : befTo l (j + 1) = befTo l j ++ [Rw.str (Rw.make l.length j)] := by
  unfold befTo
  rw [List.range_succ, List.map_append, List.filter_append, List.map_append]
  congr 1
  simp [h]
theorem befTo_no (l : List Bool) (j : Nat) (h : ¬ Rw.tick (Rw.make l.length j) = l) : befTo l (j + 1) = befTo l j := by
  unfold befTo
  rw [List.range_succ, List.map_append, List.filter_append, List.map_append]
  simp [h]
theorem befTo_len (l : List Bool) (j : Nat) : (befTo l j).length ≤ j := by
  unfold befTo
  rw [List.length_map]
  have := List.length_filter_le (fun r => decide (Rw.tick r = l)) ((List.range j).map (Rw.make l.length))
  simpa using this
theorem own_appendS {w1 : World} {B L : Nat} {v : Value} {zs : List ByteArray} {s : ByteArray} (hL : L = zs.length) (h : w1.ownsRow B 9 1 v (L + 1) (zs.map Value.string ++ [.string s])) : OwnS w1 B v (zs ++ [s]) := by
  subst hL
  unfold OwnS
  rw [List.length_append, List.map_append]
  exact h
theorem own_rowS {w : World} {B : Nat} {v : Value} {zs : List ByteArray} {L : Nat} (hL : L = zs.length) (h : OwnS w B v zs) : w.ownsRow B 9 1 v L (zs.map Value.string) := by subst hL; exact h
theorem p2_12' (n : Nat) (h : n ≤ 12) : p2 n ≤ 4096 := by
  have h1 : 2 ^ n ≤ 2 ^ 12 := Nat.pow_le_pow_right (by omega) h
  have h3 : (2 : Nat) ^ 12 = 4096 := by decide
  unfold p2; omega

theorem text_ne {a b : ByteArray} (h : ¬ a = b) : (a.toList == b.toList) = false :=
  beq_eq_false_iff_ne.2 (fun e => h (bytes_inj (by rw [← ByteArray.toList_eq, ← ByteArray.toList_eq]; exact e)))

set_option maxRecDepth 20000 in
set_option maxHeartbeats 4000000 in
theorem rwBefore_any (l : List Bool) (h1 : 1 ≤ l.length) (h2 : l.length ≤ 12) (w : World) :
    Calls Try.prog 97 #[.string (Rw.str l)] w fun e w' => ∃ v, e = .returned v ∧ OwnS w' w.heap.size v (befTo l (p2 l.length)) ∧ Below w.heap.size w w' := by
  obtain ⟨i0, hi, hz0, hz1, hz2⟩ := info_parts Try.info_string
  have hsz := Rw.size_str l
  have hp := p2_12' l.length h2
  have hw := p2_wrap l.length (by omega)
  have HBL := Lib.hid (befTo_len l)
  have HY := Lib.hid (befTo_yes l)
  have HNO := Lib.hid (befTo_no l)
  have HMK := Lib.hid (fun k (hk : k ≤ 4611686018427387904) w2 => rwMake_any l.length k (by omega) hk w2)
  have HTK := Lib.hid (fun k w2 => rwTick_any (Rw.make l.length k) (by simpa using h1) (by simp; omega) w2)
  obtain ⟨N, hN⟩ : ∃ N, N = p2 l.length := ⟨_, rfl⟩
  obtain ⟨s, hs⟩ : ∃ s, s = Rw.str l := ⟨_, rfl⟩
  rw [← hN] at hp hw ⊢
  rw [← hs] at hsz ⊢
  rw [← hsz] at hw HMK HY HNO HTK
  have HS := Lib.hid hs
  have hs12 : s.size ≤ 12 := by omega
  clear hN hs hsz
  go_enter Try.func97, Try.ntmps97
  go_wp2
  go_loopw [3, 4] (fun v i wr => ∃ j : Nat, j ≤ N ∧ i = .int .i64 (j : Int) ∧ OwnS wr w.heap.size v (befTo l j) ∧ Below w.heap.size w wr) (fun _ i _ => N - (intOf i).toNat)
  case atStart => exact ⟨0, Nat.zero_le _, rfl, ownS_nil _ _, Below.refl _ _⟩
  case round =>
    obtain ⟨j, hj, rfl, ho, hb⟩ := hrel
    have HO := Lib.hid ho
    have HB := Lib.hid hb
    have hz := hb.size
    by_cases hlt : j < N
    · have HT := Lib.hid (HTK.out j)
      have HYJ := Lib.hid (HY.out j)
      have HNJ := Lib.hid (HNO.out j)
      have HMJ := Lib.hid (HMK.out j (by omega))
      have hln : (befTo l j).length ≤ 4096 := by have := HBL.out j; omega
      obtain ⟨r, hr⟩ : ∃ r, r = Rw.make s.size j := ⟨_, rfl⟩
      rw [← hr] at HT HYJ HNJ HMJ
      obtain ⟨sr, hsr⟩ : ∃ sr, sr = Rw.str r := ⟨_, rfl⟩
      rw [← hsr] at HT HYJ HMJ
      clear ho hb hr hsr
      by_cases htick : Rw.tick r = l
      · have hts : Rw.str (Rw.tick r) = s := by rw [htick]; exact HS.out.symm
        rw [hts] at HT
        have HY2 := Lib.hid (HYJ.out htick)
        clear htick hts
        go_wp2_with fail
        go_at_call 92
        refine (HMJ.out _).mono ?_
        rintro e w' ⟨rfl, rfl⟩
        go_wp2_with fail
        go_at_call 71
        refine (HT.out _).mono ?_
        rintro e w2 ⟨rfl, hb2⟩
        have HO2 := Lib.hid (HO.out.below hb2 (Nat.le_refl _))
        have HB2 : Hid (Below w.heap.size w w2) := HB.out.trans (hb2.mono hz)
        have hz2' := HB2.out.size
        obtain ⟨L, hL⟩ : ∃ L, L = (befTo l j).length := ⟨_, rfl⟩
        have HL := Lib.hid hL
        have hown2 := own_rowS hL HO2.out
        rw [← hL] at hln
        clear hb2 hL
        go_wp2_with (at_builtin; refine wpList_append_own _ rfl _ _ 46 rfl w.heap.size 9 i0 (.string ByteArray.empty) 1 16 Try.underlying46 hi hz0 hz1 hz2 rfl (by decide) _ _ _ rfl (hown2.alloc _) ⟨w2.heap.size, 0, none⟩ 1 1 [.string sr] rfl rfl ?c1 ?c2 ?c3 ?c4 ?c5 ?_)
        case c1 =>
          intro q u hq
          match q, hq with
          | 0, hq => simp at hq; subst hq; simp [Addr.add]
        case c2 => intro u hu; simp at hu; subst hu; rfl
        case c3 => unfold maxLen; omega
        case c4 => omega
        case c5 => simp; omega
        intro v' w4 hown' hgrow _
        have HO4 : Hid (OwnS w4 w.heap.size v' (befTo l (j + 1))) := by rw [HY2.out]; exact own_appendS HL.out hown'
        have HB4 := Lib.hid (own_grown HB2.out (Nat.le_refl _) hown2 hgrow)
        clear hown' hgrow hown2
        go_wp2
        go_roundw
        case rel => exact ⟨j + 1, by omega, by go_num, HO4.out, HB4.out⟩
        case measure => simp [intOf]; omega
      · have HN2 := Lib.hid (HNJ.out htick)
        have hts : ¬ Rw.str (Rw.tick r) = s := fun e => htick (Rw.str_inj (e.trans HS.out))
        obtain ⟨x, hx⟩ : ∃ x, x = Rw.str (Rw.tick r) := ⟨_, rfl⟩
        rw [← hx] at HT hts
        have t1 := text_ne hts
        clear htick hx hts
        go_wp2_with fail
        go_at_call 92
        refine (HMJ.out _).mono ?_
        rintro e w' ⟨rfl, rfl⟩
        go_wp2_with fail
        go_at_call 71
        refine (HT.out _).mono ?_
        rintro e w2 ⟨rfl, hb2⟩
        have HO2 := Lib.hid (HO.out.below hb2 (Nat.le_refl _))
        have HB2 : Hid (Below w.heap.size w w2) := HB.out.trans (hb2.mono hz)
        have ho3 := HO2.out
        rw [← HN2.out] at ho3
        have HO3 := Lib.hid ho3
        clear ho3
        clear hb2
        go_wp2
        go_roundw
        case rel => exact ⟨j + 1, by omega, by go_num, HO3.out, HB2.out⟩
        case measure => simp [intOf]; omega
    · have hjN : j = N := by omega
      subst hjN
      clear ho hb
      go_wp2
      go_ret
      exact ⟨_, rfl, HO.out, HB.out⟩

set_option maxRecDepth 20000 in
set_option maxHeartbeats 4000000 in
theorem before_any (g : Nat) (l : List Bool) (c : List Nat) (h1 : 1 ≤ l.length) (h2 : l.length ≤ 12) (B : Nat) (_hB : B ≤ g) (w0 w : World) (hB0 : B ≤ w0.heap.size) (hb : Below B w0 w) (hT : Trp w g l c) :
    Calls Try.prog 95 #[.slice (some ⟨g, 0, none⟩) l.length l.length] w fun e w' => ∃ v, e = .returned v ∧ OwnS w' B v (befTo l (p2 l.length)) ∧ Below B w0 w' := by
  obtain ⟨i0, hi, hz0, hz1, hz2⟩ := info_parts Try.info_string
  have hp := p2_12' l.length h2
  have HBL := Lib.hid (befTo_len l)
  have HY := Lib.hid (befTo_yes l)
  have HNO := Lib.hid (befTo_no l)
  have HNUM := Lib.hid (number_any g l c h1 (by omega) w hT)
  have HCR := Lib.hid (fun w2 => countRows_any l.length (by omega) w2)
  have HOF := Lib.hid (fun k (hk : k ≤ 4611686018427387904) w2 => troopOf_any l.length k h1 (by omega) hk w2)
  have HTK := Lib.hid (fun k g2 w2 (h : Trp w2 g2 (Rw.make l.length k) (List.replicate l.length 0)) => tick_any g2 (Rw.make l.length k) _ (by simpa using h1) (by simp; omega) (by simp) w2 h)
  have HN2 := Lib.hid (fun k g2 w2 c2 (h : Trp w2 g2 (Rw.tick (Rw.make l.length k)) c2) => number_any g2 (Rw.tick (Rw.make l.length k)) c2 (by simpa using h1) (by simp; omega) w2 h)
  have HX := Lib.hid (fun k g2 w2 (h : Trp w2 g2 (Rw.make l.length k) (List.replicate l.length 0)) => text_any g2 (Rw.make l.length k) _ (by simpa using h1) (by simp; omega) w2 h)
  have HINJ : Hid (∀ k, Rw.numberOf (Rw.tick (Rw.make l.length k)) = Rw.numberOf l → Rw.tick (Rw.make l.length k) = l) := Lib.hid (fun k e => Rw.numberOf_inj (by simp) e)
  have hnb : Rw.numberOf l < 4096 := by have := Rw.numberOf_lt l; unfold p2 at hp; omega
  have HNB : Hid (∀ k, Rw.numberOf (Rw.tick (Rw.make l.length k)) < 4096) := Lib.hid (fun k => by have := Rw.numberOf_lt (Rw.tick (Rw.make l.length k)); unfold p2 at hp; simp only [Rw.length_tick, Rw.length_make] at this; omega)
  simp only [Rw.length_make, Rw.length_tick] at HTK HN2 HX
  obtain ⟨N, hN⟩ : ∃ N, N = p2 l.length := ⟨_, rfl⟩
  obtain ⟨n, hn⟩ : ∃ n, n = l.length := ⟨_, rfl⟩
  obtain ⟨want, hwant⟩ : ∃ want, want = Rw.numberOf l := ⟨_, rfl⟩
  rw [← hN] at hp HCR ⊢
  rw [← hn] at h1 h2 HY HNO HNUM HCR HOF HTK HN2 HX HINJ HNB ⊢
  rw [← hwant] at HNUM HINJ hnb
  have HWANT := Lib.hid hwant
  have Hb := Lib.hid hb
  have hwz := hb.size
  clear hN hn hwant hT hb
  go_enter Try.func95, Try.ntmps95
  go_wp2_with fail
  go_at_call 81
  refine HNUM.out.mono ?_
  rintro e w1 ⟨rfl, hb1⟩
  have HB1 : Hid (Below B w0 w1) := Hb.out.trans (hb1.mono (by omega))
  clear hb1
  go_wp2_with fail
  go_at_call 82
  refine (HCR.out _).mono ?_
  rintro e w' ⟨rfl, rfl⟩
  go_wp2
  go_loopw [3, 12] (fun v i wr => ∃ j : Nat, j ≤ N ∧ i = .int .i64 (j : Int) ∧ OwnS wr B v (befTo l j) ∧ Below B w0 wr) (fun _ i _ => N - (intOf i).toNat)
  case atStart => exact ⟨0, Nat.zero_le _, rfl, ownS_nil _ _, HB1.out⟩
  case round =>
    obtain ⟨j, hj, rfl, ho, hb⟩ := hrel
    have HO := Lib.hid ho
    have HB := Lib.hid hb
    have hz := hb.size
    by_cases hlt : j < N
    · have HYJ := Lib.hid (HY.out j)
      have HNJ := Lib.hid (HNO.out j)
      have HIJ := Lib.hid (HINJ.out j)
      have hnbj := HNB.out j
      have HOJ := Lib.hid (HOF.out j (by omega))
      have HTJ := Lib.hid (HTK.out j)
      have HN2J := Lib.hid (HN2.out j)
      have HXJ := Lib.hid (HX.out j)
      have hln : (befTo l j).length ≤ 4096 := by have := HBL.out j; omega
      obtain ⟨r, hr⟩ : ∃ r, r = Rw.make n j := ⟨_, rfl⟩
      rw [← hr] at HYJ HNJ HIJ hnbj HOJ HTJ HN2J HXJ
      clear ho hb hr
      go_wp2_with fail
      go_at_call 83
      refine (HOJ.out _).mono ?_
      rintro e w2 ⟨rfl, hT, hb2⟩
      have HT := Lib.hid hT
      have HO2 := Lib.hid (HO.out.below hb2 (Nat.le_refl _))
      have HB2 : Hid (Below B w0 w2) := HB.out.trans (hb2.mono (by omega))
      have hz2' := hb2.size
      clear hT hb2
      go_wp2_with fail
      go_at_call 88
      refine (HTJ.out _ _ HT.out).mono ?_
      rintro e w3 ⟨rfl, hT3, hG3⟩
      have HT3 := Lib.hid hT3
      have HO3 := Lib.hid (HO2.out.grown hG3 (fun q hq => by
        cases hq
        by_cases h : wr.heap.size < w2.heap.size
        · refine .inr (fun e => ?_)
          have := (World.ownsRow.lt HO.out _ e).2; omega
        · exact .inl (by omega)))
      have HB3 : Hid (Below B w0 w3) := grownBy_below HB2.out hG3 hB0 (by omega)
      have hz3 := hG3.size
      clear hT3 hG3
      go_wp2_with fail
      go_at_call 81
      refine (HN2J.out _ _ _ HT3.out).mono ?_
      rintro e w4 ⟨rfl, hb4⟩
      have HO4 := Lib.hid (HO3.out.below hb4 (Nat.le_refl _))
      have HB4 : Hid (Below B w0 w4) := HB3.out.trans (hb4.mono (by omega))
      have hz4 := hb4.size
      clear hb4
      by_cases heq : Rw.numberOf (Rw.tick r) = want
      · have HY2 := Lib.hid (HYJ.out (HIJ.out heq))
        rw [heq]
        clear heq hnbj
        go_wp2_with fail
        go_at_call 83
        refine (HOJ.out _).mono ?_
        rintro e w5 ⟨rfl, hT5, hb5⟩
        have HT5 := Lib.hid hT5
        have HO5 := Lib.hid (HO4.out.below hb5 (Nat.le_refl _))
        have HB5 : Hid (Below B w0 w5) := HB4.out.trans (hb5.mono (by omega))
        have hz5 := hb5.size
        clear hT5 hb5
        go_wp2_with fail
        go_at_call 84
        refine (HXJ.out _ _ HT5.out).mono ?_
        rintro e w6 ⟨rfl, hb6⟩
        have HO6 := Lib.hid (HO5.out.below hb6 (Nat.le_refl _))
        have HB6 : Hid (Below B w0 w6) := HB5.out.trans (hb6.mono (by omega))
        have hz6 := hb6.size
        have hBw6 : B ≤ w6.heap.size := by omega
        obtain ⟨sr, hsr⟩ : ∃ sr, sr = Rw.str r := ⟨_, rfl⟩
        rw [← hsr] at HY2 ⊢
        obtain ⟨L, hL⟩ : ∃ L, L = (befTo l j).length := ⟨_, rfl⟩
        have HL := Lib.hid hL
        have hown2 := own_rowS hL HO6.out
        rw [← hL] at hln
        clear hb6 hL hsr
        go_wp2_with (at_builtin; refine wpList_append_own _ rfl _ _ 46 rfl B 9 i0 (.string ByteArray.empty) 1 16 Try.underlying46 hi hz0 hz1 hz2 rfl (by decide) _ _ _ rfl (hown2.alloc _) ⟨w6.heap.size, 0, none⟩ 1 1 [.string sr] rfl rfl ?c1 ?c2 ?c3 ?c4 ?c5 ?_)
        case c1 =>
          intro q u hq
          match q, hq with
          | 0, hq => simp at hq; subst hq; simp [Addr.add]
        case c2 => intro u hu; simp at hu; subst hu; rfl
        case c3 => unfold maxLen; omega
        case c4 => omega
        case c5 => simp; omega
        intro v' w7 hown' hgrow _
        have HO7 : Hid (OwnS w7 B v' (befTo l (j + 1))) := by rw [HY2.out]; exact own_appendS HL.out hown'
        have HB7 := Lib.hid (own_grown HB6.out hB0 hown2 hgrow)
        clear hown' hgrow hown2
        go_wp2
        go_roundw
        case rel => exact ⟨j + 1, by omega, by go_num, HO7.out, HB7.out⟩
        case measure => simp [intOf]; omega
      · have hne : ¬ Rw.tick r = l := fun e => heq (by rw [e]; exact HWANT.out.symm)
        have HN3 := Lib.hid (HNJ.out hne)
        have ho5 := HO4.out
        rw [← HN3.out] at ho5
        have HO5 := Lib.hid ho5
        clear ho5
        obtain ⟨x, hx⟩ : ∃ x, x = Rw.numberOf (Rw.tick r) := ⟨_, rfl⟩
        rw [← hx] at heq ⊢
        have t1 : ((x : Int) == (want : Int)) = false := by rw [beq_eq_false_iff_ne]; omega
        clear hne hx heq hnbj
        go_wp2
        go_roundw
        case rel => exact ⟨j + 1, by omega, by go_num, HO5.out, HB4.out⟩
        case measure => simp [intOf]; omega
    · have hjN : j = N := by omega
      subst hjN
      clear ho hb
      go_wp2
      go_ret
      exact ⟨_, rfl, HO.out, HB.out⟩

end Go.Proofs.Ytacchefmblfobaa.C1
