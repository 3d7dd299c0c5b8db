/- Chapter 4: the model's WaysToFace. -/
import Derived.Test.YtjbomclildkjaaaDoorWa
import Derived.Test.YtjbomclildkjaaaDoorDrB
import Derived.Test.YtjbomclildkjaaaDoorUp
import Derived.Test.YtjbomclildkjaaaDoorIn
import Derived.Test.YtjbomclildkjaaaDoorLeast
namespace Go.Proofs.YtjbomclildkjaaaDoor
open Go.ChangeShapes Go.WideShapes Go.ChangeAt Go.RowKit
open Dr

namespace Dr
def capC : Nat := 1000000000000001
def capL (f : Nat → Nat) (n : Nat) : List Int := upTo (fun a => ((min (f a) capC : Nat) : Int)) n
theorem length_capL (f : Nat → Nat) (n : Nat) : (capL f n).length = n := length_upTo _ _
theorem getD_capL (f : Nat → Nat) (n a : Nat) (h : a < n) : (capL f n).getD a 0 = ((min (f a) capC : Nat) : Int) := getD_upTo _ _ _ h
theorem capL_congr {f g : Nat → Nat} {n : Nat} (h : ∀ a, a < n → f a = g a) : capL f n = capL g n := upTo_congr _ _ _ fun a ha => by rw [h a ha]
theorem capL_set (f : Nat → Nat) (c : Nat) (a d n to : Nat) (hd : d < 4) (hto : to < n) (ht : target c (4 * a + d) = to) :
    (capL (pushTo f c (4 * a + d)) n).set to ((min (min (pushTo f c (4 * a + d) to) capC + min (f a) capC) capC : Nat) : Int) = capL (pushTo f c (4 * a + (d + 1))) n := by
  refine ext_getD 0 (by rw [List.length_set, length_capL, length_capL]) fun i hi => ?_
  rw [List.length_set, length_capL] at hi
  rw [getD_capL _ _ _ hi, getD_set, length_capL, show 4 * a + (d + 1) = (4 * a + d) + 1 by omega, pushTo, ht, show (4 * a + d) / 4 = a by omega]
  by_cases e : to = i
  · subst e
    rw [if_pos ⟨rfl, hto⟩, if_pos rfl, cap_add]
  · rw [if_neg (fun h => e h.1), if_neg e, Nat.add_zero, getD_capL _ _ _ hi]
theorem push_zero {f : Nat → Nat} {c a : Nat} (h : f a = 0) (to : Nat) : ∀ d, d ≤ 4 → pushTo f c (4 * a + d) to = pushTo f c (4 * a) to
  | 0, _ => rfl
  | d + 1, hd => by
    rw [show 4 * a + (d + 1) = (4 * a + d) + 1 by omega, pushTo, show (4 * a + d) / 4 = a by omega, h, push_zero h to d (by omega)]
    split <;> rfl
theorem waysA_zero (ts : List Nat) (n : Nat) (h : 0 < n) : (fillTo (fun _ => 0) n 0).set 0 1 = capL (waysA ts 0) n := by
  rw [fillTo_zero]
  refine ext_getD 0 (by rw [List.length_set, List.length_replicate, length_capL]) fun i hi => ?_
  rw [List.length_set, List.length_replicate] at hi
  rw [getD_capL _ _ _ hi, getD_set, List.length_replicate]
  unfold waysA
  rw [waysTo]
  by_cases e : i = 0
  · subst e; rw [if_pos ⟨rfl, h⟩, if_pos (by omega)]; rfl
  · rw [if_neg (by omega), if_neg (by omega)]
    simp [List.getD_eq_getElem?_getD, hi]
theorem waysA_few {ts : List Nat} {k a : Nat} (h : waysA ts k a ≠ 0) : a / 4 ≤ k := by
  rcases Nat.lt_or_ge k (a / 4) with h1 | h1
  · exact absurd (waysTo_none ts k (a / 4) (a % 4) h1) h
  · exact h1
def wayB (s : ByteArray) (m t : Int) : Bool := wordB s && (inB m 0 60 && inB t 0 3)
def wayN (s : ByteArray) (m t : Int) : Nat := waysTo (tsOf s) s.size m.toNat t.toNat
end Dr
def outWaysToFace_0 (s : ByteArray) (m t : Int) : Int := if wayB s m t && decide (wayN s m t ≤ 1000000000000000) then (wayN s m t : Nat) else 0
def outWaysToFace_1 (s : ByteArray) (m t : Int) : Bool := wayB s m t && decide (wayN s m t ≤ 1000000000000000)

set_option maxRecDepth 20000 in
set_option maxHeartbeats 8000000 in
theorem specWaysToFace_any (w : World) (s : ByteArray) (m t : Int) (_ws : s.size ≤ maxLen) (_wm : (Lit.int .i64 m).wf = true) (_wt : (Lit.int .i64 t).wf = true) (hs : s.size ≤ 1048576) :
    Calls Tryd.prog 50 #[.string s, .int .i64 m, .int .i64 t] w fun e w' => e = .returned (.tuple #[.int .i64 (outWaysToFace_0 s m t), .bool (outWaysToFace_1 s m t)]) ∧ Below w.heap.size w w' := by
  have HW := Lib.hid (drWord_any s w hs)
  have HI := Lib.hid (l1In_any m 0 60 w)
  have HJ := Lib.hid (l1In_any t 0 3 w)
  clear _ws _wm _wt
  rcases hb : wordB s with _ | _
  · have H0 : Hid (outWaysToFace_0 s m t = 0 ∧ outWaysToFace_1 s m t = false) := Lib.hid (by unfold outWaysToFace_0 outWaysToFace_1 wayB; rw [hb]; exact ⟨rfl, rfl⟩)
    rw [hb] at HW
    clear hb
    go_enter Tryd.func50, Tryd.ntmps50
    go_wp2_with (go_at_call 56; refine HW.out.mono ?_; rintro e w' ⟨rfl, rfl⟩)
    go_ret2
    exact ⟨by rw [H0.out.1, H0.out.2]; exact rfl, Below.refl _ _⟩
  · rcases hb1 : inB m 0 60 with _ | _
    · have H0 : Hid (outWaysToFace_0 s m t = 0 ∧ outWaysToFace_1 s m t = false) := Lib.hid (by unfold outWaysToFace_0 outWaysToFace_1 wayB; rw [hb, hb1]; exact ⟨rfl, rfl⟩)
      rw [hb] at HW
      rw [hb1] at HI
      clear hb hb1
      go_enter Tryd.func50, Tryd.ntmps50
      go_wp2_with (first | (go_at_call 56; refine HW.out.mono ?_; rintro e w' ⟨rfl, rfl⟩) | (go_at_call 69; refine HI.out.mono ?_; rintro e w' ⟨rfl, rfl⟩))
      go_ret2
      exact ⟨by rw [H0.out.1, H0.out.2]; exact rfl, Below.refl _ _⟩
    · rcases hb2 : inB t 0 3 with _ | _
      · have H0 : Hid (outWaysToFace_0 s m t = 0 ∧ outWaysToFace_1 s m t = false) := Lib.hid (by unfold outWaysToFace_0 outWaysToFace_1 wayB; rw [hb, hb1, hb2]; exact ⟨rfl, rfl⟩)
        rw [hb] at HW
        rw [hb1] at HI
        rw [hb2] at HJ
        clear hb hb1 hb2
        go_enter Tryd.func50, Tryd.ntmps50
        go_wp2_with fail
        go_at_call 56
        refine HW.out.mono ?_
        rintro e w' ⟨rfl, rfl⟩
        go_wp2_with fail
        go_at_call 69
        refine HI.out.mono ?_
        rintro e w' ⟨rfl, rfl⟩
        go_wp2_with fail
        go_at_call 69
        refine HJ.out.mono ?_
        rintro e w' ⟨rfl, rfl⟩
        go_wp2
        go_ret2
        exact ⟨by rw [H0.out.1, H0.out.2]; exact rfl, Below.refl _ _⟩
      · obtain ⟨hm0, hm1⟩ := inB_yes hb1
        obtain ⟨ht0, ht1⟩ := inB_yes hb2
        obtain ⟨M, rfl⟩ : ∃ M : Nat, m = (M : Int) := ⟨m.toNat, by omega⟩
        obtain ⟨T, rfl⟩ : ∃ T : Nat, t = (T : Int) := ⟨t.toNat, by omega⟩
        obtain ⟨ts, rfl, h4, h5⟩ := word_of hb
        have HB : Hid (wayB (word ts) M T = true) := Lib.hid (by unfold wayB; rw [hb, hb1, hb2]; rfl)
        have HWN : Hid (wayN (word ts) M T = waysTo ts (word ts).size M T) := Lib.hid (by unfold wayN; rw [tsOf_word h5]; rfl)
        have HWB := Lib.hid (word_byte ts h5)
        have HGL := Lib.hid (getD_lt h5 (by omega))
        have hsz : (word ts).size ≤ 60 := by rw [size_word]; exact h4
        obtain ⟨i0, hi, hz0, hz1, hz2⟩ := info_parts Tryd.info_int
        rw [hb] at HW
        rw [hb1] at HI
        rw [hb2] at HJ
        obtain ⟨s, hse⟩ : ∃ s, s = word ts := ⟨_, rfl⟩
        rw [← hse] at HB HWN hsz HW ⊢
        have HWB2 : Hid (∀ k, (hk : k < s.size) → turnI ((s[k]).toNat : Int) = ((ts.getD k 0 : Nat) : Int)) := Lib.hid (by subst hse; exact HWB.out)
        obtain ⟨N, hN⟩ : ∃ N, N = 4 * (s.size + 2) := ⟨_, rfl⟩
        have eN : 4 * ((s.size : Int) + 2) = (N : Int) := by omega
        have hNb : N ≤ 248 := by omega
        have hNp : 0 < N := by omega
        have HN := Lib.hid hN
        clear hb hb1 hb2 hse HWB h5 hN hs
        go_enter Tryd.func50, Tryd.ntmps50
        go_wp2_with fail
        go_at_call 56
        refine HW.out.mono ?_
        rintro e w' ⟨rfl, rfl⟩
        go_wp2_with fail
        go_at_call 69
        refine HI.out.mono ?_
        rintro e w' ⟨rfl, rfl⟩
        go_wp2_with fail
        go_at_call 69
        refine HJ.out.mono ?_
        rintro e w' ⟨rfl, rfl⟩
        go_wp2_with (at_make; refine wpList_make_full _ rfl _ _ 47 rfl w.heap.size 3 i0 (.int .i64 0) 1 Tryd.underlying47 hi hz0 hz1 .i64 .i64 _ _ N rfl rfl rfl rfl (by rw [hz2]; omega) (by unfold maxLen; omega) (Nat.le_refl _) ?_; intro w1 hown hgrow; have hO := made_fill (fun _ => 0) hown; have e0 := hO.cell (length_fillTo _ _ _ (Nat.zero_le _)).symm 0 (by rw [length_fillTo _ _ _ (Nat.zero_le _)]; exact hNp); have f0 := hO.free (length_fillTo _ _ _ (Nat.zero_le _)).symm 0; have HO0 : Hid (Own (w1.setCell ⟨w.heap.size, 0, none⟩ (.int .i64 1)) w.heap.size (.slice (some ⟨w.heap.size, 0, none⟩) N N) (capL (waysA ts 0) N)) := Lib.hid (by rw [← waysA_zero ts N hNp]; exact hO.set (length_fillTo _ _ _ (Nat.zero_le _)).symm 0 1); have HB0 : Hid (Below w.heap.size w (w1.setCell ⟨w.heap.size, 0, none⟩ (.int .i64 1))) := Lib.hid ((below_made hgrow).setCell (Nat.le_refl _) _); clear hown hgrow hO)
        clear e0 f0
        go_loopw [8, 9] (fun v i wr => ∃ k : Nat, k ≤ s.size ∧ i = .int .i64 (k : Int) ∧ Hid (Own wr w.heap.size v (capL (waysA ts k) N)) ∧ Hid (Below w.heap.size w wr)) (fun _ i _ => s.size - (intOf i).toNat)
        case atStart => exact ⟨0, Nat.zero_le _, rfl, HO0, HB0⟩
        case round =>
          obtain ⟨k, hk, rfl, HO, HB2⟩ := hrel
          obtain ⟨gw, cw, rfl, hgB, hgl⟩ := HO.out.point (by rw [length_capL]; exact hNp)
          rw [length_capL] at HO ⊢
          obtain ⟨wo, rfl⟩ : ∃ wo : World, wo = wr := ⟨_, rfl⟩
          by_cases hlt : k < s.size
          · have hws := HWB2.out k hlt
            have hgl4 := HGL.out k
            obtain ⟨hc0, hc1⟩ := byte_bd (s[k]'hlt)
            have HT := Lib.hid (fun w2 => drTurn_any ((s[k]'hlt).toNat : Int) w2 hc0 hc1)
            rw [hws] at HT
            have HPA := Lib.hid (push_all ts k)
            obtain ⟨c, hcc⟩ : ∃ c, c = ts.getD k 0 := ⟨_, rfl⟩
            rw [← hcc] at HT HPA hgl4
            obtain ⟨f, hf⟩ : ∃ f, f = waysA ts k := ⟨_, rfl⟩
            have HFEW : Hid (∀ a, f a ≠ 0 → a / 4 ≤ k) := Lib.hid (fun a h => by rw [hf] at h; exact waysA_few h)
            rw [← hf] at HO HPA
            have HHF := Lib.hid hf
            have i1 : (0 : Int) ≤ (k : Int) := by omega
            have i2 : (k : Int) < (s.size : Int) := by omega
            clear hws hcc hf hc0 hc1
            go_wp2_with (at_make; refine wpList_make_full _ rfl _ _ 47 rfl wo.heap.size 3 i0 (.int .i64 0) 1 Tryd.underlying47 hi hz0 hz1 .i64 .i64 _ _ N rfl rfl rfl rfl (by rw [hz2]; omega) (by unfold maxLen; omega) (Nat.le_refl _) ?_; intro w2 hown hgrow; have hO := made_fill (fun _ => 0) hown; have HO2 : Hid (Own w2 wo.heap.size (.slice (some ⟨wo.heap.size, 0, none⟩) N N) (capL (pushTo f c (4 * 0)) N)) := Lib.hid (by have e : capL (pushTo f c (4 * 0)) N = fillTo (fun _ => 0) N 0 := by { rw [fillTo_zero]; unfold capL; refine ext_getD 0 (by rw [length_upTo, List.length_replicate]) fun i hi => ?_; rw [length_upTo] at hi; rw [getD_upTo _ _ _ hi]; simp [pushTo, List.getD_eq_getElem?_getD, hi] }; rw [e]; exact hO); have HB3 : Hid (Below wo.heap.size wo w2) := Lib.hid (below_made hgrow); clear hown hgrow hO)
            go_loopw [48] (fun i wr => ∃ a : Nat, a ≤ N ∧ i = .int .i64 (a : Int) ∧ Hid (Own wr wo.heap.size (.slice (some ⟨wo.heap.size, 0, none⟩) N N) (capL (pushTo f c (4 * a)) N)) ∧ Hid (Below wo.heap.size wo wr)) (fun i _ => N - (intOf i).toNat)
            case atStart => exact ⟨0, Nat.zero_le _, rfl, HO2, HB3⟩
            case round =>
              obtain ⟨a, ha, rfl, HN2, HB4⟩ := hrel
              obtain ⟨wm, rfl⟩ : ∃ wo : World, wo = wr := ⟨_, rfl⟩
              by_cases hlta : a < N
              · have e1 := (HO.out.below HB4.out (Nat.le_refl _)).cell (length_capL _ _).symm a (by rw [length_capL]; exact hlta)
                rw [getD_capL _ _ _ hlta] at e1
                have hfew := HFEW.out a
                obtain ⟨nv, hnv⟩ : ∃ nv, nv = min (f a) capC := ⟨_, rfl⟩
                rw [← hnv] at e1
                have hnvb : nv ≤ 1000000000000001 := by rw [hnv]; unfold capC; omega
                have HNV := Lib.hid hnv
                have hnz : nv ≠ 0 → f a ≠ 0 := fun h h2 => h (by rw [hnv, h2]; unfold capC; omega)
                have hak : nv ≠ 0 → a / 4 ≤ k := fun h => hfew (hnz h)
                have HAK := Lib.hid hak
                have i3 : (0 : Int) ≤ (a : Int) := by omega
                have i4 : (a : Int) < (N : Int) := by omega
                obtain ⟨q, hq⟩ : ∃ q, q = a / 4 := ⟨_, rfl⟩
                have eq4 : (a : Int) / 4 = (q : Int) := by omega
                have HQ := Lib.hid hq
                clear hnv hnz hak hfew hq
                go_wp2
                go_loopw [13] (fun i wr => ∃ d : Nat, d ≤ 4 ∧ i = .int .i64 (d : Int) ∧ (nv = 0 → d = 0) ∧ Hid (Own wr wo.heap.size (.slice (some ⟨wo.heap.size, 0, none⟩) N N) (capL (pushTo f c (4 * a + d)) N)) ∧ Hid (Below wo.heap.size wo wr)) (fun i _ => 4 - (intOf i).toNat)
                case atStart => exact ⟨0, Nat.zero_le _, rfl, fun _ => rfl, HN2, HB4⟩
                case round =>
                  obtain ⟨d, hd, rfl, hnd, HN3, HB5⟩ := hrel
                  by_cases hgo : d < 4 ∧ nv ≠ 0
                  · obtain ⟨hd4, hnv0⟩ := hgo
                    have hqk : q ≤ k := by rw [HQ.out]; exact HAK.out hnv0
                    have hnvp : 0 < (nv : Int) := by omega
                    have HND : Hid (nv = 0 → d + 1 = 0) := Lib.hid (fun h => absurd h hnv0)
                    obtain ⟨to, hto⟩ : ∃ to, to = target c (4 * a + d) := ⟨_, rfl⟩
                    have htt := target_of c a d hd4
                    rw [← hto, ← HQ.out] at htt
                    have htoN : to < N := by have := HN.out; split at htt <;> omega
                    have HS := Lib.hid (capL_set f c a d N to hd4 htoN hto.symm)
                    rw [← HNV.out] at HS
                    have e2 := HN3.out.cell (length_capL _ _).symm to (by rw [length_capL]; exact htoN)
                    have f2 := HN3.out.free (length_capL _ _).symm to
                    rw [getD_capL _ _ _ htoN] at e2
                    obtain ⟨pv, hpv⟩ : ∃ pv, pv = min (pushTo f c (4 * a + d) to) capC := ⟨_, rfl⟩
                    rw [← hpv] at e2 HS
                    have hpvb : pv ≤ 1000000000000001 := by rw [hpv]; unfold capC; omega
                    have HL := Lib.hid (fun w2 => l1Least_any ((pv : Int) + (nv : Int)) 1000000000000001 w2)
                    have em : min ((pv : Int) + (nv : Int)) 1000000000000001 = ((min (pv + nv) capC : Nat) : Int) := by unfold capC; omega
                    rw [em] at HL
                    obtain ⟨x, hx⟩ : ∃ x, x = min (pv + nv) capC := ⟨_, rfl⟩
                    rw [← hx] at HL HS
                    have HO4 : Hid (Own (wr.setCell ⟨wo.heap.size, to, none⟩ (.int .i64 (x : Int))) wo.heap.size (.slice (some ⟨wo.heap.size, 0, none⟩) N N) (capL (pushTo f c (4 * a + (d + 1))) N)) := Lib.hid (by rw [← HS.out]; exact HN3.out.set (length_capL _ _).symm to _)
                    have HB6 : Hid (Below wo.heap.size wo (wr.setCell ⟨wo.heap.size, to, none⟩ (.int .i64 (x : Int)))) := Lib.hid (HB5.out.setCell (Nat.le_refl _) _)
                    have j1 : (0 : Int) ≤ (to : Int) := by omega
                    have j2 : (to : Int) < (N : Int) := by omega
                    by_cases hdc : d = c
                    · have hb : ((d : Int) != (c : Int)) = false := by rw [bne_eq_false_iff_eq]; omega
                      rw [if_pos hdc] at htt
                      have et : 4 * (q : Int) + ((a : Int) + (d : Int)) % 4 = (to : Int) := by omega
                      clear hto hpv em hx hdc htt hnd hnv0
                      go_wp2_with fail
                      go_at_call 73
                      refine (HT.out _).mono ?_
                      rintro e w' ⟨rfl, rfl⟩
                      go_wp2_with fail
                      go_at_call 83
                      refine (HL.out _).mono ?_
                      rintro e w' ⟨rfl, rfl⟩
                      go_wp2
                      go_roundw
                      case rel => exact ⟨d + 1, by omega, by go_num, HND.out, HO4, HB6⟩
                      case measure => simp [intOf]; omega
                    · have hb : ((d : Int) != (c : Int)) = true := by rw [bne_iff_ne]; omega
                      rw [if_neg hdc] at htt
                      have et : 4 * ((q : Int) + 1) + ((a : Int) + (d : Int)) % 4 = (to : Int) := by omega
                      clear hto hpv em hx hdc htt hnd hnv0
                      go_wp2_with fail
                      go_at_call 73
                      refine (HT.out _).mono ?_
                      rintro e w' ⟨rfl, rfl⟩
                      go_wp2_with fail
                      go_at_call 83
                      refine (HL.out _).mono ?_
                      rintro e w' ⟨rfl, rfl⟩
                      go_wp2
                      go_roundw
                      case rel => exact ⟨d + 1, by omega, by go_num, HND.out, HO4, HB6⟩
                      case measure => simp [intOf]; omega
                  · have HE : Hid (capL (pushTo f c (4 * a + d)) N = capL (pushTo f c (4 * (a + 1))) N) := Lib.hid (capL_congr fun to _ => by
                      rw [show 4 * (a + 1) = 4 * a + 4 by omega]
                      by_cases h0 : nv = 0
                      · have hfa : f a = 0 := by have := HNV.out; unfold capC at this; omega
                        rw [push_zero hfa to d hd, push_zero hfa to 4 (by omega)]
                      · rw [show d = 4 by omega])
                    have HO5 : Hid (Own wr wo.heap.size (.slice (some ⟨wo.heap.size, 0, none⟩) N N) (capL (pushTo f c (4 * (a + 1))) N)) := Lib.hid (by rw [← HE.out]; exact HN3.out)
                    by_cases hd4 : d < 4
                    · have hn0 : nv = 0 := by omega
                      have hnvn : decide (0 < (nv : Int)) = false := by rw [decide_eq_false_iff_not]; omega
                      clear hgo hnd
                      go_wp2
                      go_roundw
                      case rel => exact ⟨a + 1, by omega, by go_num, HO5, HB5⟩
                      case measure => simp [intOf]; omega
                    · clear hgo hnd
                      go_wp2
                      go_roundw
                      case rel => exact ⟨a + 1, by omega, by go_num, HO5, HB5⟩
                      case measure => simp [intOf]; omega
              · obtain rfl : a = N := by omega
                have HE : Hid (capL (pushTo f c (4 * a)) a = capL (waysA ts (k + 1)) a) := Lib.hid (capL_congr fun x hx => HPA.out a x (by have := HN.out; omega))
                have HO5 : Hid (Own wm w.heap.size (.slice (some ⟨wo.heap.size, 0, none⟩) a a) (capL (waysA ts (k + 1)) a)) := Lib.hid (by rw [← HE.out]; exact HN2.out.mono HB2.out.size)
                have HB5 : Hid (Below w.heap.size w wm) := Lib.hid (HB2.out.trans (HB4.out.mono HB2.out.size))
                go_wp2
                go_roundw
                case rel => exact ⟨k + 1, by omega, by go_num, HO5, HB5⟩
                case measure => simp [intOf]; omega
          · obtain rfl : k = s.size := by omega
            have HWA : Hid (∀ a, waysA ts s.size a = waysTo ts s.size (a / 4) (a % 4)) := Lib.hid (fun _ => rfl)
            by_cases hML : s.size < M
            · have H0 : Hid (outWaysToFace_0 s M T = 0 ∧ outWaysToFace_1 s M T = true) := Lib.hid (by
                have hz : wayN s M T = 0 := by rw [HWN.out]; exact waysTo_none ts _ _ _ hML
                unfold outWaysToFace_0 outWaysToFace_1
                rw [HB.out, hz]
                exact ⟨rfl, rfl⟩)
              go_wp2
              go_ret2
              exact ⟨by rw [H0.out.1, H0.out.2]; exact rfl, HB2.out⟩
            · obtain ⟨p, hp⟩ : ∃ p, p = 4 * M + T := ⟨_, rfl⟩
              have hpN : p < N := by have := HN.out; omega
              have ep : 4 * (M : Int) + (T : Int) = (p : Int) := by omega
              have e1 := HO.out.cell (length_capL _ _).symm p (by rw [length_capL]; exact hpN)
              rw [getD_capL _ _ _ hpN, HWA.out, show p / 4 = M by omega, show p % 4 = T by omega] at e1
              rw [← HWN.out] at e1
              have j1 : (0 : Int) ≤ (p : Int) := by omega
              have j2 : (p : Int) < (N : Int) := by omega
              clear hp
              by_cases hbig : wayN s M T ≤ 1000000000000000
              · have H0 : Hid (outWaysToFace_0 s M T = ((min (wayN s M T) capC : Nat) : Int) ∧ outWaysToFace_1 s M T = true) := Lib.hid (by
                  unfold outWaysToFace_0 outWaysToFace_1
                  rw [HB.out, decide_eq_true hbig]
                  exact ⟨by rw [Bool.and_self, if_pos rfl]; unfold capC; omega, rfl⟩)
                obtain ⟨v, hv⟩ : ∃ v, v = min (wayN s M T) capC := ⟨_, rfl⟩
                rw [← hv] at e1 H0
                have hvb : ¬ 1000000000000000 < (v : Int) := by rw [hv]; omega
                clear hv hbig
                go_wp2
                go_ret2
                exact ⟨by rw [H0.out.1, H0.out.2]; exact rfl, HB2.out⟩
              · have H0 : Hid (outWaysToFace_0 s M T = 0 ∧ outWaysToFace_1 s M T = false) := Lib.hid (by
                  unfold outWaysToFace_0 outWaysToFace_1
                  rw [HB.out, decide_eq_false hbig]
                  exact ⟨rfl, rfl⟩)
                obtain ⟨v, hv⟩ : ∃ v, v = min (wayN s M T) capC := ⟨_, rfl⟩
                rw [← hv] at e1
                have hvb : 1000000000000000 < (v : Int) := by rw [hv]; unfold capC; omega
                clear hv hbig
                go_wp2
                go_ret2
                exact ⟨by rw [H0.out.1, H0.out.2]; exact rfl, HB2.out⟩

end Go.Proofs.YtjbomclildkjaaaDoor
