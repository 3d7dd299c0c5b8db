/- LongestMountain, FewestToLeave: the model and the methods. -/
import Derived.Test.YtnajlnghhboelabCf
import Derived.Test.YtnajlnghhboelabAny
namespace Go.Proofs.Ytnajlnghhboelab
open Go.ChangeShapes Go.WideShapes Go.ChangeAt Go.RowKit

def mountL (hs : List Nat) : Int := (He.mountTo hs hs.length : Nat)
def leaveL (hs : List Nat) : Int := (hs.length : Int) - (He.mountTo hs hs.length : Nat)
theorem getD_back (l : List Nat) (k : Nat) (hk : k < l.length) : (He.backTo l 0).getD k 0 = l.getD (l.length - 1 - k) 0 := by
  unfold He.backTo
  rw [List.drop_zero]
  simp only [List.getD_eq_getElem?_getD]
  rw [List.getElem?_reverse hk]
theorem rev_good {hs : List Nat} (h3 : ∀ x ∈ hs, 1 ≤ x ∧ x ≤ 100) : ∀ x ∈ hs.reverse, 1 ≤ x ∧ x ≤ 100 := fun x hx => h3 x (List.mem_reverse.1 hx)

set_option maxHeartbeats 2000000 in
theorem heMountain_any (w : World) (a : Option Addr) (len cap : Nat) (hs : List Nat) (h1 : 1 ≤ hs.length) (h2 : hs.length ≤ 40) (h3 : ∀ x ∈ hs, 1 ≤ x ∧ x ≤ 100) (hc : Came w a len (asInts hs)) :
    Calls Try.prog 36 #[.slice a len cap] w fun e w' => e = .returned (.int .i64 (mountL hs)) ∧ Below w.heap.size w w' := by
  have hlen : len = hs.length := by rw [← asInts_len]; exact hc.1.symm
  have HZL := Lib.hid hlen
  have HC := Lib.hid hc
  have H3 := Lib.hid h3
  rw [← hlen] at h1 h2
  have HR3 := Lib.hid (rev_good h3)
  have HL1 : Hid ((He.ch He.down hs).length = len) := Lib.hid (by rw [He.length_ch]; exact hlen.symm)
  have HL2 : Hid ((He.ch He.down hs.reverse).length = len) := Lib.hid (by rw [He.length_ch, List.length_reverse]; exact hlen.symm)
  clear hc hlen h3
  have HF := Lib.hid (heFalling_any w a len cap hs h1 h2 H3.out HC.out)
  go_enter Try.func36, Try.ntmps36
  go_wp2_with fail
  go_at_call 53
  refine HF.out.mono ?_
  rintro e w1 ⟨v1, rfl, o1, b1⟩
  obtain ⟨g1, c1, rfl, hg1, _⟩ := o1.point (by rw [asInts_len, HL1.out]; omega)
  rw [asInts_len, HL1.out] at o1 ⊢
  have HC1 := Lib.hid (HC.out.below b1)
  have O1 := Lib.hid o1
  have B1 := Lib.hid b1
  have z1 := b1.size
  have HB := Lib.hid (heBack_any w1 a len cap _ (by omega) HC1.out)
  rw [back_asInts] at HB
  clear o1 b1
  go_wp2_with fail
  go_at_call 54
  refine HB.out.mono ?_
  rintro e w2 ⟨v2, rfl, o2, b2⟩
  obtain ⟨a2, c2, rfl, hc2⟩ := o2.came
  have hrl : (asInts (He.backTo hs 0)).length = len := by rw [asInts_len, He.length_backTo]; have := HZL.out; omega
  rw [hrl] at hc2 ⊢
  have O1b := Lib.hid (O1.out.below b2 (Nat.le_refl _))
  have B2 : Hid (Below w.heap.size w w2) := B1.out.trans (b2.mono z1)
  have z2 := b2.size
  have HF2 := Lib.hid (heFalling_any w2 a2 len c2 hs.reverse h1 h2 HR3.out (by unfold He.backTo at hc2; rw [List.drop_zero] at hc2; exact hc2))
  clear o2 b2 hc2 hrl O1 B1
  go_wp2_with fail
  go_at_call 53
  refine HF2.out.mono ?_
  rintro e w3 ⟨v3, rfl, o3, b3⟩
  obtain ⟨a3, c3, rfl, hc3⟩ := o3.came
  rw [asInts_len, HL2.out] at hc3 ⊢
  have O1c := Lib.hid (O1b.out.below b3 (Nat.le_refl _))
  have B3 : Hid (Below w.heap.size w w3) := B2.out.trans (b3.mono (by omega))
  have z3 := b3.size
  have HB3 := Lib.hid (heBack_any w3 a3 len c3 _ (by omega) hc3)
  rw [back_asInts] at HB3
  clear o3 b3 hc3 O1b B2
  go_wp2_with fail
  go_at_call 54
  refine HB3.out.mono ?_
  rintro e w4 ⟨v4, rfl, o4, b4⟩
  have hrl : (asInts (He.backTo (He.ch He.down hs.reverse) 0)).length = len := by rw [asInts_len, He.length_backTo, HL2.out]; omega
  obtain ⟨g4, c4, rfl, hg4, _⟩ := o4.point (by rw [hrl]; omega)
  rw [hrl] at o4 ⊢
  have HRL := Lib.hid hrl
  have O1d := Lib.hid (O1c.out.below b4 (Nat.le_refl _))
  have O4 := Lib.hid o4
  have B4 : Hid (Below w.heap.size w w4) := B3.out.trans (b4.mono (by omega))
  clear o4 b4 hrl O1c B3
  go_wp2
  go_loopw [5, 15] (fun m i wr => ∃ k : Nat, k ≤ len ∧ i = .int .i64 (k : Int) ∧ m = .int .i64 (He.mountTo hs k : Nat) ∧ Own wr w.heap.size (.slice (some ⟨g1, 0, none⟩) len c1) (asInts (He.ch He.down hs)) ∧ Own wr w3.heap.size (.slice (some ⟨g4, 0, none⟩) len c4) (asInts (He.backTo (He.ch He.down hs.reverse) 0)) ∧ Below w.heap.size w wr) (fun _ i _ => len - (intOf i).toNat)
  case atStart => exact ⟨0, Nat.zero_le _, rfl, rfl, O1d.out, O4.out, B4.out⟩
  case round =>
    obtain ⟨k, hk, rfl, rfl, ho1, ho4, hb⟩ := hrel
    have hml := He.mountTo_le hs k
    have hml2 : He.mountTo hs k ≤ 80 := by have := HZL.out; omega
    have HO1 := Lib.hid ho1
    have HO4 := Lib.hid ho4
    have HB5 := Lib.hid hb
    by_cases hlt : k < len
    · have e1 := ho1.cell (by rw [asInts_len]; exact HL1.out.symm) k (by rw [asInts_len, HL1.out]; exact hlt)
      have e4 := ho4.cell HRL.out.symm k (by rw [HRL.out]; exact hlt)
      rw [getD_asInts] at e1 e4
      rw [getD_back _ _ (by rw [HL2.out]; exact hlt), HL2.out] at e4
      have HS : Hid (He.mountTo hs (k + 1) = max (He.mountTo hs k) ((He.ch He.down hs.reverse).getD (len - 1 - k) 0 + (He.ch He.down hs).getD k 0 - 1)) := Lib.hid (by rw [He.mountTo, HZL.out])
      have hb1 := He.ch_bd He.down hs k
      have hb2 := He.ch_bd He.down hs.reverse (len - 1 - k)
      rw [List.length_reverse] at hb2
      have hn1 : 1 ≤ (He.ch He.down hs).getD k 0 ∧ (He.ch He.down hs).getD k 0 ≤ 40 := by have := HZL.out; have := hb1.2 (by omega); omega
      have hn2 : (He.ch He.down hs.reverse).getD (len - 1 - k) 0 ≤ 40 := by have := HZL.out; omega
      obtain ⟨x, hx⟩ : ∃ x, x = (He.ch He.down hs).getD k 0 := ⟨_, rfl⟩
      obtain ⟨y, hy⟩ : ∃ y, y = (He.ch He.down hs.reverse).getD (len - 1 - k) 0 := ⟨_, rfl⟩
      obtain ⟨m, hm⟩ : ∃ m, m = He.mountTo hs k := ⟨_, rfl⟩
      rw [← hx] at e1 hn1 HS
      rw [← hy] at e4 hn2 HS
      rw [← hm] at hml2 HS ⊢
      have i1 : (0 : Int) ≤ (k : Int) := by omega
      have i2 : (k : Int) < (len : Int) := by omega
      clear hx hy hm hb1 hb2 hml ho1 ho4 hb
      go_wp2_with fail
      go_quiet ((go_at_call 30; exact Calls.quiet_of_same (l1Most_q _ _ _)))
      go_wp2
      go_roundw
      case rel => exact ⟨k + 1, by omega, by go_num, int_eq (by rw [HS.out]; omega), HO1.out, HO4.out, ⟨HB5.out.os, HB5.out.tape, HB5.out.output, HB5.out.size, HB5.out.block⟩⟩
      case measure => simp [intOf]; omega
    · have hkn : Hid (k = hs.length) := Lib.hid (by have := HZL.out; omega)
      clear ho1 ho4 hb hml
      go_wp2
      go_ret
      exact ⟨ret_int (by have := hkn.out; subst this; rfl), HB5.out⟩

/-- the two lists of chains -/
def lmR (hs : List Nat) : List Value := nums (He.pad (He.ch He.down hs))
def lmL (hs : List Nat) : List Value := nums (He.pad (He.ch He.down hs.reverse))
def lm0 : List Value := nums (List.replicate 40 0)
/-- what holds while the two lists are told, whichever operations have been done -/
def LmI (w0 : World) (g : Nat) (hs : List Nat) (l : Array Bool) (a : Act) (w : World) : Prop :=
  ∃ v3 v4 v7 v8 v9 v10 v11 : Value, a = { tmps := #[.agg (hc hs).toArray, .pointer (some ⟨g, 0, none⟩), .int .i64 0, v3, v4, undef, undef, v7, v8, v9, v10, v11, undef, undef, undef, undef, undef, undef, undef, undef, undef, undef, undef, undef, undef, undef, undef, undef, undef, undef, undef, undef, undef], defers := [] } ∧
    Hid ((l.getD 0 false = true → v7 = .agg (hc hs).toArray) ∧ (l.getD 1 false = true → v8 = .agg (lmR hs).toArray) ∧ (l.getD 2 false = true → v9 = .agg (hc hs).toArray) ∧ (l.getD 3 false = true → v10 = .agg (hc hs.reverse).toArray) ∧ (l.getD 4 false = true → v11 = .agg (lmL hs).toArray)) ∧
    Hid (l.getD 5 false = true → ∃ g3, v3 = .pointer (some ⟨g3, 0, none⟩) ∧ w0.heap.size ≤ g3 ∧ g3 ≠ g ∧ Blk w g3 45 (if l.getD 7 false = true then lmR hs else lm0)) ∧
    Hid (l.getD 6 false = true → ∃ g4, v4 = .pointer (some ⟨g4, 0, none⟩) ∧ w0.heap.size ≤ g4 ∧ g4 ≠ g ∧ (l.getD 5 false = true → v3 ≠ v4) ∧ Blk w g4 45 (if l.getD 8 false = true then lmL hs else lm0)) ∧
    Hid (Blk w g 47 (hc hs)) ∧ Hid (w0.heap.size ≤ g) ∧ Hid (Below w0.heap.size w0 w) ∧ Hid ((l.getD 7 false = true → l.getD 5 false = true) ∧ (l.getD 8 false = true → l.getD 6 false = true))

set_option maxHeartbeats 4000000 in
theorem longestMountain_any (w : World) (hs : List Nat) (h1 : 1 ≤ hs.length) (h2 : hs.length ≤ 40) :
    Calls Try.prog 38 #[.agg (hc hs).toArray] w fun e w' => e = .returned (.int .i64 (mountL hs)) ∧ Below w.heap.size w w' := by
  obtain ⟨len, hlen⟩ : ∃ n, n = hs.length := ⟨_, rfl⟩
  have HZL := Lib.hid hlen
  have HCD := Lib.hid (fun w2 => chains_down w2 hs h1 h2)
  have HCR := Lib.hid (fun w2 => chains_down w2 hs.reverse (by rw [List.length_reverse]; exact h1) (by rw [List.length_reverse]; exact h2))
  have HM := Lib.hid (fun w2 => mirrored_any w2 hs h2)
  have HLC := Lib.hid (length_hc hs h2)
  have HLR : Hid ((lmR hs).length = 40) := Lib.hid (by unfold lmR; rw [length_nums]; exact He.length_pad _ (by rw [He.length_ch]; exact h2))
  have HLL : Hid ((lmL hs).length = 40) := Lib.hid (by unfold lmL; rw [length_nums]; exact He.length_pad _ (by rw [He.length_ch, List.length_reverse]; exact h2))
  have HL0 : Hid (lm0.length = 40) := Lib.hid (by unfold lm0; rw [length_nums, List.length_replicate])
  rw [← hlen] at h1 h2
  clear hlen
  go_enter Try.func38, Try.ntmps38
  go_wp2_with (refine wpList_box 47 _ rfl rfl (hc hs) rfl ?_; intro w1 g G1 B1 L1)
  refine ⟨?_⟩
  go_wp2_with fail
  refine wp_region_inv (by kernel_rfl) (LmI w g hs) (by kernel_rfl) ?_ ?_ ?_
  · exact ⟨undef, undef, undef, undef, undef, undef, undef, rfl, Lib.hid ⟨fun h => by simp at h, fun h => by simp at h, fun h => by simp at h, fun h => by simp at h, fun h => by simp at h⟩, Lib.hid (fun h => by simp at h), Lib.hid (fun h => by simp at h), B1, Lib.hid (by have := G1.out; omega), Lib.hid ⟨L1.out.os, L1.out.tape, L1.out.output, L1.out.size, L1.out.block⟩, Lib.hid ⟨fun h => by simp at h, fun h => by simp at h⟩⟩
  · intro i o l a w' ho hsz hl hdep hI
    obtain ⟨v3, v4, v7, v8, v9, v10, v11, rfl, HV, H5, H6, BG, GL, BL, HD⟩ := hI
    have hsz9 : l.size = 9 := hsz
    have HSZ := Lib.hid hsz9
    clear hsz hsz9
    match i, ho with
    | 0, ho =>
      obtain rfl := Option.some.inj ho
      have HK := Lib.hid hdep
      clear hdep hl ho
      refine wpList_loadAll 47 _ rfl rfl g _ (hc hs) _ Try.underlying47 rfl 41 Try.size_heights rfl BG HLC.out ?_
      refine ⟨?_⟩
      refine ⟨v3, v4, _, v8, v9, v10, v11, rfl, Lib.hid ⟨fun _ => rfl, fun h => HV.out.2.1 (ung (by decide) h), fun h => HV.out.2.2.1 (ung (by decide) h), fun h => HV.out.2.2.2.1 (ung (by decide) h), fun h => HV.out.2.2.2.2 (ung (by decide) h)⟩, Lib.hid (fun h => ?_), Lib.hid (fun h => ?_), BG, GL, BL, Lib.hid ⟨fun h => by rw [got (by decide)]; exact HD.out.1 (ung (by decide) h), fun h => by rw [got (by decide)]; exact HD.out.2 (ung (by decide) h)⟩⟩
      · rw [got (j := 7) (by decide)]; exact H5.out (ung (by decide) h)
      · rw [got (j := 5) (by decide), got (j := 8) (by decide)]; exact H6.out (ung (by decide) h)
    | 2, ho =>
      obtain rfl := Option.some.inj ho
      have HK := Lib.hid hdep
      clear hdep hl ho
      refine wpList_loadAll 47 _ rfl rfl g _ (hc hs) _ Try.underlying47 rfl 41 Try.size_heights rfl BG HLC.out ?_
      refine ⟨?_⟩
      refine ⟨v3, v4, v7, v8, _, v10, v11, rfl, Lib.hid ⟨fun h => HV.out.1 (ung (by decide) h), fun h => HV.out.2.1 (ung (by decide) h), fun _ => rfl, fun h => HV.out.2.2.2.1 (ung (by decide) h), fun h => HV.out.2.2.2.2 (ung (by decide) h)⟩, Lib.hid (fun h => ?_), Lib.hid (fun h => ?_), BG, GL, BL, Lib.hid ⟨fun h => by rw [got (by decide)]; exact HD.out.1 (ung (by decide) h), fun h => by rw [got (by decide)]; exact HD.out.2 (ung (by decide) h)⟩⟩
      · rw [got (j := 7) (by decide)]; exact H5.out (ung (by decide) h)
      · rw [got (j := 5) (by decide), got (j := 8) (by decide)]; exact H6.out (ung (by decide) h)
    | 1, ho =>
      obtain rfl := Option.some.inj ho
      obtain rfl := HV.out.1 (hdep ⟨0, .data⟩ (by simp) rfl)
      clear hdep hl ho
      go_wp2_with fail
      go_at_call 50
      refine (HCD.out _).mono ?_
      rintro e w2 ⟨rfl, b2⟩
      have B2 := Lib.hid b2
      have HZ := Lib.hid BL.out.size
      clear b2
      go_wp2
      refine ⟨v3, v4, _, _, v9, v10, v11, rfl, Lib.hid ⟨fun _ => rfl, fun _ => rfl, fun h => HV.out.2.2.1 (ung (by decide) h), fun h => HV.out.2.2.2.1 (ung (by decide) h), fun h => HV.out.2.2.2.2 (ung (by decide) h)⟩, Lib.hid (fun h => ?_), Lib.hid (fun h => ?_), Lib.hid (BG.out.below B2.out BG.out.lt), GL, Lib.hid (BL.out.trans (B2.out.mono HZ.out)), Lib.hid ⟨fun h => by rw [got (by decide)]; exact HD.out.1 (ung (by decide) h), fun h => by rw [got (by decide)]; exact HD.out.2 (ung (by decide) h)⟩⟩
      · rw [got (j := 7) (by decide)]
        obtain ⟨g3, e1, e2, e3, e4⟩ := H5.out (ung (by decide) h)
        exact ⟨g3, e1, e2, e3, e4.below B2.out e4.lt⟩
      · rw [got (j := 5) (by decide), got (j := 8) (by decide)]
        obtain ⟨g4, e1, e2, e3, e5, e4⟩ := H6.out (ung (by decide) h)
        exact ⟨g4, e1, e2, e3, e5, e4.below B2.out e4.lt⟩
    | 3, ho =>
      obtain rfl := Option.some.inj ho
      obtain rfl := HV.out.2.2.1 (hdep ⟨2, .data⟩ (by simp) rfl)
      clear hdep hl ho
      go_wp2_with fail
      go_at_call 56
      refine (HM.out _).mono ?_
      rintro e w2 ⟨rfl, b2⟩
      have B2 := Lib.hid b2
      have HZ := Lib.hid BL.out.size
      clear b2
      go_wp2
      refine ⟨v3, v4, v7, v8, _, _, v11, rfl, Lib.hid ⟨fun h => HV.out.1 (ung (by decide) h), fun h => HV.out.2.1 (ung (by decide) h), fun _ => rfl, fun _ => rfl, fun h => HV.out.2.2.2.2 (ung (by decide) h)⟩, Lib.hid (fun h => ?_), Lib.hid (fun h => ?_), Lib.hid (BG.out.below B2.out BG.out.lt), GL, Lib.hid (BL.out.trans (B2.out.mono HZ.out)), Lib.hid ⟨fun h => by rw [got (by decide)]; exact HD.out.1 (ung (by decide) h), fun h => by rw [got (by decide)]; exact HD.out.2 (ung (by decide) h)⟩⟩
      · rw [got (j := 7) (by decide)]
        obtain ⟨g3, e1, e2, e3, e4⟩ := H5.out (ung (by decide) h)
        exact ⟨g3, e1, e2, e3, e4.below B2.out e4.lt⟩
      · rw [got (j := 5) (by decide), got (j := 8) (by decide)]
        obtain ⟨g4, e1, e2, e3, e5, e4⟩ := H6.out (ung (by decide) h)
        exact ⟨g4, e1, e2, e3, e5, e4.below B2.out e4.lt⟩
    | 4, ho =>
      obtain rfl := Option.some.inj ho
      obtain rfl := HV.out.2.2.2.1 (hdep ⟨3, .data⟩ (by simp) rfl)
      clear hdep hl ho
      go_wp2_with fail
      go_at_call 50
      refine (HCR.out _).mono ?_
      rintro e w2 ⟨rfl, b2⟩
      have B2 := Lib.hid b2
      have HZ := Lib.hid BL.out.size
      clear b2
      go_wp2
      refine ⟨v3, v4, v7, v8, v9, _, _, rfl, Lib.hid ⟨fun h => HV.out.1 (ung (by decide) h), fun h => HV.out.2.1 (ung (by decide) h), fun h => HV.out.2.2.1 (ung (by decide) h), fun _ => rfl, fun _ => rfl⟩, Lib.hid (fun h => ?_), Lib.hid (fun h => ?_), Lib.hid (BG.out.below B2.out BG.out.lt), GL, Lib.hid (BL.out.trans (B2.out.mono HZ.out)), Lib.hid ⟨fun h => by rw [got (by decide)]; exact HD.out.1 (ung (by decide) h), fun h => by rw [got (by decide)]; exact HD.out.2 (ung (by decide) h)⟩⟩
      · rw [got (j := 7) (by decide)]
        obtain ⟨g3, e1, e2, e3, e4⟩ := H5.out (ung (by decide) h)
        exact ⟨g3, e1, e2, e3, e4.below B2.out e4.lt⟩
      · rw [got (j := 5) (by decide), got (j := 8) (by decide)]
        obtain ⟨g4, e1, e2, e3, e5, e4⟩ := H6.out (ung (by decide) h)
        exact ⟨g4, e1, e2, e3, e5, e4.below B2.out e4.lt⟩
    | 5, ho =>
      obtain rfl := Option.some.inj ho
      have H7 : Hid (l.getD 7 false = false) := Lib.hid (by rcases h7 : l.getD 7 false with _ | _; rfl; rw [getD_flip (by have := HSZ.out; omega), HD.out.1 h7] at hl; cases hl)
      clear hdep ho
      refine wpList_new 45 rfl rfl _ _ Try.info_arr ?_
      intro w2 g3 G3 B3 L3
      refine ⟨?_⟩
      refine ⟨_, v4, v7, v8, v9, v10, v11, rfl, Lib.hid ⟨fun h => HV.out.1 (ung (by decide) h), fun h => HV.out.2.1 (ung (by decide) h), fun h => HV.out.2.2.1 (ung (by decide) h), fun h => HV.out.2.2.2.1 (ung (by decide) h), fun h => HV.out.2.2.2.2 (ung (by decide) h)⟩, Lib.hid (fun h => ?_), Lib.hid (fun h => ?_), Lib.hid (BG.out.below L3.out BG.out.lt), GL, Lib.hid (BL.out.trans (L3.out.mono BL.out.size)), Lib.hid ⟨fun _ => got_same (by have := HSZ.out; omega), fun h => by rw [got (by decide)]; exact HD.out.2 (ung (by decide) h)⟩⟩
      · rw [got (j := 7) (by decide), H7.out, if_neg (by simp)]
        exact ⟨g3, rfl, by have := G3.out; have := BL.out.size; omega, by have := G3.out; have := BG.out.lt; omega, B3.out⟩
      · rw [got (j := 8) (by decide)]
        obtain ⟨g4, e1, e2, e3, e5, e4⟩ := H6.out (ung (by decide) h)
        refine ⟨g4, e1, e2, e3, fun _ he => ?_, e4.below L3.out e4.lt⟩
        rw [e1] at he
        have := e4.lt
        have := G3.out
        injection he with he
        injection he with he
        injection he with he
        omega
    | 6, ho =>
      obtain rfl := Option.some.inj ho
      have H8 : Hid (l.getD 8 false = false) := Lib.hid (by rcases h8 : l.getD 8 false with _ | _; rfl; rw [getD_flip (by have := HSZ.out; omega), HD.out.2 h8] at hl; cases hl)
      clear hdep ho
      refine wpList_new 45 rfl rfl _ _ Try.info_arr ?_
      intro w2 g4 G4 B4 L4
      refine ⟨?_⟩
      refine ⟨v3, _, v7, v8, v9, v10, v11, rfl, Lib.hid ⟨fun h => HV.out.1 (ung (by decide) h), fun h => HV.out.2.1 (ung (by decide) h), fun h => HV.out.2.2.1 (ung (by decide) h), fun h => HV.out.2.2.2.1 (ung (by decide) h), fun h => HV.out.2.2.2.2 (ung (by decide) h)⟩, Lib.hid (fun h => ?_), Lib.hid (fun h => ?_), Lib.hid (BG.out.below L4.out BG.out.lt), GL, Lib.hid (BL.out.trans (L4.out.mono BL.out.size)), Lib.hid ⟨fun h => by rw [got (by decide)]; exact HD.out.1 (ung (by decide) h), fun _ => got_same (by have := HSZ.out; omega)⟩⟩
      · rw [got (j := 7) (by decide)]
        obtain ⟨g3, e1, e2, e3, e4⟩ := H5.out (ung (by decide) h)
        exact ⟨g3, e1, e2, e3, e4.below L4.out e4.lt⟩
      · rw [got (j := 5) (by decide), got (j := 8) (by decide), H8.out, if_neg (by simp)]
        refine ⟨g4, rfl, by have := G4.out; have := BL.out.size; omega, by have := G4.out; have := BG.out.lt; omega, fun h5 he => ?_, B4.out⟩
        obtain ⟨g3, e1, e2, e3, e4⟩ := H5.out h5
        rw [e1] at he
        have := e4.lt
        have := G4.out
        injection he with he
        injection he with he
        injection he with he
        omega
    | 7, ho =>
      obtain rfl := Option.some.inj ho
      have h5 : l.getD 5 false = true := hdep ⟨5, .data⟩ (by simp) rfl
      have h6 : l.getD 6 false = true := hdep ⟨6, .phase⟩ (by simp) rfl
      obtain rfl := HV.out.2.1 (hdep ⟨1, .data⟩ (by simp) rfl)
      obtain ⟨g3, rfl, e2, e3, e4⟩ := H5.out h5
      obtain ⟨g4, rfl, f2, f3, f5, f4⟩ := H6.out h6
      have hne : g3 ≠ g4 := fun e => f5 h5 (by rw [e])
      have E4 := Lib.hid e4
      have hl0 : (if l.getD 7 false = true then lmR hs else lm0).length = 40 := by split; exact HLR.out; exact HL0.out
      clear hdep hl ho
      refine wpList_storeAll 45 _ _ rfl rfl g3 _ _ (lmR hs) 40 Try.size_arr rfl rfl E4 HLR.out hl0 (nums_one _) ?_
      intro w2 B2 L2
      refine ⟨?_⟩
      refine ⟨_, _, v7, _, v9, v10, v11, rfl, Lib.hid ⟨fun h => HV.out.1 (ung (by decide) h), fun _ => rfl, fun h => HV.out.2.2.1 (ung (by decide) h), fun h => HV.out.2.2.2.1 (ung (by decide) h), fun h => HV.out.2.2.2.2 (ung (by decide) h)⟩, Lib.hid (fun _ => ?_), Lib.hid (fun _ => ?_), Lib.hid (BG.out.grown L2.out (by simp; exact e3)), GL, Lib.hid (grownBy_below BL.out L2.out (Nat.le_refl _) e2), Lib.hid ⟨fun _ => by rw [got (by decide)]; exact h5, fun h => by rw [got (by decide)]; exact h6⟩⟩
      · rw [got_same (by have := HSZ.out; omega), if_pos rfl]
        exact ⟨g3, rfl, e2, e3, B2.out⟩
      · rw [got (j := 8) (by decide)]
        refine ⟨g4, rfl, f2, f3, fun _ he => hne (by injection he with he; injection he with he; injection he), f4.grown L2.out (by simp; exact hne)⟩
    | 8, ho =>
      obtain rfl := Option.some.inj ho
      have h5 : l.getD 5 false = true := hdep ⟨5, .phase⟩ (by simp) rfl
      have h6 : l.getD 6 false = true := hdep ⟨6, .data⟩ (by simp) rfl
      obtain rfl := HV.out.2.2.2.2 (hdep ⟨4, .data⟩ (by simp) rfl)
      obtain ⟨g3, rfl, e2, e3, e4⟩ := H5.out h5
      obtain ⟨g4, rfl, f2, f3, f5, f4⟩ := H6.out h6
      have hne : g3 ≠ g4 := fun e => f5 h5 (by rw [e])
      have E4 := Lib.hid f4
      have hl0 : (if l.getD 8 false = true then lmL hs else lm0).length = 40 := by split; exact HLL.out; exact HL0.out
      clear hdep hl ho
      refine wpList_storeAll 45 _ _ rfl rfl g4 _ _ (lmL hs) 40 Try.size_arr rfl rfl E4 HLL.out hl0 (nums_one _) ?_
      intro w2 B2 L2
      refine ⟨?_⟩
      refine ⟨_, _, v7, v8, v9, v10, _, rfl, Lib.hid ⟨fun h => HV.out.1 (ung (by decide) h), fun h => HV.out.2.1 (ung (by decide) h), fun h => HV.out.2.2.1 (ung (by decide) h), fun h => HV.out.2.2.2.1 (ung (by decide) h), fun _ => rfl⟩, Lib.hid (fun _ => ?_), Lib.hid (fun _ => ?_), Lib.hid (BG.out.grown L2.out (by simp; exact f3)), GL, Lib.hid (grownBy_below BL.out L2.out (Nat.le_refl _) f2), Lib.hid ⟨fun h => by rw [got (by decide)]; exact h5, fun _ => by rw [got (by decide)]; exact h6⟩⟩
      · rw [got (j := 7) (by decide)]
        exact ⟨g3, rfl, e2, e3, e4.grown L2.out (by simp; exact fun e => hne e.symm)⟩
      · rw [got_same (by have := HSZ.out; omega), if_pos rfl]
        exact ⟨g4, rfl, f2, f3, fun _ he => hne (by injection he with he; injection he with he; injection he), B2.out⟩
    | i + 9, ho => simp at ho
  · intro l a w2 hall hI
    obtain ⟨v3, v4, v7, v8, v9, v10, v11, rfl, HV, H5, H6, BG, GL, BL, _⟩ := hI
    obtain ⟨g3, rfl, e2, e3, e4⟩ := H5.out (hall 5 (by decide))
    obtain ⟨g4, rfl, f2, f3, f5, f4⟩ := H6.out (hall 6 (by decide))
    rw [if_pos (hall 7 (by decide))] at e4
    rw [if_pos (hall 8 (by decide))] at f4
    have R4 := Lib.hid e4
    have L4 := Lib.hid f4
    have ec := BG.out.count (by have := HZL.out; omega)
    rw [← HZL.out] at ec
    clear e2 e3 e4 f2 f3 f4 f5 hall H5 H6 HV
    go_wp2
    clear ec
    go_loopw [5, 14] (fun m i wr => ∃ k : Nat, k ≤ len ∧ i = .int .i64 (k : Int) ∧ m = .int .i64 (He.mountTo hs k : Nat) ∧ Blk wr g3 45 (lmR hs) ∧ Blk wr g4 45 (lmL hs) ∧ Blk wr g 47 (hc hs) ∧ Below w.heap.size w wr) (fun _ i _ => len - (intOf i).toNat)
    case atStart => exact ⟨0, Nat.zero_le _, rfl, rfl, R4.out, L4.out, BG.out, BL.out⟩
    case round =>
      obtain ⟨k, hk, rfl, rfl, hr, hl, hg, hb⟩ := hrel
      have hml := He.mountTo_le hs k
      have hml2 : He.mountTo hs k ≤ 80 := by have := HZL.out; omega
      have HR := Lib.hid hr
      have HL := Lib.hid hl
      have HG := Lib.hid hg
      have HB := Lib.hid hb
      by_cases hlt : k < len
      · obtain ⟨j, hj⟩ : ∃ j, j + k + 1 = len := ⟨len - 1 - k, by omega⟩
        have e1 := hr.num k (by rw [He.length_pad _ (by rw [He.length_ch]; have := HZL.out; omega)]; omega)
        have e4 := hl.num j (by rw [He.length_pad _ (by rw [He.length_ch, List.length_reverse]; have := HZL.out; omega)]; omega)
        rw [He.getD_pad] at e1 e4
        have ec := hg.count (by have := HZL.out; omega)
        rw [← HZL.out] at ec
        have HS : Hid (He.mountTo hs (k + 1) = max (He.mountTo hs k) ((He.ch He.down hs.reverse).getD j 0 + (He.ch He.down hs).getD k 0 - 1)) := Lib.hid (by rw [He.mountTo, ← HZL.out, show len - 1 - k = j from by omega])
        have hb1 := He.ch_bd He.down hs k
        have hb2 := He.ch_bd He.down hs.reverse j
        rw [List.length_reverse] at hb2
        have hn1 : 1 ≤ (He.ch He.down hs).getD k 0 ∧ (He.ch He.down hs).getD k 0 ≤ 40 := by have := HZL.out; have := hb1.2 (by omega); omega
        have hn2 : (He.ch He.down hs.reverse).getD j 0 ≤ 40 := by have := HZL.out; omega
        obtain ⟨x, hx⟩ : ∃ x, x = (He.ch He.down hs).getD k 0 := ⟨_, rfl⟩
        obtain ⟨y, hy⟩ : ∃ y, y = (He.ch He.down hs.reverse).getD j 0 := ⟨_, rfl⟩
        obtain ⟨m, hm⟩ : ∃ m, m = He.mountTo hs k := ⟨_, rfl⟩
        rw [← hx] at e1 hn1 HS
        rw [← hy] at e4 hn2 HS
        rw [← hm] at hml2 HS ⊢
        have i1 : (0 : Int) ≤ (k : Int) := by omega
        have i2 : (k : Int) < 40 := by omega
        have i3 : (0 : Int) ≤ (j : Int) := by omega
        have i4 : (j : Int) < 40 := by omega
        have ej : (len : Int) - 1 - (k : Int) = (j : Int) := by omega
        have HJ := Lib.hid hj
        clear hx hy hm hb1 hb2 hml hr hl hg hb hj
        go_wp2_with fail
        go_region
        go_wp2
        go_roundw
        case rel => exact ⟨k + 1, by omega, by go_num, int_eq (by rw [HS.out]; split <;> omega), HR.out, HL.out, HG.out, ⟨HB.out.os, HB.out.tape, HB.out.output, HB.out.size, HB.out.block⟩⟩
        case measure => simp [intOf]; omega
      · have hkn : Hid (k = hs.length) := Lib.hid (by have := HZL.out; omega)
        have ec := hg.count (by have := HZL.out; omega)
        rw [← HZL.out] at ec
        clear hr hl hg hb hml
        go_wp2
        go_ret
        exact ⟨ret_int (by have := hkn.out; subst this; rfl), HB.out⟩

def FlI (w0 : World) (g : Nat) (hs : List Nat) (len m : Nat) (l : Array Bool) (a : Act) (w : World) : Prop :=
  ∃ v2 v3 v4 v5 v6 v7 : Value, a = { tmps := #[.agg (hc hs).toArray, .pointer (some ⟨g, 0, none⟩), v2, v3, v4, v5, v6, v7], defers := [] } ∧
    Hid ((l.getD 0 false = true → v3 = .pointer (some ⟨g, 40, none⟩)) ∧ (l.getD 1 false = true → v4 = .int .i64 len) ∧ (l.getD 2 false = true → v5 = .agg (hc hs).toArray) ∧ (l.getD 3 false = true → v6 = .int .i64 m) ∧ (l.getD 4 false = true → v7 = .int .i64 ((len : Int) - (m : Int))) ∧ (l.getD 5 false = true → v2 = .int .i64 ((len : Int) - (m : Int)))) ∧
    Hid (Blk w g 47 (hc hs)) ∧ Hid (Below w0.heap.size w0 w)
set_option maxHeartbeats 1000000 in
theorem fewestToLeave_any (w : World) (hs : List Nat) (h1 : 1 ≤ hs.length) (h2 : hs.length ≤ 40) :
    Calls Try.prog 39 #[.agg (hc hs).toArray] w fun e w' => e = .returned (.int .i64 (leaveL hs)) ∧ Below w.heap.size w w' := by
  obtain ⟨len, hlen⟩ : ∃ n, n = hs.length := ⟨_, rfl⟩
  have HZL := Lib.hid hlen
  have HM := Lib.hid (fun w2 => longestMountain_any w2 hs h1 h2)
  have HLE : Hid (leaveL hs = (len : Int) - (He.mountTo hs hs.length : Nat)) := Lib.hid (by rw [hlen]; rfl)
  have HLC := Lib.hid (length_hc hs h2)
  have hml := He.mountTo_le hs hs.length
  unfold mountL at HM
  rw [HLE.out]
  obtain ⟨m, hm⟩ : ∃ m, m = He.mountTo hs hs.length := ⟨_, rfl⟩
  rw [← hm] at hml HM ⊢
  rw [← hlen] at h1 h2 hml
  clear hlen hm
  go_enter Try.func39, Try.ntmps39
  go_wp2_with (refine wpList_box 47 _ rfl rfl (hc hs) rfl ?_; intro w1 g G1 B1 L1)
  refine ⟨?_⟩
  have ec := B1.out.count (by have := HZL.out; omega)
  rw [← HZL.out] at ec
  have EC := Lib.hid ec
  clear ec
  go_wp2_with fail
  refine wp_region_inv (by kernel_rfl) (FlI w g hs len m) (by kernel_rfl) ?_ ?_ ?_
  · exact ⟨.int .i64 0, undef, undef, undef, undef, undef, rfl, Lib.hid ⟨fun h => by simp at h, fun h => by simp at h, fun h => by simp at h, fun h => by simp at h, fun h => by simp at h, fun h => by simp at h⟩, B1, Lib.hid ⟨L1.out.os, L1.out.tape, L1.out.output, L1.out.size, L1.out.block⟩⟩
  · intro i o l a w' ho hsz hl hdep hI
    obtain ⟨v2, v3, v4, v5, v6, v7, rfl, HV, BG, BL⟩ := hI
    clear hl hsz
    match i, ho with
    | 0, ho =>
      obtain rfl := Option.some.inj ho
      clear hdep ho
      go_wp2
      exact ⟨v2, _, v4, v5, v6, v7, rfl, Lib.hid ⟨fun _ => rfl, fun h => HV.out.2.1 (ung (by decide) h), fun h => HV.out.2.2.1 (ung (by decide) h), fun h => HV.out.2.2.2.1 (ung (by decide) h), fun h => HV.out.2.2.2.2.1 (ung (by decide) h), fun h => HV.out.2.2.2.2.2 (ung (by decide) h)⟩, BG, BL⟩
    | 1, ho =>
      obtain rfl := Option.some.inj ho
      obtain rfl := HV.out.1 (hdep ⟨0, .data⟩ (by simp) rfl)
      have e1 := BG.out.count (by have := HZL.out; omega)
      rw [← HZL.out] at e1
      clear hdep ho
      go_wp2
      exact ⟨v2, _, _, v5, v6, v7, rfl, Lib.hid ⟨fun _ => rfl, fun _ => rfl, fun h => HV.out.2.2.1 (ung (by decide) h), fun h => HV.out.2.2.2.1 (ung (by decide) h), fun h => HV.out.2.2.2.2.1 (ung (by decide) h), fun h => HV.out.2.2.2.2.2 (ung (by decide) h)⟩, BG, BL⟩
    | 2, ho =>
      obtain rfl := Option.some.inj ho
      clear hdep ho
      refine wpList_loadAll 47 _ rfl rfl g _ (hc hs) _ Try.underlying47 rfl 41 Try.size_heights rfl BG HLC.out ?_
      refine ⟨?_⟩
      exact ⟨v2, v3, v4, _, v6, v7, rfl, Lib.hid ⟨fun h => HV.out.1 (ung (by decide) h), fun h => HV.out.2.1 (ung (by decide) h), fun _ => rfl, fun h => HV.out.2.2.2.1 (ung (by decide) h), fun h => HV.out.2.2.2.2.1 (ung (by decide) h), fun h => HV.out.2.2.2.2.2 (ung (by decide) h)⟩, BG, BL⟩
    | 3, ho =>
      obtain rfl := Option.some.inj ho
      obtain rfl := HV.out.2.2.1 (hdep ⟨2, .data⟩ (by simp) rfl)
      clear hdep ho
      go_wp2_with fail
      go_at_call 38
      refine (HM.out _).mono ?_
      rintro e w2 ⟨rfl, b2⟩
      have B2 := Lib.hid b2
      have HZ := Lib.hid BL.out.size
      clear b2
      go_wp2
      exact ⟨v2, v3, v4, _, _, v7, rfl, Lib.hid ⟨fun h => HV.out.1 (ung (by decide) h), fun h => HV.out.2.1 (ung (by decide) h), fun _ => rfl, fun _ => rfl, fun h => HV.out.2.2.2.2.1 (ung (by decide) h), fun h => HV.out.2.2.2.2.2 (ung (by decide) h)⟩, Lib.hid (BG.out.below B2.out BG.out.lt), Lib.hid (BL.out.trans (B2.out.mono HZ.out))⟩
    | 4, ho =>
      obtain rfl := Option.some.inj ho
      obtain rfl := HV.out.2.1 (hdep ⟨1, .data⟩ (by simp) rfl)
      obtain rfl := HV.out.2.2.2.1 (hdep ⟨3, .data⟩ (by simp) rfl)
      clear hdep ho
      go_wp2
      exact ⟨v2, v3, _, v5, _, _, rfl, Lib.hid ⟨fun h => HV.out.1 (ung (by decide) h), fun _ => rfl, fun h => HV.out.2.2.1 (ung (by decide) h), fun _ => rfl, fun _ => rfl, fun h => HV.out.2.2.2.2.2 (ung (by decide) h)⟩, BG, BL⟩
    | 5, ho =>
      obtain rfl := Option.some.inj ho
      obtain rfl := HV.out.2.2.2.2.1 (hdep ⟨4, .data⟩ (by simp) rfl)
      clear hdep ho
      go_wp2
      exact ⟨_, v3, v4, v5, v6, _, rfl, Lib.hid ⟨fun h => HV.out.1 (ung (by decide) h), fun h => HV.out.2.1 (ung (by decide) h), fun h => HV.out.2.2.1 (ung (by decide) h), fun h => HV.out.2.2.2.1 (ung (by decide) h), fun _ => rfl, fun _ => rfl⟩, BG, BL⟩
    | i + 6, ho => simp at ho
  · intro l a w2 hall hI
    obtain ⟨v2, v3, v4, v5, v6, v7, rfl, HV, BG, BL⟩ := hI
    obtain rfl := HV.out.2.2.2.2.2 (hall 5 (by decide))
    clear hall HV
    go_wp2
    go_ret
    exact ⟨rfl, BL.out⟩

set_option maxHeartbeats 1000000 in
theorem specLeaveIn (w : World) (a : Option Addr) (len cap : Nat) (hs : List Nat) (h1 : 1 ≤ hs.length) (h2 : hs.length ≤ 40) (h3 : ∀ x ∈ hs, 1 ≤ x ∧ x ≤ 100) (hg : goodH (asInts hs) = true) (hc : Came w a len (asInts hs)) :
    Calls Try.prog 22 #[.slice a len cap] w fun e w' => e = .returned (.tuple #[.int .i64 (leaveL hs), .bool true]) ∧ Below w.heap.size w w' := by
  have hlen : len = hs.length := by rw [← asInts_len]; exact hc.1.symm
  have HG := Lib.hid (heGood_any w a len cap (asInts hs) (by omega) hc)
  rw [hg] at HG
  have HM := Lib.hid (heMountain_any w a len cap hs h1 h2 h3 hc)
  unfold mountL at HM
  have HLE : Hid (leaveL hs = (len : Int) - (He.mountTo hs hs.length : Nat)) := Lib.hid (by rw [hlen]; rfl)
  have hml := He.mountTo_le hs hs.length
  rw [HLE.out]
  obtain ⟨m, hm⟩ : ∃ m, m = He.mountTo hs hs.length := ⟨_, rfl⟩
  rw [← hm] at hml HM ⊢
  rw [← hlen] at h1 h2 hml
  clear hlen hm hc hg h3
  go_enter Try.func22, Try.ntmps22
  go_wp2_with fail
  go_at_call 28
  refine HG.out.mono ?_
  rintro e w' ⟨rfl, rfl⟩
  go_wp2_with fail
  go_at_call 36
  refine HM.out.mono ?_
  rintro e w2 ⟨rfl, b2⟩
  have B2 := Lib.hid b2
  clear b2
  go_wp2
  go_ret2
  exact ⟨rfl, B2.out⟩

end Go.Proofs.Ytnajlnghhboelab
