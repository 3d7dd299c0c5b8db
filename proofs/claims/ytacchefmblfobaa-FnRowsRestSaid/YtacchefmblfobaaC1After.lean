
/- RowAfter, the program's (with its closure) and the model's. -/
import Derived.Test.YtacchefmblfobaaC1Txt
import Derived.Test.YtacchefmblfobaaC1Told
import Derived.Test.YtacchefmblfobaaC1Settle
import Derived.Test.YtacchefmblfobaaC1Spec
namespace Go.Proofs.Ytacchefmblfobaa.C1
open Go.ChangeShapes Go.WideShapes Go.ChangeAt Go.RowKit

theorem int_eq3 {a b : Int} (h : a = b) : Value.int .i64 a = .int .i64 b := by rw [h]
theorem length_afterOf : ∀ (k : Nat) (m : List Bool), (Rw.afterOf k m).length = m.length
  | 0, m => rfl
  | k + 1, m => by
    rw [Rw.afterOf]
    split
    · rfl
    · rw [length_afterOf k]; simp
theorem afterOf_nil (k : Nat) {m : List Bool} (h : Rw.pairs m = []) : Rw.afterOf k m = m := by
  cases k with
  | zero => rfl
  | succ k => rw [Rw.afterOf, if_pos h]
theorem afterOf_cons (k : Nat) {m : List Bool} (h : ¬ Rw.pairs m = []) : Rw.afterOf (k + 1) m = Rw.afterOf k (Rw.tick m) := by
  rw [Rw.afterOf, if_neg h]
theorem sum_tick (m : List Bool) (c : List Nat) (h : m.length = c.length) : ((Rw.pairs m).foldl Rw.bump c).sum = c.sum + 2 * (Rw.pairs m).length := Rw.sum_fold _ _ (fun p hp => by have := Rw.mem_pairs hp; omega)

set_option maxRecDepth 20000 in
set_option maxHeartbeats 2000000 in
theorem closure_any (g : Nat) (m : List Bool) (c : List Nat) (pa : Addr) (t : Nat) (ht : t ≤ 1000000) (h1 : 1 ≤ m.length) (h2 : m.length ≤ 60) (hc : c.sum ≤ 0) (B : Nat) (hB : B ≤ g) (w0 w : World) (hB0 : B ≤ w0.heap.size) (hb : Below B w0 w) (hpa : pa.block < B) (hp : w0.cell? pa = some (.int .i64 (t : Int))) (hT : Trp w g m c) :
    Calls Try.prog 87 #[.slice (some ⟨g, 0, none⟩) m.length m.length, .pointer (some pa)] w fun e w' => e = .returned (.string (Rw.str (Rw.afterOf t m))) ∧ Below B w0 w' := by
  have hcell := (hb.cell hpa).trans hp
  have hmc := hT.2
  have hmw := Rw.mw_row m h2
  have hcb := Rw.countOf_le m
  obtain ⟨n, hn⟩ : ∃ n, n = m.length := ⟨_, rfl⟩
  rw [← hn] at h1 h2 ⊢
  have HN := Lib.hid hn
  have HMC := Lib.hid hmc
  have HCB : Hid (Rw.countOf m ≤ 3600) := Lib.hid (by omega)
  clear hn hmc hmw hcb hp
  go_enter Try.func87, Try.ntmps87
  go_wp2
  go_loopw [5] (fun i wr => ∃ (k : Nat) (mj : List Bool) (cj : List Nat), k ≤ t ∧ i = .int .i64 (k : Int) ∧ Trp wr g mj cj ∧ mj.length = n ∧ cj.sum + 2 * Rw.countOf mj ≤ 7200 ∧ Rw.afterOf (t - k) mj = Rw.afterOf t m ∧ Below B w0 wr) (fun i _ => t - (intOf i).toNat)
  case atStart => exact ⟨0, m, c, Nat.zero_le _, rfl, hT, HN.out.symm, by have := HCB.out; omega, rfl, hb⟩
  case round =>
    obtain ⟨k, mj, cj, hk, rfl, hTr, hlen, hsum, haf, hbr⟩ := hrel
    have hmj := hTr.2
    have HC := Lib.hid (tick_any g mj cj (by omega) (by omega) (by omega) wr hTr)
    have HX := Lib.hid (fun w2 m2 c2 (hl : m2.length = n) h => text_any g m2 c2 (by omega) (by omega) w2 h)
    rw [hlen] at HC
    have HBR := Lib.hid hbr
    have HAF := Lib.hid haf
    have HT2 := Lib.hid hTr
    have HL := Lib.hid hlen
    have hwz := hbr.size
    by_cases hlt : k < t
    · by_cases hp : Rw.pairs mj = []
      · have hd : decide (0 < (Rw.pairs mj).length) = false := by rw [hp]; rfl
        have HE : Hid (Rw.tick mj = mj ∧ (Rw.pairs mj).foldl Rw.bump cj = cj) := by unfold Rw.tick; rw [hp]; exact ⟨rfl, rfl⟩
        have HF : Hid (mj = Rw.afterOf t m) := by rw [← HAF.out, afterOf_nil _ hp]; exact rfl
        clear hp haf hbr hTr hT hb hcell hlen hmj
        go_wp2_with fail
        go_at_call 88
        refine HC.out.mono ?_
        rintro e w2 ⟨rfl, hT2, hG2⟩
        have H1 : Hid (Trp w2 g mj cj) := by rw [HE.out.1, HE.out.2] at hT2; exact hT2
        have H2 : Hid (Below B w0 w2) := grownBy_below HBR.out hG2 hB0 hB
        have hz2 := H2.out.size
        clear hT2 hG2
        have HXX := HX.out w2 mj cj HL.out H1.out
        rw [HL.out] at HXX
        have HXY := Lib.hid HXX
        clear HXX
        go_wp2_with fail
        go_at_call 84
        refine HXY.out.mono ?_
        rintro e w3 ⟨rfl, hb3⟩
        have H3 : Hid (Below B w0 w3) := H2.out.trans (hb3.mono (by omega))
        clear hb3
        go_wp2
        go_ret
        exact ⟨ret_str (by rw [← HF.out]), H3.out⟩
      · have hd : decide (0 < (Rw.pairs mj).length) = true := by simp; exact List.length_pos_iff.2 hp
        have HS : Hid (((Rw.pairs mj).foldl Rw.bump cj).sum + 2 * Rw.countOf (Rw.tick mj) ≤ 7200) := by
          rw [sum_tick mj cj hmj]; rw [countOf_cons hp] at hsum; exact Lib.hid (by omega)
        have HF : Hid (Rw.afterOf (t - (k + 1)) (Rw.tick mj) = Rw.afterOf t m) := by
          rw [← HAF.out, show t - k = (t - (k + 1)) + 1 from by omega, afterOf_cons _ hp]; exact rfl
        clear hp haf hbr hTr hT hb hlen hmj hsum hcell
        go_wp2_with fail
        go_at_call 88
        refine HC.out.mono ?_
        rintro e w2 ⟨rfl, hT2, hG2⟩
        have H1 := Lib.hid hT2
        have H2 : Hid (Below B w0 w2) := grownBy_below HBR.out hG2 hB0 hB
        clear hT2 hG2
        go_wp2
        go_roundw
        case rel => exact ⟨k + 1, _, _, by omega, by go_num, H1.out, by rw [Rw.length_tick]; exact HL.out, HS.out, HF.out, H2.out⟩
        case measure => simp [intOf]; omega
    · have HF : Hid (mj = Rw.afterOf t m) := by rw [← HAF.out, show t - k = 0 from by omega]; exact rfl
      have HXX := HX.out wr mj cj HL.out HT2.out
      rw [HL.out] at HXX
      have HXY := Lib.hid HXX
      clear haf hbr hTr hT hb hcell hlen hmj HXX
      go_wp2_with fail
      go_at_call 84
      refine HXY.out.mono ?_
      rintro e w3 ⟨rfl, hb3⟩
      have H3 : Hid (Below B w0 w3) := HBR.out.trans (hb3.mono (by omega))
      clear hb3
      go_wp2
      go_ret
      exact ⟨ret_str (by rw [← HF.out]), H3.out⟩

set_option maxRecDepth 20000 in
set_option maxHeartbeats 2000000 in
theorem specRowAfter_yes (l : List Bool) (t : Nat) (ht : t ≤ 1000000) (h1 : 1 ≤ l.length) (h2 : l.length ≤ 60) (w : World) :
    Calls Try.prog 37 #[.string (Rw.str l), .int .i64 (t : Int)] w fun e w' => e = .returned (.tuple #[.string (Rw.str (Rw.afterOf t l)), .bool true]) ∧ Below w.heap.size w w' := by
  have hgood := goodB_str h1 h2
  have hml : (Rw.str l).size ≤ maxLen := by rw [Rw.size_str]; unfold maxLen; omega
  have b1 : inB t 0 1000000 = true := by unfold inB; simp only [decide_eq_true_eq]; omega
  obtain ⟨s, hs⟩ : ∃ s, s = Rw.str l := ⟨_, rfl⟩
  rw [← hs] at hgood hml ⊢
  have HS := Lib.hid hs
  clear hs
  go_enter Try.func37, Try.ntmps37
  go_wp2_with (first | (go_at_call 65; refine (rwGood_any _ _ hml).mono ?_; rintro e w' ⟨rfl, rfl⟩) | (go_at_call 89; refine (l1In_any _ _ _ _).mono ?_; rintro e w' ⟨rfl, rfl⟩))
  go_loopw [0, 1] (fun r i wr => ∃ (j : Nat) (mj : List Bool), j ≤ t ∧ i = .int .i64 (j : Int) ∧ r = .string (Rw.str mj) ∧ mj.length = l.length ∧ Rw.afterOf j mj = Rw.afterOf t l ∧ Below w.heap.size w wr) (fun _ i _ => (intOf i).toNat)
  case atStart => exact ⟨t, l, Nat.le_refl _, rfl, by rw [HS.out], rfl, rfl, Below.refl _ _⟩
  case round =>
    obtain ⟨j, mj, hj, rfl, rfl, hwl, haf, hB⟩ := hrel
    have HC := Lib.hid (fun w2 => rwPairs_any mj (by omega) (by omega) w2)
    have HU := Lib.hid (fun w2 => rwTick_any mj (by omega) (by omega) w2)
    obtain ⟨sj, hsj⟩ : ∃ sj, sj = Rw.str mj := ⟨_, rfl⟩
    rw [← hsj] at HC HU ⊢
    have HSJ := Lib.hid hsj
    have HB := Lib.hid hB
    have HL := Lib.hid hwl
    have HAF := Lib.hid haf
    have hws := hB.size
    rcases j with _ | j
    · have HF : Hid (sj = Rw.str (Rw.afterOf t l)) := by rw [← HAF.out, HSJ.out]; exact rfl
      clear hwl haf hB hsj
      go_wp2
      go_ret2
      exact ⟨ret_sb HF.out, HB.out⟩
    · have hjp : (0 : Int) < ((j + 1 : Nat) : Int) := by omega
      by_cases hp : Rw.pairs mj = []
      · have hl0 : (Rw.pairs mj).length = 0 := by rw [hp]; rfl
        rw [hl0, hp] at HC
        have HF : Hid (sj = Rw.str (Rw.afterOf t l)) := by rw [← HAF.out, HSJ.out, afterOf_nil _ hp]; exact rfl
        clear hwl haf hB hsj hp hl0
        go_wp2_with fail
        go_at_call 70
        refine (HC.out _).mono ?_
        rintro e w2 ⟨v, rfl, hown, hbel⟩
        have H2 : Hid (Below w.heap.size w w2) := HB.out.trans (hbel.mono hws)
        rcases own_shape hown with ⟨rfl, _⟩ | ⟨gv, cap, rfl, _⟩
        all_goals
          clear hown hbel
          go_wp2
          go_ret2
          exact ⟨ret_sb HF.out, H2.out⟩
      · have hpos : 0 < (Rw.pairs mj).length := List.length_pos_iff.2 hp
        have HF : Hid (Rw.afterOf j (Rw.tick mj) = Rw.afterOf t l) := by rw [← HAF.out, afterOf_cons _ hp]; exact rfl
        obtain ⟨P, hP⟩ : ∃ P, P = (Rw.pairs mj).length := ⟨_, rfl⟩
        rw [← hP] at HC hpos
        clear hwl haf hB hsj hp hP
        go_wp2_with fail
        go_at_call 70
        refine (HC.out _).mono ?_
        rintro e w2 ⟨v, rfl, hown, hbel⟩
        have hb2 := hbel.size
        have H2 : Hid (Below w.heap.size w w2) := HB.out.trans (hbel.mono hws)
        rcases own_shape hown with ⟨rfl, h0⟩ | ⟨gv, cap, rfl, _⟩
        · omega
        · clear hown hbel
          go_wp2_with fail
          go_at_call 71
          refine (HU.out _).mono ?_
          rintro e w3 ⟨rfl, hb3⟩
          have H3 : Hid (Below w.heap.size w w3) := H2.out.trans (hb3.mono (by omega))
          clear hb3
          go_wp2
          go_roundw
          case rel => exact ⟨j, _, by omega, int_eq3 (by omega), rfl, by rw [Rw.length_tick]; exact HL.out, HF.out, H3.out⟩
          case measure => simp [intOf]

end Go.Proofs.Ytacchefmblfobaa.C1
