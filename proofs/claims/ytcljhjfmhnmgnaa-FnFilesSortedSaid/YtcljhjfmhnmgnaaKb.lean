/- Chapter 6, the program: isFileRow, AreFiles, isHeightAsked. -/
import Derived.Test.YtcljhjfmhnmgnaaKa
namespace Go.Proofs.Ytcljhjfmhnmgnaa
open Go.ChangeShapes Go.WideShapes Go.ChangeAt Go.RowKit
open Fi

namespace Fi
/-- a row that files may have -/
def rowOkB (zs : List Int) : Bool := inB (zs.length : Int) 1 8 && allB zs 1 999
theorem ok_minmax {zs : List Int} (h1 : 1 ≤ zs.length) (h8 : zs.length ≤ 8) : rowOkB zs = (decide (minTo zs (zs.length - 1) ≥ 1) && decide (maxTo zs (zs.length - 1) ≤ 999)) := by
  unfold rowOkB
  rw [inB_of ⟨by omega, by omega⟩, Bool.true_and, allB_minmax (by omega)]
theorem good_step {zss : List (List Int)} {k : Nat} (hk : k < zss.length) (h : rowOkB (row zss k) = false ∨ (row zss k).length ≠ (row zss 0).length) : goodF zss = false := by
  cases hb : goodF zss with
  | false => rfl
  | true =>
    have g := good_of hb
    exfalso
    rcases h with h | h
    · have hc := g.cols k hk
      have h1 := g.c1
      have h8 := g.c8
      unfold rowOkB at h
      rw [inB_of ⟨by omega, by omega⟩, g.all k hk] at h
      cases h
    · exact h (g.cols k hk)
theorem good_all {zss : List (List Int)} (h1 : 1 ≤ zss.length) (h8 : zss.length ≤ 8) (h : ∀ k, k < zss.length → rowOkB (row zss k) = true ∧ (row zss k).length = (row zss 0).length) : goodF zss = true := by
  have h0 := (h 0 h1).1
  unfold rowOkB at h0
  simp only [Bool.and_eq_true] at h0
  have hc := inB_yes h0.1
  refine of_good (R := zss.length) (C := (row zss 0).length) ⟨rfl, h1, h8, by omega, by omega, fun i hi => (h i hi).2, fun i hi => ?_⟩
  have := (h i hi).1
  unfold rowOkB at this
  simp only [Bool.and_eq_true] at this
  exact this.2
end Fi

set_option maxRecDepth 20000 in
set_option maxHeartbeats 1000000 in
theorem isFileRow_any (w : World) (a : Option Addr) (len cap : Nat) (zs : List Int) (hl : len ≤ 9223372036854775807) (hc : Came w a len zs) :
    Calls Try.prog 51 #[.slice a len cap] w fun e w' => e = .returned (.bool (rowOkB zs)) ∧ w = w' := by
  have hzl := hc.1
  by_cases h1 : len < 1
  · have H0 : Hid (rowOkB zs = false) := Lib.hid (by unfold rowOkB; rw [inB_no (fun e => by omega)]; rfl)
    clear hc hzl
    go_enter Try.func51, Try.ntmps51
    go_wp2
    go_ret
    exact ⟨ret_bool H0.out.symm, rfl⟩
  by_cases h8 : 8 < len
  · have H0 : Hid (rowOkB zs = false) := Lib.hid (by unfold rowOkB; rw [inB_no (fun e => by omega)]; rfl)
    clear hc hzl
    go_enter Try.func51, Try.ntmps51
    go_wp2
    go_ret
    exact ⟨ret_bool H0.out.symm, rfl⟩
  have HMN := Lib.hid (min_any w a len cap zs (by omega) (by omega) hc)
  have HMX := Lib.hid (max_any w a len cap zs (by omega) (by omega) hc)
  have HOK : Hid (rowOkB zs = (decide (minTo zs (len - 1) ≥ 1) && decide (maxTo zs (len - 1) ≤ 999))) := Lib.hid (by rw [ok_minmax (by omega) (by omega), hzl])
  obtain ⟨m, hm⟩ : ∃ m, m = minTo zs (len - 1) := ⟨_, rfl⟩
  obtain ⟨x, hx⟩ : ∃ m, m = maxTo zs (len - 1) := ⟨_, rfl⟩
  rw [← hm] at HMN HOK
  rw [← hx] at HMX HOK
  clear hm hx hc hzl
  by_cases hm1 : 1 ≤ m
  · have H0 : Hid (rowOkB zs = decide (x ≤ 999)) := Lib.hid (by rw [HOK.out, decide_eq_true (show m ≥ 1 from hm1), Bool.true_and])
    go_enter Try.func51, Try.ntmps51
    go_wp2_with (first | (go_at_call 64; refine HMN.out.mono ?_; rintro e w' ⟨rfl, rfl⟩) | (go_at_call 65; refine HMX.out.mono ?_; rintro e w' ⟨rfl, rfl⟩))
    go_ret
    exact ⟨ret_bool H0.out.symm, rfl⟩
  · have H0 : Hid (rowOkB zs = false) := Lib.hid (by rw [HOK.out, decide_eq_false (show ¬ m ≥ 1 from hm1), Bool.false_and])
    go_enter Try.func51, Try.ntmps51
    go_wp2_with (go_at_call 64; refine HMN.out.mono ?_; rintro e w' ⟨rfl, rfl⟩)
    go_ret
    exact ⟨ret_bool H0.out.symm, rfl⟩

set_option maxRecDepth 20000 in
set_option maxHeartbeats 2000000 in
theorem areFiles_any (w : World) (a : Option Addr) (len cap : Nat) (zss : List (List Int)) (hf : LenSS zss) (hc : CameSS w a len zss) :
    Calls Try.prog 24 #[.slice a len cap] w fun e w' => e = .returned (.bool (goodF zss)) ∧ w = w' := by
  have hl : len ≤ 1048576 := by have := hc.1; have := hf.1; omega
  have hzl := hc.1
  by_cases h1 : len < 1
  · have H0 : Hid (goodF zss = false) := Lib.hid (by unfold goodF; rw [inB_no (fun e => by omega)]; rfl)
    clear hc hf hzl
    go_enter Try.func24, Try.ntmps24
    go_wp2
    go_ret
    exact ⟨ret_bool H0.out.symm, rfl⟩
  by_cases h8 : 8 < len
  · have H0 : Hid (goodF zss = false) := Lib.hid (by unfold goodF; rw [inB_no (fun e => by omega)]; rfl)
    clear hc hf hzl
    go_enter Try.func24, Try.ntmps24
    go_wp2
    go_ret
    exact ⟨ret_bool H0.out.symm, rfl⟩
  have HZ : Hid (zss.length = len) := Lib.hid hzl
  have HC := Lib.hid hc
  have HGA : Hid ((∀ k, k < len → rowOkB (row zss k) = true ∧ (row zss k).length = (row zss 0).length) → goodF zss = true) := Lib.hid (fun h => good_all (by omega) (by omega) (fun k hk => h k (by omega)))
  have HGN : Hid (∀ k, k < len → (rowOkB (row zss k) = false ∨ (row zss k).length ≠ (row zss 0).length) → goodF zss = false) := Lib.hid (fun k hk h => good_step (by omega) h)
  obtain ⟨b, off, a0, c0, rfl, e0, _, _, _⟩ := hc.at 0 (by omega)
  rw [Nat.add_zero] at e0
  obtain ⟨c, hcc⟩ : ∃ c, c = (row zss 0).length := ⟨_, rfl⟩
  have e0' : w.cell? ⟨b, off, none⟩ = some (.slice a0 c c0) := by rw [hcc]; exact e0
  rw [← hcc] at HGA HGN
  have i0 : (0 : Int) < (len : Int) := by omega
  clear e0 hc hf hzl hcc
  go_enter Try.func24, Try.ntmps24
  go_wp2
  go_loop [15] (fun i => ∃ k : Nat, k ≤ len ∧ i = .int .i64 k ∧ Hid (∀ j, j < k → rowOkB (row zss j) = true ∧ (row zss j).length = c)) (fun i => len - (intOf i).toNat)
  case atStart => exact ⟨0, Nat.zero_le _, rfl, Lib.hid fun j hj => absurd hj (Nat.not_lt_zero _)⟩
  case round =>
    obtain ⟨k, hk, rfl, HT⟩ := hrel
    by_cases hlt : k < len
    · obtain ⟨b', off', ak, ck, he, e1, hrow, hk1, hk2⟩ := HC.out.at k hlt
      cases he
      have HA := Lib.hid (isFileRow_any w ak _ ck _ (Nat.le_trans hk1 hk2) hrow)
      have HN := Lib.hid (HGN.out k hlt)
      have HTK : Hid (rowOkB (row zss k) = rowOkB (zss.getD k []) ∧ (row zss k).length = (zss.getD k []).length) := Lib.hid ⟨rfl, rfl⟩
      obtain ⟨q, hq⟩ : ∃ q, q = (zss.getD k []).length := ⟨_, rfl⟩
      rw [← hq] at e1 HA HTK
      rw [HTK.out.2] at HN
      have i2 : (0 : Int) ≤ (k : Int) := by omega
      have i3 : (k : Int) < (len : Int) := by omega
      clear hq hrow hk1 hk2
      rcases hok : rowOkB (zss.getD k []) with _ | _
      · have H0 : Hid (goodF zss = false) := Lib.hid (HN.out (.inl (HTK.out.1.trans hok)))
        rw [hok] at HA
        clear hok
        go_wp2_with (go_at_call 51; refine HA.out.mono ?_; rintro e w' ⟨rfl, rfl⟩)
        go_ret
        exact ⟨ret_bool H0.out.symm, rfl⟩
      · rw [hok] at HA HTK
        clear hok
        by_cases hqc : q = c
        · have hne : ((q : Int) != (c : Int)) = false := by rw [bne_eq_false_iff_eq, hqc]
          have HT2 : Hid (∀ j, j < k + 1 → rowOkB (row zss j) = true ∧ (row zss j).length = c) := Lib.hid (fun j hj => by
            by_cases e : j = k
            · subst e; exact ⟨HTK.out.1, HTK.out.2.trans hqc⟩
            · exact HT.out j (by omega))
          clear hqc
          go_wp2_with (go_at_call 51; refine HA.out.mono ?_; rintro e w' ⟨rfl, rfl⟩)
          go_round
          case rel => exact ⟨k + 1, by omega, by go_num, HT2⟩
          case measure => simp [intOf]; omega
        · have hne : ((q : Int) != (c : Int)) = true := by rw [bne_iff_ne]; omega
          have H0 : Hid (goodF zss = false) := Lib.hid (HN.out (.inr hqc))
          clear hqc
          go_wp2_with (go_at_call 51; refine HA.out.mono ?_; rintro e w' ⟨rfl, rfl⟩)
          go_ret
          exact ⟨ret_bool H0.out.symm, rfl⟩
    · have H0 : Hid (goodF zss = true) := Lib.hid (HGA.out (fun j hj => HT.out j (by omega)))
      go_wp2
      go_ret
      exact ⟨ret_bool H0.out.symm, rfl⟩
set_option maxRecDepth 20000 in
theorem implAreFiles_any (w : World) (a : Option Addr) (len cap : Nat) (zss : List (List Int)) (hf : LenSS zss) (hc : CameSS w a len zss) :
    Calls Try.prog 24 #[.slice a len cap] w fun e w' => e = .returned (.bool (outAreFiles_0 zss)) ∧ Below w.heap.size w w' :=
  (areFiles_any w a len cap zss hf hc).mono fun _ _ ⟨he, hw⟩ => ⟨he, hw ▸ Below.refl _ _⟩


end Go.Proofs.Ytcljhjfmhnmgnaa
