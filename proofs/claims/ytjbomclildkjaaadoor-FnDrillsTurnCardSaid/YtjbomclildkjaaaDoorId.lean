/- Chapter 4, the program: ShortCommands, RepeatsToFront. -/
import Derived.Test.YtjbomclildkjaaaDoorIc
namespace Go.Proofs.YtjbomclildkjaaaDoor
open Go.ChangeShapes Go.WideShapes Go.ChangeAt Go.RowKit
open Dr

theorem outNet_of {ts : List Nat} (hb : wordB (word ts) = true) (h : ∀ t ∈ ts, t < 4) : outNetTurn_0 (word ts) = (net ts : Nat) ∧ outNetTurn_1 (word ts) = true := by
  unfold outNetTurn_0 outNetTurn_1; rw [hb, tsOf_word h]; exact ⟨rfl, rfl⟩
theorem outNet_no {s : ByteArray} (hb : wordB s = false) : outNetTurn_0 s = 0 ∧ outNetTurn_1 s = false := by
  unfold outNetTurn_0 outNetTurn_1; rw [hb]; exact ⟨rfl, rfl⟩
set_option maxRecDepth 20000 in
set_option maxHeartbeats 1000000 in
theorem implShortCommands_any (w : World) (s : ByteArray) (_ws : s.size ≤ maxLen) (hls : s.size ≤ 1048576) (hT : Tab_signOfTurn w) :
    Calls Tryd.prog 13 #[.string s] w fun e w' => e = .returned (.tuple #[.string (outShortCommands_0 s), .bool (outShortCommands_1 s)]) ∧ Below w.heap.size w w' := by
  have HN := Lib.hid (implNetTurn_any w s _ws hls hT)
  clear _ws
  rcases hb0 : wordB s with _ | _
  · have H0 : Hid (outShortCommands_0 s = ByteArray.empty ∧ outShortCommands_1 s = false) := Lib.hid (by unfold outShortCommands_0 outShortCommands_1; rw [hb0]; exact ⟨rfl, rfl⟩)
    rw [(outNet_no hb0).1, (outNet_no hb0).2] at HN
    clear hb0 hT
    go_enter Tryd.func13, Tryd.ntmps13
    go_wp2_with (go_at_call 11; refine HN.out.mono ?_; rintro e w1 ⟨rfl, b1⟩)
    go_ret2
    exact ⟨by rw [H0.out.1, H0.out.2]; exact rfl, b1⟩
  · obtain ⟨ts, rfl, h1, h2⟩ := word_of hb0
    rw [(outNet_of hb0 h2).1, (outNet_of hb0 h2).2] at HN
    have hnl := net_lt ts
    by_cases h0 : net ts = 0
    · have H0 : Hid (outShortCommands_0 (word ts) = ByteArray.empty ∧ outShortCommands_1 (word ts) = true) := Lib.hid (by unfold outShortCommands_0 outShortCommands_1; rw [hb0, tsOf_word h2, if_pos h0]; exact ⟨rfl, rfl⟩)
      rw [h0] at HN
      obtain ⟨s, hs⟩ : ∃ s, s = word ts := ⟨_, rfl⟩
      rw [← hs] at HN H0 ⊢
      clear hb0 hs h2 h0 hnl hT
      go_enter Tryd.func13, Tryd.ntmps13
      go_wp2_with (go_at_call 11; refine HN.out.mono ?_; rintro e w1 ⟨rfl, b1⟩)
      go_ret2
      exact ⟨by rw [H0.out.1, H0.out.2]; exact rfl, b1⟩
    · have H0 : Hid (outShortCommands_0 (word ts) = word [net ts] ∧ outShortCommands_1 (word ts) = true) := Lib.hid (by unfold outShortCommands_0 outShortCommands_1; rw [hb0, tsOf_word h2, if_neg h0]; exact ⟨rfl, rfl⟩)
      have HC := Lib.hid (fun w2 (hb : Below w.heap.size w w2) => (hT.below hb).sign (net ts) hnl)
      have HE := Lib.hid (encode_sg (net ts))
      rw [show txt [sg (net ts)] = word [net ts] from rfl] at HE
      obtain ⟨s, hs⟩ : ∃ s, s = word ts := ⟨_, rfl⟩
      obtain ⟨q, hq⟩ : ∃ s, s = word [net ts] := ⟨_, rfl⟩
      rw [← hq] at HE H0
      obtain ⟨n, hn⟩ : ∃ s, s = net ts := ⟨_, rfl⟩
      rw [← hn] at HN hnl HC HE h0
      obtain ⟨c, hc⟩ : ∃ s, s = sgZ n := ⟨_, rfl⟩
      rw [← hc] at HC HE
      rw [← hs] at HN H0 ⊢
      have hn0 : (0 : Int) ≤ (n : Int) := by omega
      have hn4 : (n : Int) < 4 := by omega
      have hne : ¬ ((n : Int) = 0) := by omega
      have bne : ((n : Int) == 0) = false := by rw [beq_eq_false_iff_ne]; exact hne
      clear hb0 hs h2 hT hq hn hc hne h0
      go_enter Tryd.func13, Tryd.ntmps13
      go_wp2_with fail
      go_at_call 11
      refine HN.out.mono ?_
      rintro e w1 ⟨rfl, b1⟩
      have hcell := HC.out w1 b1
      have B1 := Lib.hid b1
      clear b1
      go_wp2
      go_ret2
      exact ⟨by rw [H0.out.1, H0.out.2, HE.out]; exact rfl, B1.out⟩

set_option maxRecDepth 20000 in
set_option maxHeartbeats 2000000 in
theorem implRepeatsToFront_any (w : World) (s : ByteArray) (_ws : s.size ≤ maxLen) (hls : s.size ≤ 1048576) (hT : Tab_signOfTurn w) :
    Calls Tryd.prog 19 #[.string s] w fun e w' => e = .returned (.tuple #[.int .i64 (outRepeatsToFront_0 s), .bool (outRepeatsToFront_1 s)]) ∧ Below w.heap.size w w' := by
  have HN := Lib.hid (implNetTurn_any w s _ws hls hT)
  clear _ws
  rcases hb0 : wordB s with _ | _
  · have H0 : Hid (outRepeatsToFront_0 s = 0 ∧ outRepeatsToFront_1 s = false) := Lib.hid (by unfold outRepeatsToFront_0 outRepeatsToFront_1; rw [hb0]; exact ⟨rfl, rfl⟩)
    rw [(outNet_no hb0).1, (outNet_no hb0).2] at HN
    clear hb0 hT
    go_enter Tryd.func19, Tryd.ntmps19
    go_wp2_with (go_at_call 11; refine HN.out.mono ?_; rintro e w1 ⟨rfl, b1⟩)
    go_ret2
    exact ⟨by rw [H0.out.1, H0.out.2]; exact rfl, b1⟩
  · obtain ⟨ts, rfl, h1, h2⟩ := word_of hb0
    rw [(outNet_of hb0 h2).1, (outNet_of hb0 h2).2] at HN
    have hnl := net_lt ts
    have H0 : Hid (outRepeatsToFront_0 (word ts) = (if net ts = 0 then 1 else if net ts = 2 then 2 else 4) ∧ outRepeatsToFront_1 (word ts) = true) := Lib.hid (by unfold outRepeatsToFront_0 outRepeatsToFront_1; rw [hb0, tsOf_word h2]; exact ⟨rfl, rfl⟩)
    obtain ⟨s, hs⟩ : ∃ s, s = word ts := ⟨_, rfl⟩
    obtain ⟨n, hn⟩ : ∃ s, s = net ts := ⟨_, rfl⟩
    rw [← hn] at HN H0 hnl
    rw [← hs] at HN H0 ⊢
    obtain ⟨r, hr⟩ : ∃ r : Nat, r = (if n = 0 then 1 else if n = 2 then 2 else 4) := ⟨_, rfl⟩
    have HR := Lib.hid hr
    have HV : Hid (∀ t : Nat, 1 ≤ t → t < r → ((t : Int) * (n : Int)) % 4 ≠ 0) := Lib.hid (fun t ht1 ht2 => by
      match n, hnl with
      | 0, _ => rw [if_pos rfl] at hr; omega
      | 1, _ => rw [if_neg (by omega), if_neg (by omega)] at hr; omega
      | 2, _ => rw [if_neg (by omega), if_pos rfl] at hr; omega
      | 3, _ => rw [if_neg (by omega), if_neg (by omega)] at hr; omega)
    have HE : Hid (((r : Int) * (n : Int)) % 4 = 0) := Lib.hid (by
      match n, hnl with
      | 0, _ => omega
      | 1, _ => rw [if_neg (by omega), if_neg (by omega)] at hr; omega
      | 2, _ => rw [if_neg (by omega), if_pos rfl] at hr; omega
      | 3, _ => rw [if_neg (by omega), if_neg (by omega)] at hr; omega)
    have hr4 : r ≤ 4 := by rw [hr]; split; omega; split <;> omega
    have hr1 : 1 ≤ r := by rw [hr]; split; omega; split <;> omega
    clear hb0 hs hn h2 hT hr
    go_enter Tryd.func19, Tryd.ntmps19
    go_wp2_with fail
    go_at_call 11
    refine HN.out.mono ?_
    rintro e w1 ⟨rfl, b1⟩
    have B1 := Lib.hid b1
    clear b1
    go_wp2
    go_loop [6] (fun t => ∃ k : Nat, 1 ≤ k ∧ k ≤ r ∧ t = .int .i64 (k : Int)) (fun t => r - (intOf t).toNat)
    case atStart => exact ⟨1, Nat.le_refl _, hr1, rfl⟩
    case round =>
      obtain ⟨k, hk1, hk, rfl⟩ := hrel
      have hp0 : (0 : Int) ≤ (k : Int) * (n : Int) := Int.mul_nonneg (by omega) (by omega)
      have hp1 : (k : Int) * (n : Int) ≤ 4 * 3 := by
        have a1 : k * n ≤ 4 * 3 := Nat.mul_le_mul (by omega) (by omega)
        exact_mod_cast a1
      by_cases hlt : k < r
      · have hv := HV.out k hk1 hlt
        obtain ⟨p, hp⟩ : ∃ p, p = (k : Int) * (n : Int) := ⟨_, rfl⟩
        rw [← hp] at hp0 hp1 hv
        have e1 : (k : Int) * (n : Int) = p := hp.symm
        have bv : (p % 4 == 0) = false := by rw [beq_eq_false_iff_ne]; exact hv
        clear hp
        go_wp2
        go_round
        case rel => exact ⟨k + 1, by omega, by omega, by go_num⟩
        case measure => simp [intOf]; omega
      · obtain rfl : k = r := by omega
        have hv := HE.out
        obtain ⟨p, hp⟩ : ∃ p, p = (k : Int) * (n : Int) := ⟨_, rfl⟩
        rw [← hp] at hp0 hp1 hv
        have e1 : (k : Int) * (n : Int) = p := hp.symm
        clear hp
        go_wp2
        go_ret2
        exact ⟨by rw [H0.out.1, H0.out.2, HR.out]; split; exact rfl; split <;> exact rfl, B1.out⟩

end Go.Proofs.YtjbomclildkjaaaDoor
