
/- settle, isAtRest, ticked: ticks until rest. -/
import Derived.Test.YtacchefmblfobaaC1Tick
namespace Go.Proofs.Ytacchefmblfobaa.C1
open Go.ChangeShapes Go.WideShapes Go.ChangeAt Go.RowKit

theorem ticksOf_nil {m : List Bool} (h : Rw.pairs m = []) : Rw.ticksOf m = 0 := by rw [Rw.ticksOf]; simp [h]
theorem ticksOf_cons {m : List Bool} (h : ¬ Rw.pairs m = []) : Rw.ticksOf m = Rw.ticksOf (Rw.tick m) + 1 := by rw [Rw.ticksOf]; simp [h]
theorem restOf_nil {m : List Bool} (h : Rw.pairs m = []) : Rw.restOf m = m := by rw [Rw.restOf]; simp [h]
theorem restOf_cons {m : List Bool} (h : ¬ Rw.pairs m = []) : Rw.restOf m = Rw.restOf (Rw.tick m) := by rw [Rw.restOf]; simp [h]
theorem turnsOf_nil {m : List Bool} {c : List Nat} (h : Rw.pairs m = []) : Rw.turnsOf m c = c := by rw [Rw.turnsOf]; simp [h]
theorem turnsOf_cons {m : List Bool} {c : List Nat} (h : ¬ Rw.pairs m = []) : Rw.turnsOf m c = Rw.turnsOf (Rw.tick m) ((Rw.pairs m).foldl Rw.bump c) := by rw [Rw.turnsOf]; simp [h]
theorem countOf_nil {m : List Bool} (h : Rw.pairs m = []) : Rw.countOf m = 0 := by rw [Rw.countOf]; simp [h]
theorem countOf_cons {m : List Bool} (h : ¬ Rw.pairs m = []) : Rw.countOf m = (Rw.pairs m).length + Rw.countOf (Rw.tick m) := by rw [Rw.countOf]; simp [h]

/-- where a troop stands that began as m, c, after k ticks -/
def Way (m : List Bool) (c : List Nat) (k : Nat) (mj : List Bool) (cj : List Nat) : Prop :=
  k + Rw.ticksOf mj = Rw.ticksOf m ∧ Rw.restOf mj = Rw.restOf m ∧ Rw.turnsOf mj cj = Rw.turnsOf m c ∧ mj.length = m.length ∧ cj.length = c.length ∧ cj.sum + 2 * Rw.countOf mj = c.sum + 2 * Rw.countOf m
theorem Way.start (m : List Bool) (c : List Nat) : Way m c 0 m c := ⟨by omega, rfl, rfl, rfl, rfl, rfl⟩
theorem Way.next {m mj : List Bool} {c cj : List Nat} {k : Nat} (h : Way m c k mj cj) (hc : m.length = c.length) (hp : ¬ Rw.pairs mj = []) : Way m c (k + 1) (Rw.tick mj) ((Rw.pairs mj).foldl Rw.bump cj) := by
  obtain ⟨a1, a2, a3, a4, a5, a6⟩ := h
  rw [ticksOf_cons hp] at a1
  rw [restOf_cons hp] at a2
  rw [turnsOf_cons hp] at a3
  rw [countOf_cons hp] at a6
  refine ⟨by omega, a2, a3, by simpa using a4, by rw [Rw.length_foldl_bump]; exact a5, ?_⟩
  rw [Rw.sum_fold _ _ (fun p h => by have := Rw.mem_pairs h; omega)]
  omega
theorem Way.done {m mj : List Bool} {c cj : List Nat} {k : Nat} (h : Way m c k mj cj) (hp : Rw.pairs mj = []) : k = Rw.ticksOf m ∧ mj = Rw.restOf m ∧ cj = Rw.turnsOf m c := by
  obtain ⟨a1, a2, a3, _, _, _⟩ := h
  rw [ticksOf_nil hp] at a1
  rw [restOf_nil hp] at a2
  rw [turnsOf_nil hp] at a3
  exact ⟨by omega, a2, a3⟩
theorem Way.more {m mj : List Bool} {c cj : List Nat} {k : Nat} (h : Way m c k mj cj) (hp : ¬ Rw.pairs mj = []) : k < Rw.ticksOf m := by
  have := h.1; rw [ticksOf_cons hp] at this; omega

set_option maxRecDepth 20000 in
set_option maxHeartbeats 2000000 in
theorem settle_any (g : Nat) (m : List Bool) (c : List Nat) (h1 : 1 ≤ m.length) (h2 : m.length ≤ 60) (hc : c.sum ≤ 50000) (w : World) (hT : Trp w g m c) :
    Calls Try.prog 64 #[.slice (some ⟨g, 0, none⟩) m.length m.length] w fun e w' => e = .returned (.int .i64 (Rw.ticksOf m : Nat)) ∧ Trp w' g (Rw.restOf m) (Rw.turnsOf m c) ∧ w.grownBy w' (some g) := by
  have hmc := hT.2
  have hmw := Rw.mw_row m h2
  have htb : Rw.ticksOf m ≤ 3600 := by have := Rw.ticksOf_le m; omega
  have hcb := Rw.countOf_le m
  obtain ⟨n, hn⟩ : ∃ n, n = m.length := ⟨_, rfl⟩
  obtain ⟨T, hTT⟩ : ∃ T, T = Rw.ticksOf m := ⟨_, rfl⟩
  rw [← hn] at h1 h2 ⊢
  rw [← hTT] at htb ⊢
  have HN := Lib.hid hn
  have HTT := Lib.hid hTT
  have HMC := Lib.hid hmc
  clear hn hmc hTT
  go_enter Try.func64, Try.ntmps64
  go_wp2
  go_loopw [3] (fun t wr => ∃ k mj cj, k ≤ T ∧ t = .int .i64 (k : Nat) ∧ Trp wr g mj cj ∧ Way m c k mj cj ∧ w.grownBy wr (some g)) (fun t _ => T - (intOf t).toNat)
  case atStart => exact ⟨0, m, c, Nat.zero_le _, rfl, hT, Way.start m c, World.grownBy.refl _ _⟩
  case round =>
    obtain ⟨k, mj, cj, hk, rfl, hTr, hW, hG⟩ := hrel
    have hwl := hW.2.2.2.1
    have hsum : cj.sum ≤ 100000 := by have := hW.2.2.2.2.2; omega
    have HC := Lib.hid (tick_any g mj cj (by have := HN.out; omega) (by have := HN.out; omega) hsum wr hTr)
    rw [show mj.length = n by have := HN.out; omega] at HC
    have HG := Lib.hid hG
    have HW := Lib.hid hW
    by_cases hp : Rw.pairs mj = []
    · have hd : decide (0 < (Rw.pairs mj).length) = false := by rw [hp]; rfl
      have HD := Lib.hid (hW.done hp)
      have HE : Hid (Rw.tick mj = mj ∧ (Rw.pairs mj).foldl Rw.bump cj = cj) := by unfold Rw.tick; rw [hp]; exact ⟨rfl, rfl⟩
      clear hp hW hG hTr hwl hT
      go_wp2_with fail
      go_at_call 88
      refine HC.out.mono ?_
      rintro e w2 ⟨rfl, hT2, hG2⟩
      have H1 : Hid (Trp w2 g (Rw.restOf m) (Rw.turnsOf m c)) := by rw [HE.out.1, HE.out.2, HD.out.2.1, HD.out.2.2] at hT2; exact hT2
      have H2 : Hid (w.grownBy w2 (some g)) := grownBy_trans HG.out hG2
      clear hT2 hG2
      go_wp2
      go_ret
      exact ⟨ret_int (by rw [HTT.out, HD.out.1]), H1.out, H2.out⟩
    · have hd : decide (0 < (Rw.pairs mj).length) = true := by simp; exact List.length_pos_iff.2 hp
      have hkT : k < T := by rw [HTT.out]; exact hW.more hp
      have HX := Lib.hid (hW.next HMC.out hp)
      clear hp hW hG hTr hwl hT
      go_wp2_with fail
      go_at_call 88
      refine HC.out.mono ?_
      rintro e w2 ⟨rfl, hT2, hG2⟩
      have H1 := Lib.hid hT2
      have H2 : Hid (w.grownBy w2 (some g)) := grownBy_trans HG.out hG2
      clear hT2 hG2
      go_wp2
      go_roundw
      case rel => exact ⟨k + 1, _, _, by omega, by go_num, H1.out, HX.out, H2.out⟩
      case measure => simp [intOf]; omega

end Go.Proofs.Ytacchefmblfobaa.C1
