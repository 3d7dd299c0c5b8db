/- Chapter 4, the program: CountCommandWords. -/
import Derived.Test.YtjbomclildkjaaaDoorDrD
import Derived.Test.YtjbomclildkjaaaDoorIe
namespace Go.Proofs.YtjbomclildkjaaaDoor
open Go.ChangeShapes Go.WideShapes Go.ChangeAt Go.RowKit
open Dr

theorem outCount_no {n t : Int} (h : ¬ ((0 ≤ n ∧ n ≤ 24) ∧ inB t 0 3 = true)) : outCountCommandWords_0 n t = 0 ∧ outCountCommandWords_1 n t = false := by
  unfold outCountCommandWords_0 outCountCommandWords_1 cntB
  by_cases h1 : 0 ≤ n ∧ n ≤ 24
  · rw [inB_of h1]
    cases h2 : inB t 0 3 with
    | false => exact ⟨rfl, rfl⟩
    | true => exact absurd ⟨h1, h2⟩ h
  · rw [inB_no h1]; exact ⟨rfl, rfl⟩
set_option maxRecDepth 20000 in
set_option maxHeartbeats 2000000 in
theorem implCountCommandWords_any (w : World) (n t : Int) (_wn : (Lit.int .i64 n).wf = true) (_wt : (Lit.int .i64 t).wf = true) :
    Calls Tryd.prog 27 #[.int .i64 n, .int .i64 t] w fun e w' => e = .returned (.tuple #[.int .i64 (outCountCommandWords_0 n t), .bool (outCountCommandWords_1 n t)]) ∧ Below w.heap.size w w' := by
  clear _wn _wt
  by_cases h0 : n < 0
  · have H0 := Lib.hid (outCount_no (n := n) (t := t) (by omega))
    go_enter Tryd.func27, Tryd.ntmps27
    go_wp2
    go_ret2
    exact ⟨by rw [H0.out.1, H0.out.2]; exact rfl, Below.refl _ _⟩
  · by_cases h24 : 24 < n
    · have H0 := Lib.hid (outCount_no (n := n) (t := t) (by omega))
      go_enter Tryd.func27, Tryd.ntmps27
      go_wp2
      go_ret2
      exact ⟨by rw [H0.out.1, H0.out.2]; exact rfl, Below.refl _ _⟩
    · have HI := Lib.hid (fun w2 => isWay_any t w2)
      rcases hb : inB t 0 3 with _ | _
      · have H0 := Lib.hid (outCount_no (n := n) (t := t) (by rw [hb]; exact fun h => by cases h.2))
        rw [hb] at HI
        clear hb
        go_enter Tryd.func27, Tryd.ntmps27
        go_wp2_with (go_at_call 65; refine (HI.out _).mono ?_; rintro e w' ⟨rfl, rfl⟩)
        go_ret2
        exact ⟨by rw [H0.out.1, H0.out.2]; exact rfl, Below.refl _ _⟩
      · have H1 : Hid (outCountCommandWords_1 n t = true) := Lib.hid (by unfold outCountCommandWords_1 cntB; rw [hb, inB_of (by omega)]; rfl)
        have H2 : Hid (outCountCommandWords_0 n t = if n = 0 then (if t = 0 then 1 else 0) else ((4 ^ (n.toNat - 1) : Nat) : Int)) := Lib.hid (by unfold outCountCommandWords_0; rw [inB_of (by omega), hb]; rfl)
        rw [hb] at HI
        clear hb
        by_cases hn : n = 0
        · subst hn
          by_cases ht : t = 0
          · subst ht
            go_enter Tryd.func27, Tryd.ntmps27
            go_wp2_with (go_at_call 65; refine (HI.out _).mono ?_; rintro e w' ⟨rfl, rfl⟩)
            go_loop [6, 26] (fun c i => c = .int .i64 1 ∧ i = .int .i64 0) (fun _ _ => 0)
            case atStart => exact ⟨rfl, rfl⟩
            case round =>
              obtain ⟨rfl, rfl⟩ := hrel
              go_wp2
              go_ret2
              exact ⟨by rw [H2.out, H1.out]; exact rfl, Below.refl _ _⟩
          · have bt : (t == 0) = false := by rw [beq_eq_false_iff_ne]; exact ht
            have HF : Hid ((if (0 : Int) = 0 then (if t = 0 then (1 : Int) else 0) else ((4 ^ ((0 : Int).toNat - 1) : Nat) : Int)) = 0) := Lib.hid (by rw [if_pos rfl, if_neg ht])
            go_enter Tryd.func27, Tryd.ntmps27
            go_wp2_with (go_at_call 65; refine (HI.out _).mono ?_; rintro e w' ⟨rfl, rfl⟩)
            go_loop [6, 26] (fun c i => c = .int .i64 0 ∧ i = .int .i64 0) (fun _ _ => 0)
            case atStart => exact ⟨rfl, rfl⟩
            case round =>
              obtain ⟨rfl, rfl⟩ := hrel
              go_wp2
              go_ret2
              exact ⟨by rw [H2.out, H1.out, HF.out]; exact rfl, Below.refl _ _⟩
        · obtain ⟨m, rfl⟩ : ∃ m : Nat, n = (m : Int) + 1 := ⟨(n - 1).toNat, by omega⟩
          have bn : ((m : Int) + 1 == 0) = false := by rw [beq_eq_false_iff_ne]; exact hn
          have HF : Hid ((if (m : Int) + 1 = 0 then (if t = 0 then (1 : Int) else 0) else ((4 ^ (((m : Int) + 1).toNat - 1) : Nat) : Int)) = ((4 ^ m : Nat) : Int)) := Lib.hid (by
            rw [if_neg hn, show ((m : Int) + 1).toNat - 1 = m from by omega])
          rw [HF.out] at H2
          have hm : m ≤ 23 := by omega
          have e2 : (m : Int) + 1 - 1 = (m : Int) := by omega
          clear hn h0 h24 HF
          go_enter Tryd.func27, Tryd.ntmps27
          go_wp2_with (go_at_call 65; refine (HI.out _).mono ?_; rintro e w' ⟨rfl, rfl⟩)
          go_loop [6, 26] (fun c i => ∃ k : Nat, k ≤ m ∧ i = .int .i64 (k : Int) ∧ c = .int .i64 ((4 ^ k : Nat) : Int)) (fun _ i => m - (intOf i).toNat)
          case atStart => exact ⟨0, Nat.zero_le _, rfl, rfl⟩
          case round =>
            obtain ⟨k, hk, rfl, rfl⟩ := hrel
            have hp : 4 ^ k ≤ 4 ^ 23 := Nat.pow_le_pow_right (by omega) (by omega)
            have HS : Hid (4 ^ (k + 1) = 4 ^ k * 4) := Lib.hid (Nat.pow_succ 4 k)
            by_cases hlt : k < m
            · obtain ⟨c, hc⟩ : ∃ c, c = 4 ^ k := ⟨_, rfl⟩
              rw [← hc] at hp HS ⊢
              clear hc
              go_wp2
              go_round
              case rel => exact ⟨k + 1, by omega, by go_num, int_eq (by rw [HS.out]; simp)⟩
              case measure => simp [intOf]; omega
            · obtain rfl : k = m := by omega
              obtain ⟨c, hc⟩ : ∃ c, c = 4 ^ k := ⟨_, rfl⟩
              rw [← hc] at H2 ⊢
              clear hc hp
              go_wp2
              go_ret2
              exact ⟨by rw [H2.out, H1.out]; exact rfl, Below.refl _ _⟩

end Go.Proofs.YtjbomclildkjaaaDoor
