/- Chapter 8: the model's WaitsFor, MiddleMeeting. -/
import Derived.Test.YtmlamcimncfmcaaSib
import Derived.Test.YtmlamcimncfmcaaSie
namespace Go.Proofs.Ytmlamcimncfmcaa
open Go.ChangeShapes Go.WideShapes Go.ChangeAt Go.RowKit
open Si

namespace Si
theorem waitsTo_succ (N f k : Nat) : waitsTo N f (k + 1) = waitsTo N f k ++ [((farTo N [f] N : Nat) : Int) - (nearN N [f] k : Nat)] := upTo_succ _ _
theorem length_waitsTo (N f k : Nat) : (waitsTo N f k).length = k := length_upTo _ _
/-- the first one below a number -/
def soonTo (p : Nat → Bool) (k : Nat) : Option Nat := (List.range k).find? p
theorem soonTo_hit {p : Nat → Bool} {k n : Nat} (h : ∀ j, j < k → p j = false) (hk : p k = true) (hn : k < n) : soonTo p n = some k := by
  unfold soonTo
  rw [List.find?_range_eq_some]
  exact ⟨hk, List.mem_range.2 hn, fun j hj => by rw [h j hj]; rfl⟩
theorem soonTo_miss {p : Nat → Bool} {n : Nat} (h : ∀ j, j < n → p j = false) : soonTo p n = none := by
  unfold soonTo
  rw [List.find?_eq_none]
  intro j hj
  rw [h j (List.mem_range.1 hj)]; decide
def midP (n t : Nat) : Bool := meetB n 0 false 1 0 false 3 (t + 1)
def midB (n : Int) : Bool := inB n 1 100 && decide (n ≠ 1)
end Si
def outMiddleMeeting_0 (n : Int) : Int := if midB n then (match soonTo (midP n.toNat) 100000 with | some t => ((t + 1 : Nat) : Int) | none => 0) else 0
def outMiddleMeeting_1 (n : Int) : Int := if midB n then (match soonTo (midP n.toNat) 100000 with | some t => (posN n.toNat 0 false 1 (t + 1) : Nat) | none => 0) else 0
def outMiddleMeeting_2 (n : Int) : Bool := midB n && (soonTo (midP n.toNat) 100000).isSome


set_option maxHeartbeats 4000000 in
theorem specMiddleMeeting_any (w : World) (n : Int) (_wn : (Lit.int .i64 n).wf = true) :
    Calls Try.prog 37 #[.int .i64 n] w fun e w' => e = .returned (.tuple #[.int .i64 (outMiddleMeeting_0 n), .int .i64 (outMiddleMeeting_1 n), .bool (outMiddleMeeting_2 n)]) ∧ Below w.heap.size w w' := by
  clear _wn
  have HN := Lib.hid (siSoldiers_any n w)
  rcases hb0 : inB n 1 100 with _ | _
  · have H0 : Hid (outMiddleMeeting_0 n = 0 ∧ outMiddleMeeting_1 n = 0 ∧ outMiddleMeeting_2 n = false) := Lib.hid (by unfold outMiddleMeeting_0 outMiddleMeeting_1 outMiddleMeeting_2 midB; rw [hb0]; exact ⟨rfl, rfl, rfl⟩)
    rw [hb0] at HN
    clear hb0
    go_enter Try.func37, Try.ntmps37
    go_wp2_with (go_at_call 59; refine HN.out.mono ?_; rintro e ww ⟨rfl, rfl⟩)
    go_ret3
    exact ⟨by rw [H0.out.1, H0.out.2.1, H0.out.2.2]; exact rfl, Below.refl _ _⟩
  obtain ⟨n1, n2⟩ := inB_yes hb0
  by_cases hn1 : n = 1
  · have H0 : Hid (outMiddleMeeting_0 n = 0 ∧ outMiddleMeeting_1 n = 0 ∧ outMiddleMeeting_2 n = false) := Lib.hid (by unfold outMiddleMeeting_0 outMiddleMeeting_1 outMiddleMeeting_2 midB; rw [hb0, decide_eq_false (fun h => h hn1)]; exact ⟨rfl, rfl, rfl⟩)
    have hq : (n == 1) = true := by rw [beq_iff_eq]; exact hn1
    rw [hb0] at HN
    clear hb0 hn1
    go_enter Try.func37, Try.ntmps37
    go_wp2_with (go_at_call 59; refine HN.out.mono ?_; rintro e ww ⟨rfl, rfl⟩)
    go_ret3
    exact ⟨by rw [H0.out.1, H0.out.2.1, H0.out.2.2]; exact rfl, Below.refl _ _⟩
  · obtain ⟨N, rfl⟩ : ∃ N : Nat, n = (N : Int) := ⟨n.toNat, by omega⟩
    have hq : ((N : Int) == 1) = false := by rw [beq_eq_false_iff_ne]; exact hn1
    have h1g : OkS N 0 1 := ⟨by omega, by omega, by omega, by omega, by omega⟩
    have h3g : OkS N 0 3 := ⟨by omega, by omega, by omega, by omega, by omega⟩
    have HM : Hid (∀ T : Nat, T ≤ 1000000 → ∀ w2, Calls Try.prog 56 #[.int .i64 N, .agg #[.int .i64 0, .bool false, .int .i64 1], .agg #[.int .i64 0, .bool false, .int .i64 3], .int .i64 (T : Int)] w2 fun e w' => e = .returned (.bool (meetB N 0 false 1 0 false 3 T)) ∧ Below w2.heap.size w2 w') := Lib.hid (fun T (h : T ≤ 1000000) w2 => siMeet_any N 0 1 0 3 T false false h1g h3g h w2)
    have HA : Hid (∀ T : Nat, T ≤ 1000000 → ∀ w2, Calls Try.prog 46 #[.int .i64 N, .agg #[.int .i64 0, .bool false, .int .i64 1], .int .i64 (T : Int)] w2 fun e w' => e = .returned (.int .i64 (posN N 0 false 1 T : Nat)) ∧ Below w2.heap.size w2 w') := Lib.hid (fun T (h : T ≤ 1000000) w2 => siAt_any N 0 1 T false h1g h w2)
    have HE1 : Hid (∀ k, (∀ j, j < k → midP N j = false) → midP N k = true → k < 100000 → outMiddleMeeting_0 N = ((k + 1 : Nat) : Int) ∧ outMiddleMeeting_1 N = (posN N 0 false 1 (k + 1) : Nat) ∧ outMiddleMeeting_2 N = true) := Lib.hid (fun k h1 h2 h3 => by
      have h4 : soonTo (midP N) 100000 = some k := soonTo_hit h1 h2 h3
      unfold outMiddleMeeting_0 outMiddleMeeting_1 outMiddleMeeting_2 midB
      rw [show (N : Int).toNat = N by omega, hb0, decide_eq_true hn1, h4]; exact ⟨rfl, rfl, rfl⟩)
    have HE2 : Hid ((∀ j, j < 100000 → midP N j = false) → outMiddleMeeting_0 N = 0 ∧ outMiddleMeeting_1 N = 0 ∧ outMiddleMeeting_2 N = false) := Lib.hid (fun h1 => by
      have h4 : soonTo (midP N) 100000 = none := soonTo_miss h1
      unfold outMiddleMeeting_0 outMiddleMeeting_1 outMiddleMeeting_2 midB
      rw [show (N : Int).toNat = N by omega, hb0, decide_eq_true hn1, h4]; exact ⟨rfl, rfl, rfl⟩)
    have HB0 : Hid (Below w.heap.size w ((w.alloc (.cells #[.int .i64 0, .bool false, .int .i64 1] 33)).alloc (.cells #[.int .i64 0, .bool false, .int .i64 3] 33))) := Lib.hid (((Below.refl _ _).alloc (Nat.le_refl _) _).alloc (by rw [alloc_size1]; omega) _)
    have HK : Hid (∀ w2, Below ((w.alloc (.cells #[.int .i64 0, .bool false, .int .i64 1] 33)).alloc (.cells #[.int .i64 0, .bool false, .int .i64 3] 33)).heap.size ((w.alloc (.cells #[.int .i64 0, .bool false, .int .i64 1] 33)).alloc (.cells #[.int .i64 0, .bool false, .int .i64 3] 33)) w2 → BoxS w2 w.heap.size 0 false 1 ∧ BoxS w2 (w.heap.size + 1) 0 false 3 ∧ Below w.heap.size w w2) := Lib.hid (fun w2 h => by
      have k1 : BoxS ((w.alloc (.cells #[.int .i64 0, .bool false, .int .i64 1] 33)).alloc (.cells #[.int .i64 0, .bool false, .int .i64 3] 33)) w.heap.size 0 false 1 := (boxS_new w 0 1 false).below ((Below.refl _ _).alloc (Nat.le_refl _) _)
      have k2 := boxS_new (w.alloc (.cells #[.int .i64 0, .bool false, .int .i64 1] 33)) 0 3 false
      rw [alloc_size1] at k2
      exact ⟨k1.below h, k2.below h, HB0.out.trans (h.mono HB0.out.size)⟩)
    rw [hb0] at HN
    clear hb0 hn1
    go_enter Try.func37, Try.ntmps37
    go_wp2_with fail
    go_at_call 59
    refine HN.out.mono ?_
    rintro e ww ⟨rfl, rfl⟩
    go_wp2_with fail
    go_loopw [7] (fun i wr => ∃ k : Nat, k ≤ 100000 ∧ i = .int .i64 ((k + 1 : Nat) : Int) ∧ Hid (∀ j, j < k → midP N j = false) ∧ Hid (Below ((w.alloc (.cells #[.int .i64 0, .bool false, .int .i64 1] 33)).alloc (.cells #[.int .i64 0, .bool false, .int .i64 3] 33)).heap.size ((w.alloc (.cells #[.int .i64 0, .bool false, .int .i64 1] 33)).alloc (.cells #[.int .i64 0, .bool false, .int .i64 3] 33)) wr)) (fun i _ => 100001 - (intOf i).toNat)
    case atStart => exact ⟨0, Nat.zero_le _, rfl, Lib.hid (fun j h => absurd h (Nat.not_lt_zero _)), Lib.hid (Below.refl _ _)⟩
    case round =>
      obtain ⟨k0, hk, rfl, HN0, HB⟩ := hrel
      obtain ⟨k, hkk⟩ : ∃ k, k = k0 + 1 := ⟨_, rfl⟩
      have HKK := Lib.hid hkk
      rw [← hkk]
      have hk1 : 1 ≤ k := by omega
      have hk2 : k ≤ 100001 := by omega
      clear hkk hk
      obtain ⟨⟨c0, c1, c2⟩, ⟨d0, d1, d2⟩, _⟩ := HK.out _ HB.out
      by_cases hlt : k < 100001
      · have hkT : k ≤ 1000000 := by omega
        have HMk := Lib.hid (HM.out k hkT)
        have HAk := Lib.hid (HA.out k hkT)
        have i2 : (k : Int) ≤ 100000 := by omega
        have HPk : Hid (midP N k0 = meetB N 0 false 1 0 false 3 k) := Lib.hid (by rw [HKK.out]; rfl)
        rcases hcm : meetB N 0 false 1 0 false 3 k with _ | _
        · rw [hcm] at HMk HPk
          have HN2 : Hid (∀ j, j < k0 + 1 → midP N j = false) := Lib.hid (fun j hj => by
            by_cases e : j = k0
            · subst e; exact HPk.out
            · exact HN0.out j (by omega))
          clear hcm
          go_wp2_with fail
          go_at_call 56
          refine (HMk.out _).mono ?_
          rintro e w4 ⟨rfl, bb⟩
          have HB4 : Hid (Below ((w.alloc (.cells #[.int .i64 0, .bool false, .int .i64 1] 33)).alloc (.cells #[.int .i64 0, .bool false, .int .i64 3] 33)).heap.size ((w.alloc (.cells #[.int .i64 0, .bool false, .int .i64 1] 33)).alloc (.cells #[.int .i64 0, .bool false, .int .i64 3] 33)) w4) := Lib.hid (HB.out.trans (bb.mono HB.out.size))
          clear bb c0 c1 c2 d0 d1 d2
          go_wp2
          go_roundw
          case rel => exact ⟨k0 + 1, by have := HKK.out; omega, by have := HKK.out; exact int_eq (by omega), HN2, HB4⟩
          case measure => simp [intOf]; omega
        · rw [hcm] at HMk HPk
          have H0 := Lib.hid (HE1.out k0 HN0.out HPk.out (by have := HKK.out; omega))
          clear hcm
          go_wp2_with fail
          go_at_call 56
          refine (HMk.out _).mono ?_
          rintro e w4 ⟨rfl, bb⟩
          have HB4 : Hid (Below ((w.alloc (.cells #[.int .i64 0, .bool false, .int .i64 1] 33)).alloc (.cells #[.int .i64 0, .bool false, .int .i64 3] 33)).heap.size ((w.alloc (.cells #[.int .i64 0, .bool false, .int .i64 1] 33)).alloc (.cells #[.int .i64 0, .bool false, .int .i64 3] 33)) w4) := Lib.hid (HB.out.trans (bb.mono HB.out.size))
          clear bb c0 c1 c2 d0 d1 d2
          obtain ⟨⟨c0, c1, c2⟩, ⟨d0, d1, d2⟩, _⟩ := HK.out _ HB4.out
          go_wp2_with fail
          go_at_call 46
          refine (HAk.out _).mono ?_
          rintro e w5 ⟨rfl, bb⟩
          have HB5 : Hid (Below ((w.alloc (.cells #[.int .i64 0, .bool false, .int .i64 1] 33)).alloc (.cells #[.int .i64 0, .bool false, .int .i64 3] 33)).heap.size ((w.alloc (.cells #[.int .i64 0, .bool false, .int .i64 1] 33)).alloc (.cells #[.int .i64 0, .bool false, .int .i64 3] 33)) w5) := Lib.hid (HB4.out.trans (bb.mono HB4.out.size))
          clear bb c0 c1 c2 d0 d1 d2
          go_wp2
          go_ret3
          exact ⟨by rw [H0.out.1, H0.out.2.1, H0.out.2.2, ← HKK.out]; exact rfl, (HK.out _ HB5.out).2.2⟩
      · have i2 : ¬ (k : Int) ≤ 100000 := by omega
        have H0 := Lib.hid (HE2.out (fun j hj => HN0.out j (by have := HKK.out; omega)))
        go_wp2
        go_ret3
        exact ⟨by rw [H0.out.1, H0.out.2.1, H0.out.2.2]; exact rfl, (HK.out _ HB.out).2.2⟩

end Go.Proofs.Ytmlamcimncfmcaa
