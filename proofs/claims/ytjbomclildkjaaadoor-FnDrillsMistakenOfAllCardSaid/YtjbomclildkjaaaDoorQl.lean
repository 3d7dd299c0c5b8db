/- The composite laws' own helpers: lists alone: vSame, vRises, mSame, mRises. -/
import Derived.Test.YtjbomclildkjaaaDoorOwn
import Derived.Test.YtjbomclildkjaaaDoorDrew
import Derived.Test.YtjbomclildkjaaaDoorUp
import Derived.Deep.QuietTactic
namespace Go.Proofs.YtjbomclildkjaaaDoor
open Go.ChangeShapes Go.WideShapes Go.ChangeAt Go.RowKit

namespace Qs
def sameL (xs ys : List Int) : Bool := decide (xs = ys)
def sameR (xs ys : List (List Int)) : Bool := decide (xs = ys)
theorem same_len {xs ys : List Int} (h : xs.length ≠ ys.length) : sameL xs ys = false := decide_eq_false (fun e => h (by rw [e]))
theorem same_not {xs ys : List Int} {k : Nat} (h : xs.getD k 0 ≠ ys.getD k 0) : sameL xs ys = false := decide_eq_false (fun e => h (by rw [e]))
theorem same_all {xs ys : List Int} (hl : xs.length = ys.length) (h : ∀ j, j < xs.length → xs.getD j 0 = ys.getD j 0) : sameL xs ys = true := decide_eq_true (ext_getD 0 hl h)
theorem rows_len {xs ys : List (List Int)} (h : xs.length ≠ ys.length) : sameR xs ys = false := decide_eq_false (fun e => h (by rw [e]))
theorem rows_not {xs ys : List (List Int)} {k : Nat} (h : sameL (xs.getD k []) (ys.getD k []) = false) : sameR xs ys = false := decide_eq_false (fun e => by rw [e] at h; exact of_decide_eq_false h rfl)
theorem rows_all {xs ys : List (List Int)} (hl : xs.length = ys.length) (h : ∀ j, j < xs.length → sameL (xs.getD j []) (ys.getD j []) = true) : sameR xs ys = true := decide_eq_true (ext_getD [] hl (fun j hj => of_decide_eq_true (h j hj)))
end Qs
open Qs
theorem sameR_refl (xs : List (List Int)) : sameR xs xs = true := decide_eq_true rfl
theorem sameL_refl (xs : List Int) : sameL xs xs = true := decide_eq_true rfl


namespace Qs
def riseB (xs : List Int) : Bool := (List.range (xs.length - 1)).all fun k => decide (xs.getD k 0 < xs.getD (k + 1) 0)
theorem riseB_yes {xs : List Int} (h : ∀ j, j + 1 < xs.length → xs.getD j 0 < xs.getD (j + 1) 0) : riseB xs = true := by
  unfold riseB
  rw [List.all_eq_true]
  intro k hk
  have hk := List.mem_range.1 hk
  rw [decide_eq_true_eq]
  exact h k (by omega)
theorem riseB_no {xs : List Int} {j : Nat} (hj : j + 1 < xs.length) (h : ¬ xs.getD j 0 < xs.getD (j + 1) 0) : riseB xs = false := by
  unfold riseB
  rw [List.all_eq_false]
  exact ⟨j, List.mem_range.2 (by omega), by rw [decide_eq_false h]; decide⟩
theorem riseB_of {xs : List Int} (h : xs.Pairwise (· < ·)) : riseB xs = true := by
  refine riseB_yes fun k hk => ?_
  rw [List.pairwise_iff_getElem] at h
  have := h k (k + 1) (by omega) hk (by omega)
  simpa [List.getD_eq_getElem?_getD, List.getElem?_eq_getElem (show k < xs.length by omega), List.getElem?_eq_getElem hk] using this
end Qs
set_option maxRecDepth 20000 in
set_option maxHeartbeats 2000000 in
theorem vSame_q (w : World) (a b : Option Addr) (la ca lb cb : Nat) (xs ys : List Int) (h1 : la ≤ 4611686018427387904) (ha : Came w a la xs) (hb : Came w b lb ys) :
    Calls Tryd.prog 44 #[.slice a la ca, .slice b lb cb] w fun e w' => e = .returned (.bool (sameL xs ys)) ∧ ∃ m, w' = w.drewN m := by
  have HA := Lib.hid ha
  have HB := Lib.hid hb
  by_cases hl : la = lb
  · subst hl
    have HZ : Hid (xs.length = la ∧ ys.length = la) := Lib.hid ⟨ha.1, hb.1⟩
    clear ha hb
    go_enter Tryd.func44, Tryd.ntmps44
    go_wp2
    go_loopw [13] (fun i wr => ∃ k : Nat, k ≤ la ∧ i = .int .i64 (k : Int) ∧ Hid (∀ j, j < k → xs.getD j 0 = ys.getD j 0) ∧ Hid (∃ m, wr = w.drewN m)) (fun i _ => la - (intOf i).toNat)
    case atStart => exact ⟨0, Nat.zero_le _, rfl, Lib.hid (fun j h => absurd h (Nat.not_lt_zero _)), Lib.hid ⟨0, rfl⟩⟩
    case round =>
      obtain ⟨k, hk, rfl, HK, HM⟩ := hrel
      obtain ⟨w2, rfl⟩ : ∃ w2 : World, w2 = wr := ⟨_, rfl⟩
      by_cases hlt : k < la
      · obtain ⟨g1, o1, rfl, hc1⟩ := HA.out.2 (by omega)
        obtain ⟨g2, o2, rfl, hc2⟩ := HB.out.2 (by omega)
        have e3 : ∀ n, (w2.drewN n).cell? ⟨g1, o1 + k, none⟩ = some (.int .i64 (xs.getD k 0)) := fun n => by obtain ⟨m, e⟩ := HM.out; rw [e]; exact hc1 k hlt
        have e4 : ∀ n, (w2.drewN n).cell? ⟨g2, o2 + k, none⟩ = some (.int .i64 (ys.getD k 0)) := fun n => by obtain ⟨m, e⟩ := HM.out; rw [e]; exact hc2 k hlt
        have HD : Hid (∀ n, ∃ q, w2.drewN n = w.drewN q) := Lib.hid (fun n => by obtain ⟨m, e⟩ := HM.out; exact ⟨m + n, by rw [e]; unfold World.drewN; simp [Nat.add_assoc]⟩)
        have i1 : (0 : Int) ≤ (k : Int) := by omega
        have i2 : (k : Int) < (la : Int) := by omega
        have HN : Hid (xs.getD k 0 ≠ ys.getD k 0 → sameL xs ys = false) := Lib.hid same_not
        obtain ⟨x, hx⟩ : ∃ x, x = xs.getD k 0 := ⟨_, rfl⟩
        obtain ⟨y, hy⟩ : ∃ x, x = ys.getD k 0 := ⟨_, rfl⟩
        rw [← hx] at e3 HN
        rw [← hy] at e4 HN
        have HX := Lib.hid hx
        have HY := Lib.hid hy
        clear hx hy hc1 hc2
        by_cases hxy : x = y
        · subst hxy
          have HK2 : Hid (∀ j, j < k + 1 → xs.getD j 0 = ys.getD j 0) := Lib.hid (fun j hj => by
            by_cases e : j = k
            · rw [e, ← HX.out, ← HY.out]
            · exact HK.out j (by omega))
          go_wp2_with fail
          go_quiet (fail)
          go_wp2
          exact ⟨⟨k + 1, by omega, by go_num, HK2, Lib.hid (HD.out _)⟩, by simp [intOf]; omega⟩
        · have HE := Lib.hid (HN.out hxy)
          go_wp2_with fail
          go_quiet (fail)
          go_wp2
          go_ret
          exact ⟨ret_bool (by rw [HE.out]), HD.out _⟩
      · have HE := Lib.hid (same_all (HZ.out.1.trans HZ.out.2.symm) (fun j hj => HK.out j (by have := HZ.out.1; omega)))
        go_wp2
        go_ret
        exact ⟨ret_bool (by rw [HE.out]), HM.out⟩
  · have HE := Lib.hid (same_len (xs := xs) (ys := ys) (by rw [ha.1, hb.1]; exact hl))
    have hlI : ¬ (la : Int) = (lb : Int) := by omega
    clear ha hb
    go_enter Tryd.func44, Tryd.ntmps44
    go_wp2
    go_ret
    exact ⟨ret_bool (by rw [HE.out]), 0, rfl⟩
set_option maxRecDepth 20000 in
theorem vSame_small (w : World) (a b : Option Addr) (la ca lb cb : Nat) (xs ys : List Int) (h1 : la ≤ 4611686018427387904) (ha : Came w a la xs) (hb : Came w b lb ys) :
    Calls Tryd.prog 44 #[.slice a la ca, .slice b lb cb] w fun e w' => e = .returned (.bool (sameL xs ys)) ∧ Below w.heap.size w w' := by
  refine (vSame_q w a b la ca lb cb xs ys h1 ha hb).mono ?_
  rintro e w' ⟨rfl, m, rfl⟩
  exact ⟨rfl, drewN_down w m⟩
set_option maxRecDepth 20000 in
set_option maxHeartbeats 2000000 in
theorem vRises_q (w : World) (a : Option Addr) (la ca : Nat) (xs : List Int) (h1 : la ≤ 4611686018427387904) (ha : Came w a la xs) :
    Calls Tryd.prog 45 #[.slice a la ca] w fun e w' => e = .returned (.bool (riseB xs)) ∧ Below w.heap.size w w' := by
  have HA := Lib.hid ha
  have HZ : Hid (xs.length = la) := Lib.hid ha.1
  clear ha
  go_enter Tryd.func45, Tryd.ntmps45
  go_wp2
  go_loopw [3] (fun i wr => ∃ k : Nat, (k + 1 ≤ la ∨ k = 0) ∧ i = .int .i64 ((k : Int) + 1) ∧ Hid (∀ j, j < k → xs.getD j 0 < xs.getD (j + 1) 0) ∧ Hid (∃ m, wr = w.drewN m)) (fun i _ => la + 1 - (intOf i).toNat)
  case atStart => exact ⟨0, .inr rfl, rfl, Lib.hid (fun j h => absurd h (Nat.not_lt_zero _)), Lib.hid ⟨0, rfl⟩⟩
  case round =>
    obtain ⟨k, hk, rfl, HK, HM⟩ := hrel
    obtain ⟨w2, rfl⟩ : ∃ w2 : World, w2 = wr := ⟨_, rfl⟩
    by_cases hlt : k + 1 < la
    · obtain ⟨g1, o1, rfl, hc1⟩ := HA.out.2 (by omega)
      have e3 : ∀ n, (w2.drewN n).cell? ⟨g1, o1 + k, none⟩ = some (.int .i64 (xs.getD k 0)) := fun n => by obtain ⟨m, e⟩ := HM.out; rw [e]; exact hc1 k (by omega)
      have e4 : ∀ n, (w2.drewN n).cell? ⟨g1, o1 + (k + 1), none⟩ = some (.int .i64 (xs.getD (k + 1) 0)) := fun n => by obtain ⟨m, e⟩ := HM.out; rw [e]; exact hc1 (k + 1) hlt
      have HD : Hid (∀ n, ∃ q, w2.drewN n = w.drewN q) := Lib.hid (fun n => by obtain ⟨m, e⟩ := HM.out; exact ⟨m + n, by rw [e]; unfold World.drewN; simp [Nat.add_assoc]⟩)
      have i0 : (k : Int) + 1 < (la : Int) := by omega
      have i1 : (0 : Int) ≤ (k : Int) := by omega
      have i2 : (k : Int) < (la : Int) := by omega
      have i3 : (0 : Int) ≤ (k : Int) + 1 := by omega
      have HN : Hid (¬ xs.getD k 0 < xs.getD (k + 1) 0 → riseB xs = false) := Lib.hid (riseB_no (by rw [HZ.out]; exact hlt))
      have HS : Hid (xs.getD k 0 < xs.getD (k + 1) 0 → ∀ j, j < k + 1 → xs.getD j 0 < xs.getD (j + 1) 0) := Lib.hid (fun h j hj => by
        by_cases e : j = k
        · rw [e]; exact h
        · exact HK.out j (by omega))
      obtain ⟨x, hx⟩ : ∃ x, x = xs.getD k 0 := ⟨_, rfl⟩
      obtain ⟨y, hy⟩ : ∃ x, x = xs.getD (k + 1) 0 := ⟨_, rfl⟩
      rw [← hx] at e3 HN HS
      rw [← hy] at e4 HN HS
      clear hx hy hc1
      by_cases hxy : x < y
      · have HK2 := Lib.hid (HS.out hxy)
        go_wp2_with fail
        go_quiet (fail)
        go_wp2
        exact ⟨⟨k + 1, .inl hlt, by go_num, HK2, Lib.hid (HD.out _)⟩, by simp [intOf]; omega⟩
      · have HE := Lib.hid (HN.out hxy)
        go_wp2_with fail
        go_quiet (fail)
        go_wp2
        go_ret
        obtain ⟨m, hm⟩ := HD.out _
        exact ⟨ret_bool (by rw [HE.out]), by rw [hm]; exact drewN_down w m⟩
    · have HE := Lib.hid (riseB_yes (fun j hj => HK.out j (by have := HZ.out; omega)))
      have i0 : ¬ (k : Int) + 1 < (la : Int) := by omega
      go_wp2
      go_ret
      obtain ⟨m, hm⟩ := HM.out
      exact ⟨ret_bool (by rw [HE.out]), by rw [hm]; exact drewN_down w m⟩

end Go.Proofs.YtjbomclildkjaaaDoor
