/- For the walk of FnRowsBeforeOfAll: rows before, counts by ticks: contracts whatever is given, plain facts. -/
import Derived.Test.YtacchefmblfobaaRaa
import Derived.Test.YtacchefmblfobaaQl
import Derived.Test.YtacchefmblfobaaC1LawIsAtRest
import Derived.Test.YtacchefmblfobaaC1LawTickRow
import Derived.Test.YtacchefmblfobaaC1LawsB
import Derived.Test.YtacchefmblfobaaSs
import Derived.Test.YtacchefmblfobaaC1LawBefore
import Derived.Test.YtacchefmblfobaaC1LawCounts
import Derived.Test.YtacchefmblfobaaC1Longest
import Derived.Test.YtacchefmblfobaaQv
namespace Go.Proofs.Ytacchefmblfobaa
open Go.ChangeShapes Go.WideShapes Go.ChangeAt Go.RowKit
open Qs

set_option maxRecDepth 20000 in
theorem implIsAtRest_b (s : ByteArray) (hs : s.size ≤ maxLen) (w : World) :
    Calls Try.prog 21 #[.string s] w fun e w' => e = .returned (.tuple #[.bool (rowB C1.restB s), .bool (C1.goodB s)]) ∧ Below w.heap.size w w' := by
  rcases hg : C1.goodB s with _ | _
  · unfold rowB; rw [hg]
    exact (C1.implIsAtRest_no s hs hg w).mono fun _ _ ⟨h, hw⟩ => ⟨h, hw ▸ Below.refl _ _⟩
  · obtain ⟨h, h1, h2⟩ := row_of hg
    have H := C1.implIsAtRest_yes (bits s) h1 h2 w
    rw [← h] at H
    unfold rowB; rw [hg]
    exact H

def shortB (s : ByteArray) : Bool := C1.goodB s && decide (s.size ≤ 12)
theorem short_of {s : ByteArray} (h : shortB s = true) : s = Rw.str (bits s) ∧ 1 ≤ (bits s).length ∧ (bits s).length ≤ 12 := by
  unfold shortB at h
  simp only [Bool.and_eq_true, decide_eq_true_eq] at h
  obtain ⟨h1, h2, h3⟩ := row_of h.1
  refine ⟨h1, h2, ?_⟩
  have := h.2
  rw [h1, Rw.size_str] at this
  exact this
theorem notShort_of {s : ByteArray} (h : shortB s = false) : C1.notShort s := by
  unfold shortB at h
  rw [Bool.and_eq_false_iff, decide_eq_false_iff_not] at h
  rcases h with h | h
  · exact .inl h
  · exact .inr (by omega)
def befL (s : ByteArray) : List ByteArray := cond (shortB s) (C1.befAll (bits s)) []
def hasBB (s : ByteArray) : Bool := cond (shortB s) (C1.hasB (bits s)) false
theorem befL_yes {s : ByteArray} (h : shortB s = true) : befL s = C1.befAll (bits s) := by unfold befL; rw [h]; rfl
theorem befL_len (s : ByteArray) : (befL s).length ≤ 4096 := by
  rcases h : shortB s with _ | _
  · unfold befL; rw [h]; exact Nat.zero_le _
  · rw [befL_yes h]; exact C1.befAll_len _ (short_of h).2.2
set_option maxRecDepth 20000 in
theorem implRowsBefore_any (s : ByteArray) (hs : s.size ≤ maxLen) (w : World) :
    Calls Try.prog 43 #[.string s] w fun e w' => ∃ v, e = .returned (.tuple #[v, .bool (shortB s)]) ∧ C1.OwnS w' w.heap.size v (befL s) ∧ Below w.heap.size w w' := by
  rcases h : shortB s with _ | _
  · unfold befL; rw [h]; exact C1.implRowsBefore_no s hs (notShort_of h) w
  · obtain ⟨e, h1, h2⟩ := short_of h
    have H := C1.implRowsBefore_yes (bits s) h1 h2 w
    rw [← e] at H; unfold befL; rw [h]; exact H
set_option maxRecDepth 20000 in
theorem specRowsBefore_any (s : ByteArray) (hs : s.size ≤ maxLen) (w : World) :
    Calls Try.prog 44 #[.string s] w fun e w' => ∃ v, e = .returned (.tuple #[v, .bool (shortB s)]) ∧ C1.OwnS w' w.heap.size v (befL s) ∧ Below w.heap.size w w' := by
  rcases h : shortB s with _ | _
  · unfold befL; rw [h]; exact C1.specRowsBefore_no s hs (notShort_of h) w
  · obtain ⟨e, h1, h2⟩ := short_of h
    have H := C1.specRowsBefore_yes (bits s) h1 h2 w
    rw [← e] at H; unfold befL; rw [h]; exact H
set_option maxRecDepth 20000 in
theorem implHasBefore_any (s : ByteArray) (hs : s.size ≤ maxLen) (w : World) :
    Calls Try.prog 45 #[.string s] w fun e w' => e = .returned (.tuple #[.bool (hasBB s), .bool (shortB s)]) ∧ Below w.heap.size w w' := by
  rcases h : shortB s with _ | _
  · unfold hasBB; rw [h]; exact (C1.implHasBefore_no s hs (notShort_of h) w).mono fun e w' hh => ⟨hh.1, by first | exact hh.2 | exact hh.2 ▸ Below.refl _ _⟩
  · obtain ⟨e, h1, h2⟩ := short_of h
    have H := C1.implHasBefore_yes (bits s) h1 h2 w
    rw [← e] at H; unfold hasBB; rw [h]; exact H
set_option maxRecDepth 20000 in
theorem specHasBefore_any (s : ByteArray) (hs : s.size ≤ maxLen) (w : World) :
    Calls Try.prog 46 #[.string s] w fun e w' => e = .returned (.tuple #[.bool (hasBB s), .bool (shortB s)]) ∧ Below w.heap.size w w' := by
  rcases h : shortB s with _ | _
  · unfold hasBB; rw [h]; exact (C1.specHasBefore_no s hs (notShort_of h) w).mono fun e w' hh => ⟨hh.1, hh.2 ▸ Below.refl _ _⟩
  · obtain ⟨e, h1, h2⟩ := short_of h
    have H := C1.specHasBefore_yes (bits s) h1 h2 w
    rw [← e] at H; unfold hasBB; rw [h]; exact H

/-! ### numbers of soldiers up to 12 -/
def fewB (n : Int) : Bool := decide (1 ≤ n ∧ n ≤ 12)
theorem few_of {n : Int} (h : fewB n = true) : ∃ N : Nat, n = (N : Int) ∧ 1 ≤ N ∧ N ≤ 12 := by
  unfold fewB at h
  rw [decide_eq_true_eq] at h
  exact ⟨n.toNat, by omega, by omega, by omega⟩
theorem notFew_of {n : Int} (h : fewB n = false) : ¬ (1 ≤ n ∧ n ≤ 12) := by unfold fewB at h; rwa [decide_eq_false_iff_not] at h
def fewI (f : Nat → Nat) (n : Int) : Int := cond (fewB n) (f n.toNat : Nat) 0
theorem fewI_yes (f : Nat → Nat) (N : Nat) (h1 : 1 ≤ N) (h2 : N ≤ 12) : fewI f (N : Int) = (f N : Nat) := by
  have : fewB (N : Int) = true := by unfold fewB; rw [decide_eq_true_eq]; omega
  unfold fewI; rw [this, Int.toNat_natCast]; rfl
theorem fewI_no {f : Nat → Nat} {n : Int} (h : fewB n = false) : fewI f n = 0 := by unfold fewI; rw [h]; rfl
set_option maxRecDepth 20000 in
theorem implLongestTicks_any (n : Int) (w : World) : Calls Try.prog 50 #[.int .i64 n] w fun e w' => e = .returned (.tuple #[.int .i64 (fewI C1.longest n), .bool (fewB n)]) ∧ Below w.heap.size w w' := by
  rcases h : fewB n with _ | _
  · rw [fewI_no h]; exact (C1.implLongestTicks_no n (notFew_of h) w).mono fun e w' hh => ⟨hh.1, hh.2 ▸ Below.refl _ _⟩
  · obtain ⟨N, rfl, h1, h2⟩ := few_of h
    rw [fewI_yes _ N h1 h2]; exact C1.implLongestTicks_yes N h1 h2 w
set_option maxRecDepth 20000 in
theorem specLongestTicks_any (n : Int) (w : World) : Calls Try.prog 51 #[.int .i64 n] w fun e w' => e = .returned (.tuple #[.int .i64 (fewI C1.longest n), .bool (fewB n)]) ∧ Below w.heap.size w w' := by
  rcases h : fewB n with _ | _
  · rw [fewI_no h]; exact (C1.specLongestTicks_no n (notFew_of h) w).mono fun e w' hh => ⟨hh.1, hh.2 ▸ Below.refl _ _⟩
  · obtain ⟨N, rfl, h1, h2⟩ := few_of h
    rw [fewI_yes _ N h1 h2]; exact C1.specLongestTicks_yes N h1 h2 w
set_option maxRecDepth 20000 in
theorem implSumOfTicks_any (n : Int) (w : World) : Calls Try.prog 54 #[.int .i64 n] w fun e w' => e = .returned (.tuple #[.int .i64 (fewI C1.sumTicks n), .bool (fewB n)]) ∧ Below w.heap.size w w' := by
  rcases h : fewB n with _ | _
  · rw [fewI_no h]; exact (C1.implSumOfTicks_no n (notFew_of h) w).mono fun e w' hh => ⟨hh.1, hh.2 ▸ Below.refl _ _⟩
  · obtain ⟨N, rfl, h1, h2⟩ := few_of h
    rw [fewI_yes _ N h1 h2]; exact C1.implSumOfTicks_yes N h1 h2 w
set_option maxRecDepth 20000 in
theorem specSumOfTicks_any (n : Int) (w : World) : Calls Try.prog 55 #[.int .i64 n] w fun e w' => e = .returned (.tuple #[.int .i64 (fewI C1.sumTicks n), .bool (fewB n)]) ∧ Below w.heap.size w w' := by
  rcases h : fewB n with _ | _
  · rw [fewI_no h]; exact (C1.specSumOfTicks_no n (notFew_of h) w).mono fun e w' hh => ⟨hh.1, hh.2 ▸ Below.refl _ _⟩
  · obtain ⟨N, rfl, h1, h2⟩ := few_of h
    rw [fewI_yes _ N h1 h2]; exact C1.specSumOfTicks_yes N h1 h2 w
/-- the first longest row's number -/
theorem first_ex (n : Nat) : ∃ K, K < 2 ^ n ∧ (Rw.ticksAll n).getD K 0 = C1.longest n ∧ ∀ j, j < K → ¬ (Rw.ticksAll n).getD j 0 = C1.longest n := by
  have hm := (C1.longest_max n).1
  obtain ⟨k, hk, he⟩ := List.getElem_of_mem hm
  have key : ∀ k, k < (Rw.ticksAll n).length → (Rw.ticksAll n).getD k 0 = C1.longest n → ∃ K, K < 2 ^ n ∧ (Rw.ticksAll n).getD K 0 = C1.longest n ∧ ∀ j, j < K → ¬ (Rw.ticksAll n).getD j 0 = C1.longest n := by
    intro k
    induction k using Nat.strongRecOn with
    | _ k ih =>
      intro hk he
      by_cases h : ∃ j, j < k ∧ (Rw.ticksAll n).getD j 0 = C1.longest n
      · obtain ⟨j, hj, hje⟩ := h; exact ih j hj (by omega) hje
      · exact ⟨k, by rw [Rw.length_ticksAll] at hk; exact hk, he, fun j hj hje => h ⟨j, hj, hje⟩⟩
  exact key k hk (by rw [List.getD_eq_getElem?_getD, List.getElem?_eq_getElem hk, Option.getD_some, he])
noncomputable def firstK (n : Nat) : Nat := Classical.choose (first_ex n)
theorem firstK_is (n : Nat) : firstK n < 2 ^ n ∧ (Rw.ticksAll n).getD (firstK n) 0 = C1.longest n ∧ ∀ j, j < firstK n → ¬ (Rw.ticksAll n).getD j 0 = C1.longest n := Classical.choose_spec (first_ex n)
noncomputable def firstS (n : Int) : ByteArray := cond (fewB n) (Rw.str (Rw.make n.toNat (firstK n.toNat))) ByteArray.empty
theorem firstS_yes (N : Nat) (h1 : 1 ≤ N) (h2 : N ≤ 12) : firstS (N : Int) = Rw.str (Rw.make N (firstK N)) := by
  have : fewB (N : Int) = true := by unfold fewB; rw [decide_eq_true_eq]; omega
  unfold firstS; rw [this, Int.toNat_natCast]; rfl
theorem firstS_no {n : Int} (h : fewB n = false) : firstS n = ByteArray.empty := by unfold firstS; rw [h]; rfl
set_option maxRecDepth 20000 in
theorem implFirstLongest_any (n : Int) (w : World) : Calls Try.prog 52 #[.int .i64 n] w fun e w' => e = .returned (.tuple #[.string (firstS n), .bool (fewB n)]) ∧ Below w.heap.size w w' := by
  rcases h : fewB n with _ | _
  · rw [firstS_no h]; exact (C1.implFirstLongest_no n (notFew_of h) w).mono fun e w' hh => ⟨hh.1, hh.2 ▸ Below.refl _ _⟩
  · obtain ⟨N, rfl, h1, h2⟩ := few_of h
    obtain ⟨k1, k2, k3⟩ := firstK_is N
    rw [firstS_yes N h1 h2]; exact C1.implFirstLongest_yes N _ h1 h2 k1 k2 k3 w
set_option maxRecDepth 20000 in
theorem specFirstLongest_any (n : Int) (w : World) : Calls Try.prog 53 #[.int .i64 n] w fun e w' => e = .returned (.tuple #[.string (firstS n), .bool (fewB n)]) ∧ Below w.heap.size w w' := by
  rcases h : fewB n with _ | _
  · rw [firstS_no h]; exact (C1.specFirstLongest_no n (notFew_of h) w).mono fun e w' hh => ⟨hh.1, hh.2 ▸ Below.refl _ _⟩
  · obtain ⟨N, rfl, h1, h2⟩ := few_of h
    obtain ⟨k1, k2, k3⟩ := firstK_is N
    rw [firstS_yes N h1 h2]; exact C1.specFirstLongest_yes N _ h1 h2 k1 k2 k3 w
def cntB (n t : Int) : Bool := fewB n && decide (0 ≤ t ∧ t ≤ 1000)
def cntI (n t : Int) : Int := cond (cntB n t) (C1.countTicks n.toNat t.toNat : Nat) 0
theorem cnt_of {n t : Int} (h : cntB n t = true) : ∃ N M : Nat, n = (N : Int) ∧ t = (M : Int) ∧ 1 ≤ N ∧ N ≤ 12 ∧ M ≤ 1000 := by
  unfold cntB at h
  simp only [Bool.and_eq_true, decide_eq_true_eq] at h
  obtain ⟨N, e, h1, h2⟩ := few_of h.1
  exact ⟨N, t.toNat, e, by omega, h1, h2, by omega⟩
theorem notCnt_of {n t : Int} (h : cntB n t = false) : C1.noCount n t := by
  unfold cntB at h
  rw [Bool.and_eq_false_iff, decide_eq_false_iff_not] at h
  rcases h with h | h
  · exact .inl (notFew_of h)
  · exact .inr h
theorem cntB_yes (N M : Nat) (h1 : 1 ≤ N) (h2 : N ≤ 12) (h3 : M ≤ 1000) : cntB (N : Int) (M : Int) = true := by
  unfold cntB fewB
  simp only [Bool.and_eq_true, decide_eq_true_eq]; omega
theorem cntI_yes (N M : Nat) (h1 : 1 ≤ N) (h2 : N ≤ 12) (h3 : M ≤ 1000) : cntI (N : Int) (M : Int) = (C1.countTicks N M : Nat) := by
  unfold cntI; rw [cntB_yes N M h1 h2 h3, Int.toNat_natCast, Int.toNat_natCast]; rfl
theorem cntI_no {n t : Int} (h : cntB n t = false) : cntI n t = 0 := by unfold cntI; rw [h]; rfl
set_option maxRecDepth 20000 in
theorem implCountByTicks_any (n t : Int) (w : World) : Calls Try.prog 57 #[.int .i64 n, .int .i64 t] w fun e w' => e = .returned (.tuple #[.int .i64 (cntI n t), .bool (cntB n t)]) ∧ Below w.heap.size w w' := by
  rcases h : cntB n t with _ | _
  · rw [cntI_no h]; exact C1.implCountByTicks_no n t (notCnt_of h) w
  · obtain ⟨N, M, rfl, rfl, h1, h2, h3⟩ := cnt_of h
    rw [cntI_yes N M h1 h2 h3]; exact C1.implCountByTicks_yes N M h1 h2 h3 w
set_option maxRecDepth 20000 in
theorem specCountByTicks_any (n t : Int) (w : World) : Calls Try.prog 58 #[.int .i64 n, .int .i64 t] w fun e w' => e = .returned (.tuple #[.int .i64 (cntI n t), .bool (cntB n t)]) ∧ Below w.heap.size w w' := by
  rcases h : cntB n t with _ | _
  · rw [cntI_no h]; exact (C1.specCountByTicks_no n t (notCnt_of h) w).mono fun e w' hh => ⟨hh.1, hh.2 ▸ Below.refl _ _⟩
  · obtain ⟨N, M, rfl, rfl, h1, h2, h3⟩ := cnt_of h
    rw [cntI_yes N M h1 h2 h3]; exact C1.specCountByTicks_yes N M h1 h2 h3 w
def atB (n : Int) : Bool := decide (1 ≤ n ∧ n ≤ 60)
def atI (n : Int) : Int := cond (atB n) (n + 1) 0
set_option maxRecDepth 20000 in
theorem implCountAtRest_any (n : Int) (w : World) : Calls Try.prog 60 #[.int .i64 n] w fun e w' => e = .returned (.tuple #[.int .i64 (atI n), .bool (atB n)]) ∧ Below w.heap.size w w' := by
  by_cases h1 : 1 ≤ n
  · by_cases h2 : n ≤ 60
    · have e : atB n = true := by unfold atB; rw [decide_eq_true_eq]; omega
      have b1 : decide (n < 1) = false := by simp; omega
      have b2 : decide (60 < n) = false := by simp; omega
      have E := Lib.hid e
      clear e
      go_enter Try.func60, Try.ntmps60
      go_wp2
      go_ret2
      exact ⟨by unfold atI; rw [E.out]; rfl, Below.refl _ _⟩
    · have e : atB n = false := by unfold atB; rw [decide_eq_false_iff_not]; omega
      have b1 : decide (n < 1) = false := by simp; omega
      have b2 : decide (60 < n) = true := by simp; omega
      have E := Lib.hid e
      clear e
      go_enter Try.func60, Try.ntmps60
      go_wp2
      go_ret2
      exact ⟨by unfold atI; rw [E.out]; rfl, Below.refl _ _⟩
  · have e : atB n = false := by unfold atB; rw [decide_eq_false_iff_not]; omega
    have b1 : decide (n < 1) = true := by simp; omega
    have E := Lib.hid e
    clear e
    go_enter Try.func60, Try.ntmps60
    go_wp2
    go_ret2
    exact ⟨by unfold atI; rw [E.out]; rfl, Below.refl _ _⟩
set_option maxRecDepth 20000 in
theorem specCountAtRest_any (n : Int) (w : World) : Calls Try.prog 61 #[.int .i64 n] w fun e w' => e = .returned (.tuple #[.int .i64 (atI n), .bool (atB n)]) ∧ Below w.heap.size w w' := by
  rcases e : atB n with _ | _
  · have b3 : C1.inB n 1 60 = false := e
    have E := Lib.hid e
    clear e
    go_enter Try.func61, Try.ntmps61
    go_wp2_with (go_at_call 89; refine (C1.l1In_any _ _ _ _).mono ?_; rintro e w' ⟨rfl, rfl⟩)
    go_ret2
    exact ⟨by unfold atI; rw [E.out]; rfl, Below.refl _ _⟩
  · have b3 : C1.inB n 1 60 = true := e
    have E := Lib.hid e
    have h1 : 1 ≤ n ∧ n ≤ 60 := by unfold atB at e; rwa [decide_eq_true_eq] at e
    obtain ⟨h1, h2⟩ := h1
    clear e
    go_enter Try.func61, Try.ntmps61
    go_wp2_with (go_at_call 89; refine (C1.l1In_any _ _ _ _).mono ?_; rintro e w' ⟨rfl, rfl⟩)
    go_ret2
    exact ⟨by unfold atI; rw [E.out]; rfl, Below.refl _ _⟩
end Go.Proofs.Ytacchefmblfobaa
