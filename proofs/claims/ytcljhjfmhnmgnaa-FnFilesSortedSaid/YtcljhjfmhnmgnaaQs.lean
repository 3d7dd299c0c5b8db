/- The composite laws' own helpers: vSame, vRows (whether two lists, two lists of rows are the same). -/
import Derived.Test.YtcljhjfmhnmgnaaCa
import Derived.Test.YtcljhjfmhnmgnaaDrew
import Derived.Test.YtcljhjfmhnmgnaaUp
import Derived.Deep.QuietTactic
namespace Go.Proofs.Ytcljhjfmhnmgnaa
open Go.ChangeShapes Go.WideShapes Go.ChangeAt Go.RowKit

namespace Qs
def sameL (xs ys : List Int) : Bool := decide (xs = ys)
def sameR (xs ys : List (List Int)) : Bool := decide (xs = ys)
theorem same_len {xs ys : List Int} (h : xs.length ≠ ys.length) : sameL xs ys = false := decide_eq_false (fun e => h (by rw [e]))
theorem same_not {xs ys : List Int} {k : Nat} (h : xs.getD k 0 ≠ ys.getD k 0) : sameL xs ys = false := decide_eq_false (fun e => h (by rw [e]))
theorem same_all {xs ys : List Int} (hl : xs.length = ys.length) (h : ∀ j, j < xs.length → xs.getD j 0 = ys.getD j 0) : sameL xs ys = true := decide_eq_true (ext_getD 0 hl h)
theorem rows_len {xs ys : List (List Int)} (h : xs.length ≠ ys.length) : sameR xs ys = false := decide_eq_false (fun e => h (by rw [e]))
theorem rows_not {xs ys : List (List Int)} {k : Nat} (h : sameL (xs.getD k []) (ys.getD k []) = false) : sameR xs ys = false := decide_eq_false (fun e => by rw [e] at h; exact of_decide_eq_false h rfl)
theorem rows_all {xs ys : List (List Int)} (hl : xs.length = ys.length) (h : ∀ j, j < xs.length → sameL (xs.getD j []) (ys.getD j []) = true) : sameR xs ys = true := decide_eq_true (ext_getD [] hl (fun j hj => of_decide_eq_true (h j hj)))
end Qs
open Qs
def smallR (xs : List (List Int)) : Prop := xs.length ≤ 1000000000 ∧ ∀ j, (xs.getD j []).length ≤ 1000000000
theorem smallR_of {xs : List (List Int)} (h : xs.length ≤ 1000000000 ∧ total xs ≤ 1000000000) : smallR xs := ⟨h.1, fun j => by
  by_cases hk : j < xs.length
  · exact Nat.le_trans (row_le_total xs _ (by simp only [List.getD_eq_getElem?_getD, List.getElem?_eq_getElem hk, Option.getD_some]; exact List.getElem_mem hk)) h.2
  · simp [List.getD_eq_getElem?_getD, Nat.le_of_not_lt hk]⟩
theorem sameR_refl (xs : List (List Int)) : sameR xs xs = true := decide_eq_true rfl
theorem sameL_refl (xs : List Int) : sameL xs xs = true := decide_eq_true rfl

set_option maxRecDepth 20000 in
set_option maxHeartbeats 2000000 in
theorem vSame_q (w : World) (a b : Option Addr) (la ca lb cb : Nat) (xs ys : List Int) (h1 : la ≤ 4611686018427387904) (ha : Came w a la xs) (hb : Came w b lb ys) :
    Calls Try.prog 50 #[.slice a la ca, .slice b lb cb] w fun e w' => e = .returned (.bool (sameL xs ys)) ∧ ∃ m, w' = w.drewN m := by
  have HA := Lib.hid ha
  have HB := Lib.hid hb
  by_cases hl : la = lb
  · subst hl
    have HZ : Hid (xs.length = la ∧ ys.length = la) := Lib.hid ⟨ha.1, hb.1⟩
    clear ha hb
    go_enter Try.func50, Try.ntmps50
    go_wp2
    go_loopw [13] (fun i wr => ∃ k : Nat, k ≤ la ∧ i = .int .i64 (k : Int) ∧ Hid (∀ j, j < k → xs.getD j 0 = ys.getD j 0) ∧ Hid (∃ m, wr = w.drewN m)) (fun i _ => la - (intOf i).toNat)
    case atStart => exact ⟨0, Nat.zero_le _, rfl, Lib.hid (fun j h => absurd h (Nat.not_lt_zero _)), Lib.hid ⟨0, rfl⟩⟩
    case round =>
      obtain ⟨k, hk, rfl, HK, HM⟩ := hrel
      obtain ⟨w2, rfl⟩ : ∃ w2 : World, w2 = wr := ⟨_, rfl⟩
      by_cases hlt : k < la
      · obtain ⟨g1, o1, rfl, hc1⟩ := HA.out.2 (by omega)
        obtain ⟨g2, o2, rfl, hc2⟩ := HB.out.2 (by omega)
        have e3 : ∀ n, (w2.drewN n).cell? ⟨g1, o1 + k, none⟩ = some (.int .i64 (xs.getD k 0)) := fun n => by obtain ⟨m, e⟩ := HM.out; rw [e]; exact hc1 k hlt
        have e4 : ∀ n, (w2.drewN n).cell? ⟨g2, o2 + k, none⟩ = some (.int .i64 (ys.getD k 0)) := fun n => by obtain ⟨m, e⟩ := HM.out; rw [e]; exact hc2 k hlt
        have HD : Hid (∀ n, ∃ q, w2.drewN n = w.drewN q) := Lib.hid (fun n => by obtain ⟨m, e⟩ := HM.out; exact ⟨m + n, by rw [e]; unfold World.drewN; simp [Nat.add_assoc]⟩)
        have i1 : (0 : Int) ≤ (k : Int) := by omega
        have i2 : (k : Int) < (la : Int) := by omega
        have HN : Hid (xs.getD k 0 ≠ ys.getD k 0 → sameL xs ys = false) := Lib.hid same_not
        obtain ⟨x, hx⟩ : ∃ x, x = xs.getD k 0 := ⟨_, rfl⟩
        obtain ⟨y, hy⟩ : ∃ x, x = ys.getD k 0 := ⟨_, rfl⟩
        rw [← hx] at e3 HN
        rw [← hy] at e4 HN
        have HX := Lib.hid hx
        have HY := Lib.hid hy
        clear hx hy hc1 hc2
        by_cases hxy : x = y
        · subst hxy
          have HK2 : Hid (∀ j, j < k + 1 → xs.getD j 0 = ys.getD j 0) := Lib.hid (fun j hj => by
            by_cases e : j = k
            · rw [e, ← HX.out, ← HY.out]
            · exact HK.out j (by omega))
          go_wp2_with fail
          go_quiet (fail)
          go_wp2
          exact ⟨⟨k + 1, by omega, by go_num, HK2, Lib.hid (HD.out _)⟩, by simp [intOf]; omega⟩
        · have HE := Lib.hid (HN.out hxy)
          go_wp2_with fail
          go_quiet (fail)
          go_wp2
          go_ret
          exact ⟨ret_bool (by rw [HE.out]), HD.out _⟩
      · have HE := Lib.hid (same_all (HZ.out.1.trans HZ.out.2.symm) (fun j hj => HK.out j (by have := HZ.out.1; omega)))
        go_wp2
        go_ret
        exact ⟨ret_bool (by rw [HE.out]), HM.out⟩
  · have HE := Lib.hid (same_len (xs := xs) (ys := ys) (by rw [ha.1, hb.1]; exact hl))
    have hlI : ¬ (la : Int) = (lb : Int) := by omega
    clear ha hb
    go_enter Try.func50, Try.ntmps50
    go_wp2
    go_ret
    exact ⟨ret_bool (by rw [HE.out]), 0, rfl⟩

set_option maxRecDepth 20000 in
set_option maxHeartbeats 4000000 in
theorem vRows_q (w : World) (a b : Option Addr) (la ca lb cb : Nat) (xs ys : List (List Int)) (h1 : la ≤ 4611686018427387904) (hf : ∀ j, (xs.getD j []).length ≤ 4611686018427387904) (ha : CameSS w a la xs) (hb : CameSS w b lb ys) :
    Calls Try.prog 23 #[.slice a la ca, .slice b lb cb] w fun e w' => e = .returned (.bool (sameR xs ys)) ∧ ∃ m, w' = w.drewN m := by
  have HA := Lib.hid ha
  have HB := Lib.hid hb
  have HF := Lib.hid hf
  by_cases hl : la = lb
  · subst hl
    have HZ : Hid (xs.length = la ∧ ys.length = la) := Lib.hid ⟨ha.1, hb.1⟩
    clear ha hb hf
    go_enter Try.func23, Try.ntmps23
    go_wp2
    go_loopw [13] (fun i wr => ∃ k : Nat, k ≤ la ∧ i = .int .i64 (k : Int) ∧ Hid (∀ j, j < k → sameL (xs.getD j []) (ys.getD j []) = true) ∧ Hid (∃ m, wr = w.drewN m)) (fun i _ => la - (intOf i).toNat)
    case atStart => exact ⟨0, Nat.zero_le _, rfl, Lib.hid (fun j h => absurd h (Nat.not_lt_zero _)), Lib.hid ⟨0, rfl⟩⟩
    case round =>
      obtain ⟨k, hk, rfl, HK, HM⟩ := hrel
      obtain ⟨w2, rfl⟩ : ∃ w2 : World, w2 = wr := ⟨_, rfl⟩
      by_cases hlt : k < la
      · obtain ⟨g1, o1, ak, ck, rfl, hc1, hr1, _, _⟩ := HA.out.at k hlt
        obtain ⟨g2, o2, bk, dk, rfl, hc2, hr2, _, _⟩ := HB.out.at k hlt
        have e3 : ∀ n, (w2.drewN n).cell? ⟨g1, o1 + k, none⟩ = some (.slice ak (xs.getD k []).length ck) := fun n => by obtain ⟨m, e⟩ := HM.out; rw [e]; exact hc1
        have e4 : ∀ n, (w2.drewN n).cell? ⟨g2, o2 + k, none⟩ = some (.slice bk (ys.getD k []).length dk) := fun n => by obtain ⟨m, e⟩ := HM.out; rw [e]; exact hc2
        have HD : Hid (∀ n, ∃ q, w2.drewN n = w.drewN q) := Lib.hid (fun n => by obtain ⟨m, e⟩ := HM.out; exact ⟨m + n, by rw [e]; unfold World.drewN; simp [Nat.add_assoc]⟩)
        have HS : Hid (∀ n, Calls Try.prog 50 #[.slice ak (xs.getD k []).length ck, .slice bk (ys.getD k []).length dk] (w2.drewN n) fun e w' => e = .returned (.bool (sameL (xs.getD k []) (ys.getD k []))) ∧ ∃ m, w' = (w2.drewN n).drewN m) :=
          Lib.hid (fun n => by
            obtain ⟨q, e⟩ := HD.out n
            rw [e]
            exact vSame_q _ _ _ _ _ _ _ _ _ (HF.out k) hr1 hr2)
        have i1 : (0 : Int) ≤ (k : Int) := by omega
        have i2 : (k : Int) < (la : Int) := by omega
        have HN : Hid (sameL (xs.getD k []) (ys.getD k []) = false → sameR xs ys = false) := Lib.hid rows_not
        obtain ⟨t, ht⟩ : ∃ t, t = sameL (xs.getD k []) (ys.getD k []) := ⟨_, rfl⟩
        obtain ⟨l1, hl1⟩ : ∃ t, t = (xs.getD k []).length := ⟨_, rfl⟩
        obtain ⟨l2, hl2⟩ : ∃ t, t = (ys.getD k []).length := ⟨_, rfl⟩
        rw [← hl1] at e3
        rw [← hl2] at e4
        rw [← ht, ← hl1, ← hl2] at HS
        rw [← ht] at HN
        have HT := Lib.hid ht
        clear ht hl1 hl2 hc1 hc2 hr1 hr2
        rcases t with _ | _
        · have HE := Lib.hid (HN.out rfl)
          go_wp2_with fail
          go_quiet ((go_at_call 50; exact Calls.quiet_of (HS.out _)))
          go_wp2
          go_ret
          exact ⟨ret_bool (by rw [HE.out]), HD.out _⟩
        · have HK2 : Hid (∀ j, j < k + 1 → sameL (xs.getD j []) (ys.getD j []) = true) := Lib.hid (fun j hj => by
            by_cases e : j = k
            · rw [e]; exact HT.out.symm
            · exact HK.out j (by omega))
          go_wp2_with fail
          go_quiet ((go_at_call 50; exact Calls.quiet_of (HS.out _)))
          go_wp2
          exact ⟨⟨k + 1, by omega, by go_num, HK2, Lib.hid (HD.out _)⟩, by simp [intOf]; omega⟩
      · have HE := Lib.hid (rows_all (HZ.out.1.trans HZ.out.2.symm) (fun j hj => HK.out j (by have := HZ.out.1; omega)))
        go_wp2
        go_ret
        exact ⟨ret_bool (by rw [HE.out]), HM.out⟩
  · have HE := Lib.hid (rows_len (xs := xs) (ys := ys) (by rw [ha.1, hb.1]; exact hl))
    have hlI : ¬ (la : Int) = (lb : Int) := by omega
    clear ha hb hf
    go_enter Try.func23, Try.ntmps23
    go_wp2
    go_ret
    exact ⟨ret_bool (by rw [HE.out]), 0, rfl⟩

set_option maxRecDepth 20000 in
theorem vRows_own (w : World) (B1 B2 : Nat) (v1 v2 : Value) (xs ys : List (List Int)) (hz : smallR xs) (o1 : OwnSS w B1 v1 xs) (o2 : OwnSS w B2 v2 ys) :
    Calls Try.prog 23 #[v1, v2] w fun e w' => e = .returned (.bool (sameR xs ys)) ∧ Below w.heap.size w w' := by
  obtain ⟨a1, c1, rfl, h1, _⟩ := o1.cameC
  obtain ⟨a2, c2, rfl, h2, _⟩ := o2.cameC
  refine (vRows_q w a1 a2 xs.length c1 ys.length c2 xs ys (by have := hz.1; omega) (fun j => by have := hz.2 j; omega) h1 h2).mono ?_
  rintro e w' ⟨rfl, m, rfl⟩
  exact ⟨rfl, drewN_down w m⟩
set_option maxRecDepth 20000 in
theorem vRows_came (w : World) (B1 : Nat) (v1 : Value) (a : Option Addr) (len cap : Nat) (xs ys : List (List Int)) (hz : smallR xs) (o1 : OwnSS w B1 v1 xs) (h2 : CameSS w a len ys) :
    Calls Try.prog 23 #[v1, .slice a len cap] w fun e w' => e = .returned (.bool (sameR xs ys)) ∧ Below w.heap.size w w' := by
  obtain ⟨a1, c1, rfl, h1, _⟩ := o1.cameC
  refine (vRows_q w a1 a xs.length c1 len cap xs ys (by have := hz.1; omega) (fun j => by have := hz.2 j; omega) h1 h2).mono ?_
  rintro e w' ⟨rfl, m, rfl⟩
  exact ⟨rfl, drewN_down w m⟩

namespace Qs
def riseB (xs : List Int) : Bool := (List.range (xs.length - 1)).all fun k => decide (xs.getD k 0 < xs.getD (k + 1) 0)
theorem riseB_yes {xs : List Int} (h : ∀ j, j + 1 < xs.length → xs.getD j 0 < xs.getD (j + 1) 0) : riseB xs = true := by
  unfold riseB
  rw [List.all_eq_true]
  intro k hk
  have hk := List.mem_range.1 hk
  rw [decide_eq_true_eq]
  exact h k (by omega)
theorem riseB_no {xs : List Int} {j : Nat} (hj : j + 1 < xs.length) (h : ¬ xs.getD j 0 < xs.getD (j + 1) 0) : riseB xs = false := by
  unfold riseB
  rw [List.all_eq_false]
  exact ⟨j, List.mem_range.2 (by omega), by rw [decide_eq_false h]; decide⟩
theorem riseB_of {xs : List Int} (h : xs.Pairwise (· < ·)) : riseB xs = true := by
  refine riseB_yes fun k hk => ?_
  rw [List.pairwise_iff_getElem] at h
  have := h k (k + 1) (by omega) hk (by omega)
  simpa [List.getD_eq_getElem?_getD, List.getElem?_eq_getElem (show k < xs.length by omega), List.getElem?_eq_getElem hk] using this
end Qs
set_option maxRecDepth 20000 in
theorem vRows_small (w : World) (a b : Option Addr) (la ca lb cb : Nat) (xs ys : List (List Int)) (hz : smallR xs) (ha : CameSS w a la xs) (hb : CameSS w b lb ys) :
    Calls Try.prog 23 #[.slice a la ca, .slice b lb cb] w fun e w' => e = .returned (.bool (sameR xs ys)) ∧ Below w.heap.size w w' := by
  refine (vRows_q w a b la ca lb cb xs ys (by have := hz.1; have := ha.1; omega) (fun j => by have := hz.2 j; omega) ha hb).mono ?_
  rintro e w' ⟨rfl, m, rfl⟩
  exact ⟨rfl, drewN_down w m⟩
set_option maxRecDepth 20000 in
theorem vSame_small (w : World) (a b : Option Addr) (la ca lb cb : Nat) (xs ys : List Int) (h1 : la ≤ 4611686018427387904) (ha : Came w a la xs) (hb : Came w b lb ys) :
    Calls Try.prog 50 #[.slice a la ca, .slice b lb cb] w fun e w' => e = .returned (.bool (sameL xs ys)) ∧ Below w.heap.size w w' := by
  refine (vSame_q w a b la ca lb cb xs ys h1 ha hb).mono ?_
  rintro e w' ⟨rfl, m, rfl⟩
  exact ⟨rfl, drewN_down w m⟩

end Go.Proofs.Ytcljhjfmhnmgnaa
