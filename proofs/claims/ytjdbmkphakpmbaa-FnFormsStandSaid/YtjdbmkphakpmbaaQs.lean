/- The composite laws' own helpers, on: vRows, mRows (whether two lists of rows are the same). -/
import Derived.Test.YtjdbmkphakpmbaaQl
import Derived.Test.YtjdbmkphakpmbaaCa
namespace Go.Proofs.Ytjdbmkphakpmbaa
open Go.ChangeShapes Go.WideShapes Go.ChangeAt Go.RowKit
open Qs
def smallR (xs : List (List Int)) : Prop := xs.length ≤ 1000000000 ∧ ∀ j, (xs.getD j []).length ≤ 1000000000
theorem smallR_of {xs : List (List Int)} (h : xs.length ≤ 1000000000 ∧ total xs ≤ 1000000000) : smallR xs := ⟨h.1, fun j => by
  by_cases hk : j < xs.length
  · exact Nat.le_trans (row_le_total xs _ (by simp only [List.getD_eq_getElem?_getD, List.getElem?_eq_getElem hk, Option.getD_some]; exact List.getElem_mem hk)) h.2
  · simp [List.getD_eq_getElem?_getD, Nat.le_of_not_lt hk]⟩
set_option maxRecDepth 20000 in
set_option maxHeartbeats 4000000 in
theorem mRows_q (w : World) (a b : Option Addr) (la ca lb cb : Nat) (xs ys : List (List Int)) (h1 : la ≤ 4611686018427387904) (hf : ∀ j, (xs.getD j []).length ≤ 4611686018427387904) (ha : CameSS w a la xs) (hb : CameSS w b lb ys) :
    Calls Try.prog 21 #[.slice a la ca, .slice b lb cb] w fun e w' => e = .returned (.bool (sameR xs ys)) ∧ ∃ m, w' = w.drewN m := by
  have HA := Lib.hid ha
  have HB := Lib.hid hb
  have HF := Lib.hid hf
  by_cases hl : la = lb
  · subst hl
    have HZ : Hid (xs.length = la ∧ ys.length = la) := Lib.hid ⟨ha.1, hb.1⟩
    clear ha hb hf
    go_enter Try.func21, Try.ntmps21
    go_wp2
    go_loopw [13] (fun i wr => ∃ k : Nat, k ≤ la ∧ i = .int .i64 (k : Int) ∧ Hid (∀ j, j < k → sameL (xs.getD j []) (ys.getD j []) = true) ∧ Hid (∃ m, wr = w.drewN m)) (fun i _ => la - (intOf i).toNat)
    case atStart => exact ⟨0, Nat.zero_le _, rfl, Lib.hid (fun j h => absurd h (Nat.not_lt_zero _)), Lib.hid ⟨0, rfl⟩⟩
    case round =>
      obtain ⟨k, hk, rfl, HK, HM⟩ := hrel
      obtain ⟨w2, rfl⟩ : ∃ w2 : World, w2 = wr := ⟨_, rfl⟩
      by_cases hlt : k < la
      · obtain ⟨g1, o1, ak, ck, rfl, hc1, hr1, _, _⟩ := HA.out.at k hlt
        obtain ⟨g2, o2, bk, dk, rfl, hc2, hr2, _, _⟩ := HB.out.at k hlt
        have e3 : ∀ n, (w2.drewN n).cell? ⟨g1, o1 + k, none⟩ = some (.slice ak (xs.getD k []).length ck) := fun n => by obtain ⟨m, e⟩ := HM.out; rw [e]; exact hc1
        have e4 : ∀ n, (w2.drewN n).cell? ⟨g2, o2 + k, none⟩ = some (.slice bk (ys.getD k []).length dk) := fun n => by obtain ⟨m, e⟩ := HM.out; rw [e]; exact hc2
        have HD : Hid (∀ n, ∃ q, w2.drewN n = w.drewN q) := Lib.hid (fun n => by obtain ⟨m, e⟩ := HM.out; exact ⟨m + n, by rw [e]; unfold World.drewN; simp [Nat.add_assoc]⟩)
        have HS : Hid (∀ n, Calls Try.prog 22 #[.slice ak (xs.getD k []).length ck, .slice bk (ys.getD k []).length dk] (w2.drewN n) fun e w' => e = .returned (.bool (sameL (xs.getD k []) (ys.getD k []))) ∧ ∃ m, w' = (w2.drewN n).drewN m) :=
          Lib.hid (fun n => by
            obtain ⟨q, e⟩ := HD.out n
            rw [e]
            exact mSame_q _ _ _ _ _ _ _ _ _ (HF.out k) hr1 hr2)
        have i1 : (0 : Int) ≤ (k : Int) := by omega
        have i2 : (k : Int) < (la : Int) := by omega
        have HN : Hid (sameL (xs.getD k []) (ys.getD k []) = false → sameR xs ys = false) := Lib.hid rows_not
        obtain ⟨t, ht⟩ : ∃ t, t = sameL (xs.getD k []) (ys.getD k []) := ⟨_, rfl⟩
        obtain ⟨l1, hl1⟩ : ∃ t, t = (xs.getD k []).length := ⟨_, rfl⟩
        obtain ⟨l2, hl2⟩ : ∃ t, t = (ys.getD k []).length := ⟨_, rfl⟩
        rw [← hl1] at e3
        rw [← hl2] at e4
        rw [← ht, ← hl1, ← hl2] at HS
        rw [← ht] at HN
        have HT := Lib.hid ht
        clear ht hl1 hl2 hc1 hc2 hr1 hr2
        rcases t with _ | _
        · have HE := Lib.hid (HN.out rfl)
          go_wp2_with fail
          go_quiet ((go_at_call 22; exact Calls.quiet_of (HS.out _)))
          go_wp2
          go_ret
          exact ⟨ret_bool (by rw [HE.out]), HD.out _⟩
        · have HK2 : Hid (∀ j, j < k + 1 → sameL (xs.getD j []) (ys.getD j []) = true) := Lib.hid (fun j hj => by
            by_cases e : j = k
            · rw [e]; exact HT.out.symm
            · exact HK.out j (by omega))
          go_wp2_with fail
          go_quiet ((go_at_call 22; exact Calls.quiet_of (HS.out _)))
          go_wp2
          exact ⟨⟨k + 1, by omega, by go_num, HK2, Lib.hid (HD.out _)⟩, by simp [intOf]; omega⟩
      · have HE := Lib.hid (rows_all (HZ.out.1.trans HZ.out.2.symm) (fun j hj => HK.out j (by have := HZ.out.1; omega)))
        go_wp2
        go_ret
        exact ⟨ret_bool (by rw [HE.out]), HM.out⟩
  · have HE := Lib.hid (rows_len (xs := xs) (ys := ys) (by rw [ha.1, hb.1]; exact hl))
    have hlI : ¬ (la : Int) = (lb : Int) := by omega
    clear ha hb hf
    go_enter Try.func21, Try.ntmps21
    go_wp2
    go_ret
    exact ⟨ret_bool (by rw [HE.out]), 0, rfl⟩
set_option maxRecDepth 20000 in
theorem mRows_own (w : World) (B1 B2 : Nat) (v1 v2 : Value) (xs ys : List (List Int)) (hz : smallR xs) (o1 : OwnSS w B1 v1 xs) (o2 : OwnSS w B2 v2 ys) :
    Calls Try.prog 21 #[v1, v2] w fun e w' => e = .returned (.bool (sameR xs ys)) ∧ Below w.heap.size w w' := by
  obtain ⟨a1, c1, rfl, h1, _⟩ := o1.cameC
  obtain ⟨a2, c2, rfl, h2, _⟩ := o2.cameC
  refine (mRows_q w a1 a2 xs.length c1 ys.length c2 xs ys (by have := hz.1; omega) (fun j => by have := hz.2 j; omega) h1 h2).mono ?_
  rintro e w' ⟨rfl, m, rfl⟩
  exact ⟨rfl, drewN_down w m⟩
set_option maxRecDepth 20000 in
theorem mRows_came (w : World) (B1 : Nat) (v1 : Value) (a : Option Addr) (len cap : Nat) (xs ys : List (List Int)) (hz : smallR xs) (o1 : OwnSS w B1 v1 xs) (h2 : CameSS w a len ys) :
    Calls Try.prog 21 #[v1, .slice a len cap] w fun e w' => e = .returned (.bool (sameR xs ys)) ∧ Below w.heap.size w w' := by
  obtain ⟨a1, c1, rfl, h1, _⟩ := o1.cameC
  refine (mRows_q w a1 a xs.length c1 len cap xs ys (by have := hz.1; omega) (fun j => by have := hz.2 j; omega) h1 h2).mono ?_
  rintro e w' ⟨rfl, m, rfl⟩
  exact ⟨rfl, drewN_down w m⟩
set_option maxRecDepth 20000 in
theorem mRows_small (w : World) (a b : Option Addr) (la ca lb cb : Nat) (xs ys : List (List Int)) (hz : smallR xs) (ha : CameSS w a la xs) (hb : CameSS w b lb ys) :
    Calls Try.prog 21 #[.slice a la ca, .slice b lb cb] w fun e w' => e = .returned (.bool (sameR xs ys)) ∧ Below w.heap.size w w' := by
  refine (mRows_q w a b la ca lb cb xs ys (by have := hz.1; have := ha.1; omega) (fun j => by have := hz.2 j; omega) ha hb).mono ?_
  rintro e w' ⟨rfl, m, rfl⟩
  exact ⟨rfl, drewN_down w m⟩

end Go.Proofs.Ytjdbmkphakpmbaa
