/- Chapter 2, the model: heLook, FirstBySeen. -/
import Derived.Test.YtkolkigpppfhcaaPmd
import Derived.Test.YtkolkigpppfhcaaHas
import Derived.Test.YtkolkigpppfhcaaOw
namespace Go.Proofs.Ytkolkigpppfhcaa
open Go.ChangeShapes Go.WideShapes Go.ChangeAt Go.RowKit
open Has

namespace Pm
theorem own_open {w : World} {B : Nat} {v : Value} {zs : List Int} (h : Own w B v zs) : ∃ ao cap, v = .slice ao zs.length cap ∧ Came w ao zs.length zs ∧ (ao = none → zs.length = 0 ∧ cap = 0) := by
  rcases h.shape with ⟨e, h0⟩ | ⟨g, cap, e, _, _⟩
  · subst e
    exact ⟨none, 0, by rw [h0], ⟨rfl, fun hp => by omega⟩, fun _ => ⟨h0, rfl⟩⟩
  · obtain ⟨ao, c, e2, hc⟩ := h.came
    exact ⟨ao, c, e2, hc, fun e3 => by rw [e3, e] at e2; injection e2 with e4; cases e4⟩
theorem right_len (hs : List Nat) : (rightL hs).length = seenN hs.reverse := by
  unfold rightL seenN He.backTo; simp
theorem ones_succ (n : Nat) : ones (n + 1) = ones n ++ [n + 1] := by unfold ones; rw [List.range_succ, List.map_append]; rfl
theorem find_at {α : Type} (f : Nat → Option α) (o : α) (j : Nat) (h1 : 1 ≤ j) (hj : f j = some o) (h : ∀ x, 1 ≤ x → x < j → f x = none) : ∀ n, j ≤ n → (ones n).findSome? f = some o
  | 0, hn => by omega
  | n + 1, hn => by
    rw [ones_succ, List.findSome?_append]
    by_cases e : j ≤ n
    · rw [find_at f o j h1 hj h n e]; rfl
    · have e2 : j = n + 1 := by omega
      subst e2
      rw [List.findSome?_eq_none_iff.2 (fun x hx => h x (mem_ones.1 hx).1 (by have := (mem_ones.1 hx).2; omega))]
      simp [hj]
theorem find_none {α : Type} (f : Nat → Option α) (n : Nat) (h : ∀ x, 1 ≤ x → x ≤ n → f x = none) : (ones n).findSome? f = none :=
  List.findSome?_eq_none_iff.2 (fun x hx => h x (mem_ones.1 hx).1 (mem_ones.1 hx).2)
theorem look_prune (n l r k : Nat) (b : List Nat) (h : l < seenN b) : lookL n l r k b = none := by
  cases k <;> rw [lookL, if_pos h]
theorem look_zero (n l r : Nat) (b : List Nat) (h : ¬ l < seenN b) : lookL n l r 0 b = if okL l r b then some b else none := by rw [lookL, if_neg h]
/-- the answer with h behind -/
def oneL (n l r k : Nat) (b : List Nat) (h : Nat) : Option (List Nat) := if b.contains h then none else lookL n l r k (b ++ [h])
theorem look_succ (n l r k : Nat) (b : List Nat) (h : ¬ l < seenN b) : lookL n l r (k + 1) b = (ones n).findSome? (oneL n l r k b) := by rw [lookL, if_neg h]; rfl
theorem oneL_has {n l r k h : Nat} {b : List Nat} (e : b.contains h = true) : oneL n l r k b h = none := by unfold oneL; rw [if_pos e]
theorem oneL_not {n l r k h : Nat} {b : List Nat} (e : b.contains h = false) : oneL n l r k b h = lookL n l r k (b ++ [h]) := by unfold oneL; rw [e]; rfl
theorem asInts_app (b : List Nat) (j : Nat) : asInts b ++ [(j : Int)] = asInts (b ++ [j]) := by unfold asInts; simp
end Pm

set_option maxHeartbeats 4000000 in
theorem heLook_prune (n L R k : Nat) (h8 : n ≤ 8) (b : List Nat) (w : World) (B : Nat) (v : Value) (hk : b.length ≤ n) (hO : Own w B v (asInts b)) (hs : L < Pm.seenN b) :
    Calls Try.prog 16 #[.int .i64 (n : Int), .int .i64 (L : Int), .int .i64 (R : Int), v] w fun e w' => ∃ v', e = .returned (.tuple #[v', .bool (Pm.lookL n L R k b).isSome]) ∧ (∀ zs, Pm.lookL n L R k b = some zs → Own w' B v' (asInts zs)) ∧ Below w.heap.size w w' := by
  have HN := Lib.hid (Pm.look_prune n L R k b hs)
  obtain ⟨ao, cap, rfl, hc, _⟩ := Pm.own_open hO
  rw [asInts_len] at hc ⊢
  have HC := Lib.hid hc
  obtain ⟨s, hss⟩ : ∃ s, s = Pm.seenN b := ⟨_, rfl⟩
  rw [← hss] at hs
  have HS := Lib.hid hss
  have hsI : (L : Int) < (s : Int) := by omega
  clear hc hO hss
  go_enter Try.func16, Try.ntmps16
  go_wp2_with fail
  go_at_call 22
  refine (heSeen_any w ao b.length cap b (by omega) HC.out).mono ?_
  rintro e w1 ⟨v1, rfl, o1, b1⟩
  obtain ⟨a1, c1, e1⟩ := o1.any
  rw [asInts_len, show (He.seen b).length = s from HS.out.symm] at e1
  have HB := Lib.hid b1
  clear o1 b1
  subst e1
  go_wp2
  go_ret2
  exact ⟨_, by rw [HN.out]; rfl, fun zs h => (by rw [HN.out] at h; cases h), HB.out⟩

set_option maxHeartbeats 4000000 in
theorem heLook_zero (n L R : Nat) (h8 : n ≤ 8) (b : List Nat) (w : World) (B : Nat) (v : Value) (hk : b.length = n) (hO : Own w B v (asInts b)) (hs : ¬ L < Pm.seenN b) :
    Calls Try.prog 16 #[.int .i64 (n : Int), .int .i64 (L : Int), .int .i64 (R : Int), v] w fun e w' => ∃ v', e = .returned (.tuple #[v', .bool (Pm.lookL n L R 0 b).isSome]) ∧ (∀ zs, Pm.lookL n L R 0 b = some zs → Own w' B v' (asInts zs)) ∧ Below w.heap.size w w' := by
  have HN := Lib.hid (Pm.look_zero n L R b hs)
  obtain ⟨ao, cap, rfl, hc, _⟩ := Pm.own_open hO
  rw [asInts_len, hk] at hc hO ⊢
  have HC := Lib.hid hc
  have HO := Lib.hid hO
  have HK := Lib.hid hk
  obtain ⟨s, hss⟩ : ∃ s, s = Pm.seenN b := ⟨_, rfl⟩
  rw [← hss] at hs
  have HS := Lib.hid hss
  have hsI : ¬ (L : Int) < (s : Int) := by omega
  clear hc hO hss hk
  go_enter Try.func16, Try.ntmps16
  go_wp2_with fail
  go_at_call 22
  refine (heSeen_any w ao n cap b (by omega) HC.out).mono ?_
  rintro e w1 ⟨v1, rfl, o1, b1⟩
  obtain ⟨a1, c1, e1⟩ := o1.any
  rw [asInts_len, show (He.seen b).length = s from HS.out.symm] at e1
  have B1 := Lib.hid b1
  have C1 := Lib.hid (HC.out.below b1)
  clear o1 b1
  subst e1
  go_wp2_with fail
  go_at_call 22
  refine (heSeen_any w1 ao n cap b (by omega) C1.out).mono ?_
  rintro e w2 ⟨v2, rfl, o2, b2⟩
  obtain ⟨a2, c2, e2⟩ := o2.any
  rw [asInts_len, show (He.seen b).length = s from HS.out.symm] at e2
  have B2 := Lib.hid (B1.out.trans (b2.mono B1.out.size))
  have C2 := Lib.hid (C1.out.below b2)
  clear o2 b2
  subst e2
  by_cases hsl : s = L
  · have hslI : (s : Int) = (L : Int) := by omega
    go_wp2_with fail
    go_at_call 23
    refine (heRight_any w2 ao n cap b (by omega) C2.out).mono ?_
    rintro e w3 ⟨v3, rfl, o3, b3⟩
    obtain ⟨a3, c3, e3⟩ := o3.any
    obtain ⟨y, hy⟩ : ∃ y, y = Pm.seenN b.reverse := ⟨_, rfl⟩
    rw [Pm.right_len, ← hy] at e3
    have HY := Lib.hid hy
    have B3 := Lib.hid (B2.out.trans (b3.mono B2.out.size))
    clear o3 b3 hy
    subst e3
    by_cases hyR : y = R
    · have hyI : (y : Int) = (R : Int) := by omega
      have HP : Hid (Pm.lookL n L R 0 b = some b) := Lib.hid (by rw [HN.out, if_pos]; unfold Pm.okL; rw [← HS.out, ← HY.out, hsl, hyR]; simp)
      go_wp2
      go_ret2
      exact ⟨.slice ao n cap, by rw [HP.out]; exact rfl, fun zs h => (by rw [HP.out] at h; cases h; exact HO.out.below B3.out (Nat.le_refl _)), B3.out⟩
    · have HYI : Hid (((y : Int) == (R : Int)) = false) := Lib.hid (by simp; omega)
      have HP : Hid (Pm.lookL n L R 0 b = none) := Lib.hid (by rw [HN.out, if_neg]; unfold Pm.okL; rw [← HS.out, ← HY.out]; simp [hyR])
      go_wp2
      go_ret2
      exact ⟨.slice ao n cap, by rw [HP.out, HYI.out]; exact rfl, fun zs h => (by rw [HP.out] at h; cases h), B3.out⟩
  · have hslI : ¬ (s : Int) = (L : Int) := by omega
    have HP : Hid (Pm.lookL n L R 0 b = none) := Lib.hid (by rw [HN.out, if_neg]; unfold Pm.okL; rw [← HS.out]; simp [hsl])
    go_wp2
    go_ret2
    exact ⟨_, by rw [HP.out]; exact rfl, fun zs h => (by rw [HP.out] at h; cases h), B2.out⟩

set_option maxHeartbeats 4000000 in
theorem heLook_q (n L R : Nat) (h8 : n ≤ 8) : ∀ (k : Nat) (b : List Nat) (w : World) (B : Nat) (v : Value), b.length + k = n → B ≤ w.heap.size → Own w B v (asInts b) →
    Calls Try.prog 16 #[.int .i64 (n : Int), .int .i64 (L : Int), .int .i64 (R : Int), v] w fun e w' => ∃ v', e = .returned (.tuple #[v', .bool (Pm.lookL n L R k b).isSome]) ∧ (∀ zs, Pm.lookL n L R k b = some zs → Own w' B v' (asInts zs)) ∧ Below w.heap.size w w' := by
  intro k
  induction k with
  | zero =>
    intro b w B v hk hB hO
    by_cases hs : L < Pm.seenN b
    · exact heLook_prune n L R 0 h8 b w B v (by omega) hO hs
    · exact heLook_zero n L R h8 b w B v (by omega) hO hs
  | succ k ih =>
    intro b w B v hk hB hO
    by_cases hs : L < Pm.seenN b
    · exact heLook_prune n L R (k + 1) h8 b w B v (by omega) hO hs
    have HN := Lib.hid (Pm.look_succ n L R k b hs)
    have IH := Lib.hid ih
    obtain ⟨len, hlen⟩ : ∃ m, m = b.length := ⟨_, rfl⟩
    obtain ⟨ao, cap, rfl, hc, ho⟩ := Pm.own_open hO
    rw [asInts_len, ← hlen] at hc ho hO ⊢
    rw [← hlen] at hk
    have HLN := Lib.hid hlen
    have HC := Lib.hid hc
    have HO := Lib.hid hO
    have HO0 := Lib.hid ho
    have HBB := Lib.hid hB
    obtain ⟨s, hss⟩ : ∃ s, s = Pm.seenN b := ⟨_, rfl⟩
    rw [← hss] at hs
    have HS := Lib.hid hss
    have hsI : ¬ (L : Int) < (s : Int) := by omega
    have hln : ¬ (len : Int) = (n : Int) := by omega
    have hlb : ((len : Int) == (n : Int)) = false := by simp; omega
    clear hc hO hss ih ho hB hlen
    go_enter Try.func16, Try.ntmps16
    go_wp2_with fail
    go_at_call 22
    refine (heSeen_any w ao len cap b (by omega) HC.out).mono ?_
    rintro e w1 ⟨v1, rfl, o1, b1⟩
    obtain ⟨a1, c1, e1⟩ := o1.any
    rw [asInts_len, show (He.seen b).length = s from HS.out.symm] at e1
    have B1 := Lib.hid b1
    clear o1 b1
    subst e1
    go_wp2
    go_loopw [10] (fun h wr => ∃ j : Nat, 1 ≤ j ∧ j ≤ n + 1 ∧ h = .int .i64 (j : Int) ∧ Hid (∀ x, 1 ≤ x → x < j → Pm.oneL n L R k b x = none) ∧ Hid (Below w.heap.size w wr)) (fun h _ => n + 1 - (intOf h).toNat)
    case atStart => exact ⟨1, Nat.le_refl _, by omega, rfl, Lib.hid (fun x h1 h2 => absurd h2 (by omega)), B1⟩
    case round =>
      obtain ⟨j, hj1, hjn, rfl, HJ, HBr⟩ := hrel
      obtain ⟨w2, rfl⟩ : ∃ w2 : World, w2 = wr := ⟨_, rfl⟩
      have z2 := HBr.out.size
      by_cases hle : j ≤ n
      · have i1 : (j : Int) ≤ (n : Int) := by omega
        have HC2 := Lib.hid (HC.out.below HBr.out)
        have HH := Lib.hid (l1Has_any w2 ao len cap (asInts b) (j : Int) (by omega) HC2.out)
        rw [has_at] at HH
        rcases hcj : b.contains j with _ | _
        · rw [hcj] at HH
          have HE := Lib.hid (Pm.oneL_not (n := n) (l := L) (r := R) (k := k) hcj)
          clear hcj
          go_wp2_with (first | (go_at_call 24; refine HH.out.mono ?_; rintro e w' ⟨rfl, rfl⟩))
          go_at_call 25
          refine (l1OwnC_any w2 ao len cap (asInts b) (by omega) HC2.out HO0.out).mono ?_
          rintro e w3 ⟨v3, rfl, o3, b3⟩
          have O3 := Lib.hid o3
          have B3 : Hid (Below w.heap.size w w3) := Lib.hid (HBr.out.trans (b3.mono z2))
          have z3 := b3.size
          have hbl : (asInts b).length ≤ 1000000000 := by rw [asInts_len, ← HLN.out]; omega
          clear o3 b3
          go_wp2_with (at_builtin; refine wpList_app rfl _ _ rfl w3 _ _ _ _ rfl rfl O3.out z3 hbl ?_; intro v5 w5 hO hB5; refine Stop.on ?_)
          have O5 := Lib.hid hO
          have B5 : Hid (Below w.heap.size w w5) := Lib.hid (B3.out.trans (hB5.mono z2))
          rw [Pm.asInts_app] at O5
          have z5 := hB5.size
          have HI := Lib.hid (IH.out (b ++ [j]) w5 w2.heap.size v5 (by simp; have := HLN.out; omega) (by omega) O5.out)
          clear hO hB5
          refine ⟨?_⟩
          go_wp2_with fail
          go_at_call 16
          refine HI.out.mono ?_
          rintro e w6 ⟨v6, rfl, o6, b6⟩
          have O6 := Lib.hid o6
          have B6 : Hid (Below w.heap.size w w6) := Lib.hid (B5.out.trans (b6.mono B5.out.size))
          clear o6 b6 HI
          rcases hlk : Pm.lookL n L R k (b ++ [j]) with _ | zs
          · have HJ2 : Hid (∀ x, 1 ≤ x → x < j + 1 → Pm.oneL n L R k b x = none) := Lib.hid (fun x h1 h2 => by
              by_cases e : x = j
              · rw [e, HE.out, hlk]
              · exact HJ.out x h1 (by omega))
            clear hlk O6
            go_wp2
            exact ⟨⟨j + 1, by omega, by omega, by go_num, HJ2, B6⟩, by simp [intOf]; omega⟩
          · have HP : Hid (Pm.lookL n L R (k + 1) b = some zs) := Lib.hid (by rw [HN.out]; exact Pm.find_at _ _ j hj1 (by rw [HE.out, hlk]) HJ.out n hle)
            have O7 := Lib.hid (O6.out zs hlk)
            clear hlk O6
            go_wp2
            go_ret2
            exact ⟨_, by rw [HP.out]; exact rfl, fun zs2 h => (by rw [HP.out] at h; cases h; exact O7.out.mono (Nat.le_trans HBB.out z2)), B6.out⟩
        · rw [hcj] at HH
          have HE := Lib.hid (Pm.oneL_has (n := n) (l := L) (r := R) (k := k) hcj)
          have HJ2 : Hid (∀ x, 1 ≤ x → x < j + 1 → Pm.oneL n L R k b x = none) := Lib.hid (fun x h1 h2 => by
            by_cases e : x = j
            · rw [e]; exact HE.out
            · exact HJ.out x h1 (by omega))
          clear hcj
          go_wp2_with (go_at_call 24; refine HH.out.mono ?_; rintro e w' ⟨rfl, rfl⟩)
          exact ⟨⟨j + 1, by omega, by omega, by go_num, HJ2, HBr⟩, by simp [intOf]; omega⟩
      · have hjn1 : j = n + 1 := by omega
        have i1 : ¬ (j : Int) ≤ (n : Int) := by omega
        have HP : Hid (Pm.lookL n L R (k + 1) b = none) := Lib.hid (by rw [HN.out]; exact Pm.find_none _ _ (fun x h1 h2 => HJ.out x h1 (by omega)))
        go_wp2
        go_ret2
        exact ⟨_, by rw [HP.out]; exact rfl, fun zs h => (by rw [HP.out] at h; cases h), HBr.out⟩

end Go.Proofs.Ytkolkigpppfhcaa
