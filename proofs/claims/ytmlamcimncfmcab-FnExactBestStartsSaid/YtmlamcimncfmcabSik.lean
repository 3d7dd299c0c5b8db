/- Chapter 8: the model's siLook (a search that calls itself), BestStarts. -/
import Derived.Test.YtmlamcimncfmcabSie
import Derived.Test.YtmlamcimncfmcabOw
namespace Go.Proofs.Ytmlamcimncfmcab
open Go.ChangeShapes Go.WideShapes Go.ChangeAt Go.RowKit
open Si

namespace Si
def fromN (b : List Nat) : Nat := if 0 < b.length then b.getD (b.length - 1) 0 + 1 else 0
/-- the first starts that go on with these, d more, within a time -/
def lookD (n T : Nat) : Nat → List Nat → Option (List Nat)
  | 0, b => if farTo n b n ≤ T then some b else none
  | d + 1, b => (List.range (n - fromN b)).findSome? fun i => lookD n T d (b ++ [fromN b + i])
theorem findSome_hit {α : Type} {f : Nat → Option α} {k m : Nat} {v : α} (h : ∀ j, j < k → f j = none) (hk : f k = some v) (hm : k < m) : (List.range m).findSome? f = some v := by
  induction m with
  | zero => omega
  | succ m ih =>
    rw [List.range_succ, List.findSome?_append]
    by_cases e : k = m
    · subst e
      have h2 : (List.range k).findSome? f = none := by
        rw [List.findSome?_eq_none_iff]
        intro j hj
        exact h j (List.mem_range.1 hj)
      rw [h2]
      simp [hk]
    · rw [ih (by omega)]; rfl
theorem findSome_miss {α : Type} {f : Nat → Option α} {m : Nat} (h : ∀ j, j < m → f j = none) : (List.range m).findSome? f = none := by
  rw [List.findSome?_eq_none_iff]
  intro j hj
  exact h j (List.mem_range.1 hj)
theorem getD_app1 {b : List Nat} {x n : Nat} (hb : ∀ k, k < b.length → b.getD k 0 < n) (hx : x < n) : ∀ k, k < (b ++ [x]).length → (b ++ [x]).getD k 0 < n := by
  intro k hk
  rw [List.length_append, List.length_singleton] at hk
  by_cases e : k < b.length
  · have := hb k e
    rwa [List.getD_eq_getElem?_getD, List.getElem?_append_left e, ← List.getD_eq_getElem?_getD]
  · have : k = b.length := by omega
    subst this
    rw [List.getD_eq_getElem?_getD, List.getElem?_append_right (Nat.le_refl _), Nat.sub_self]
    exact hx
theorem asInts_app (b : List Nat) (x : Nat) : asInts (b ++ [x]) = asInts b ++ [(x : Int)] := by unfold asInts; rw [List.map_append]; rfl
theorem lookD_len (n T : Nat) : ∀ d b zs, lookD n T d b = some zs → zs.length = b.length + d
  | 0, b, zs, h => by
    unfold lookD at h
    split at h
    · obtain rfl := Option.some.inj h; rfl
    · cases h
  | d + 1, b, zs, h => by
    unfold lookD at h
    obtain ⟨i, _, hi⟩ := List.exists_of_findSome?_eq_some h
    have := lookD_len n T d _ _ hi
    rw [this, List.length_append, List.length_singleton]; omega
def bestB (n k : Int) : Bool := inB n 1 16 && inB k 1 n
end Si
def outBestStarts_0 (n k : Int) : List Int := if bestB n k then asInts ((lookD n.toNat (leastT n.toNat k.toNat) k.toNat []).getD []) else []
def outBestStarts_1 (n k : Int) : Bool := bestB n k
theorem lenBestStarts_0 (n k : Int) : (outBestStarts_0 n k).length ≤ 4611686018427387904 := by
  unfold outBestStarts_0
  split
  · rename_i h
    unfold bestB at h
    rw [Bool.and_eq_true] at h
    have h1 := inB_yes h.1
    have h2 := inB_yes h.2
    rw [asInts_len]
    rcases e : lookD n.toNat (leastT n.toNat k.toNat) k.toNat [] with _ | zs
    · simp
    · have := lookD_len _ _ _ _ _ e
      simp only [Option.getD_some]
      rw [this]
      simp
      omega
  · simp

set_option maxHeartbeats 4000000 in
theorem siLook_any (n many T : Nat) (n1 : 1 ≤ n) (n2 : n ≤ 100) (hm : many ≤ 100) (_hT : T ≤ 1000) : ∀ (d : Nat) (w : World) (B : Nat) (ao : Option Addr) (len cap : Nat) (b : List Nat), b.length = len → len + d = many → (∀ k, k < len → b.getD k 0 < n) → Own w B (.slice ao len cap) (asInts b) → B ≤ w.heap.size →
    Calls Try.prog 20 #[.int .i64 n, .int .i64 many, .int .i64 T, .slice ao len cap] w fun e w' => ∃ v, e = .returned (.tuple #[v, .bool (lookD n T d b).isSome]) ∧ (∀ zs, lookD n T d b = some zs → Own w' B v (asInts zs)) ∧ (lookD n T d b = none → 1 ≤ d → v = .slice none 0 0) ∧ Below w.heap.size w w' := by
  intro d
  induction d with
  | zero =>
    intro w B ao len cap b hbl hld hbn hO hBw
    have hcm : Came w ao len (asInts b) := by
      obtain ⟨a', c', hv, hc⟩ := hO.came
      rw [asInts_len, hbl] at hv hc
      injection hv with h1 h2 h3
      rw [h1]; exact hc
    have hlm : ((len : Int) == (many : Int)) = true := by rw [beq_iff_eq]; omega
    have hlen : len ≤ 100 := by omega
    have HP := Lib.hid (siSpread_any w n n1 n2 ao len cap b (by omega) hbn hcm)
    have HO := Lib.hid hO
    have HE : Hid (lookD n T 0 b = if farTo n b n ≤ T then some b else none) := Lib.hid rfl
    have HFB : Hid (farTo n b n ≤ n) := Lib.hid (farTo_le n b n)
    obtain ⟨M, hM⟩ : ∃ M, M = farTo n b n := ⟨_, rfl⟩
    rw [← hM] at HP HE HFB
    obtain ⟨R, hR⟩ : ∃ R, R = lookD n T 0 b := ⟨_, rfl⟩
    rw [← hR] at HE ⊢
    clear hcm hO hM hR hbl hbn
    by_cases hMT : M ≤ T
    · have HR : Hid (R = some b) := Lib.hid (by rw [HE.out, if_pos hMT])
      have hMI : (M : Int) ≤ (T : Int) := by omega
      clear hMT
      go_enter Try.func20, Try.ntmps20
      go_wp2_with fail
      go_at_call 25
      refine HP.out.mono ?_
      rintro e w2 ⟨v, rfl, o2, b2⟩
      have B2 := Lib.hid b2
      have O2 := Lib.hid (HO.out.below b2 (Nat.le_refl _))
      clear o2 b2
      go_wp2
      go_ret2
      exact ⟨_, by rw [HR.out]; exact rfl, fun zs hz => by rw [HR.out] at hz; obtain rfl := Option.some.inj hz; exact O2.out, fun hz => by (rw [HR.out] at hz; cases hz), B2.out⟩
    · have HR : Hid (R = none) := Lib.hid (by rw [HE.out, if_neg hMT])
      have hMI : ¬ (M : Int) ≤ (T : Int) := by omega
      go_enter Try.func20, Try.ntmps20
      go_wp2_with fail
      go_at_call 25
      refine HP.out.mono ?_
      rintro e w2 ⟨v, rfl, o2, b2⟩
      have B2 := Lib.hid b2
      clear o2 b2
      go_wp2
      go_ret2
      exact ⟨_, by rw [HR.out]; first | exact rfl | (congr 4; exact decide_eq_false hMT) | (simp; omega), fun zs hz => by (rw [HR.out] at hz; cases hz), fun _ h => absurd h (by omega), B2.out⟩
  | succ d ih =>
    intro w B ao len cap b hbl hld hbn hO hBw
    have hcm : Came w ao len (asInts b) := by
      obtain ⟨a', c', hv, hc⟩ := hO.came
      rw [asInts_len, hbl] at hv hc
      injection hv with h1 h2 h3
      rw [h1]; exact hc
    have h0 : ao = none → len = 0 ∧ cap = 0 := by
      intro e
      rcases hO.shape with ⟨h1, h2⟩ | ⟨g, c, h1, _⟩
      · injection h1 with _ h3 h4; exact ⟨h3, h4⟩
      · subst e; injection h1 with h2; cases h2
    have hlm : ((len : Int) == (many : Int)) = false := by rw [beq_eq_false_iff_ne]; omega
    have hlen : len ≤ 100 := by omega
    have HC := Lib.hid hcm
    have HBN := Lib.hid hbn
    have HOW := Lib.hid (fun w2 (h : Below w.heap.size w w2) => l1OwnC_any w2 ao len cap (asInts b) (by omega) (hcm.below h) h0)
    obtain ⟨F, hF⟩ : ∃ F, F = fromN b := ⟨_, rfl⟩
    have HE : Hid (∀ i, i < n - F → (∀ j, j < i → lookD n T d (b ++ [F + j]) = none) → ∀ zs, lookD n T d (b ++ [F + i]) = some zs → lookD n T (d + 1) b = some zs) := Lib.hid (fun i hi h zs hz => by
      unfold lookD; rw [← hF]; exact findSome_hit h hz hi)
    have HE0 : Hid ((∀ j, j < n - F → lookD n T d (b ++ [F + j]) = none) → lookD n T (d + 1) b = none) := Lib.hid (fun h => by
      unfold lookD; rw [← hF]; exact findSome_miss h)
    have HI : Hid (∀ x, x < n → ∀ (w2 : World) (B2 : Nat) (v : Value), Own w2 B2 v (asInts (b ++ [x])) → B2 ≤ w2.heap.size → Calls Try.prog 20 #[.int .i64 n, .int .i64 many, .int .i64 T, v] w2 fun e w' => ∃ v, e = .returned (.tuple #[v, .bool (lookD n T d (b ++ [x])).isSome]) ∧ (∀ zs, lookD n T d (b ++ [x]) = some zs → Own w' B2 v (asInts zs)) ∧ Below w2.heap.size w2 w') := Lib.hid (fun x hx w2 B2 v ho hB2 => by
      obtain ⟨a2, c2, hv⟩ := ho.any
      rw [asInts_len, List.length_append, List.length_singleton, hbl] at hv
      subst hv
      exact (ih w2 B2 a2 (len + 1) c2 (b ++ [x]) (by rw [List.length_append, List.length_singleton, hbl]) (by omega) (fun k hk => getD_app1 (by rw [hbl]; exact hbn) hx k (by rw [List.length_append, List.length_singleton, hbl]; exact hk)) ho hB2).mono fun e w' ⟨v, h1, h2, _, h4⟩ => ⟨v, h1, h2, h4⟩)
    have HAP := Lib.hid (asInts_app b)
    have HAL : Hid ((asInts b).length = len) := Lib.hid (by rw [asInts_len, hbl])
    have HFN : Hid (len = 0 ∧ F = 0 ∨ 0 < len ∧ F = b.getD (len - 1) 0 + 1) := Lib.hid (by
      rw [hF]; unfold fromN; rw [hbl]
      by_cases e : 0 < len
      · right; rw [if_pos e]; exact ⟨e, rfl⟩
      · left; rw [if_neg e]; exact ⟨by omega, rfl⟩)
    have HFB : Hid (F ≤ n) := Lib.hid (by
      rcases HFN.out with ⟨_, h⟩ | ⟨h1, h⟩
      · omega
      · have := hbn (len - 1) (by omega); omega)
    have hFn := HFB.out
    obtain ⟨R, hR⟩ : ∃ R, R = lookD n T (d + 1) b := ⟨_, rfl⟩
    rw [← hR] at HE HE0 ⊢
    have HLOOP : Hid (∀ k, (asInts b).getD k 0 = ((b.getD k 0 : Nat) : Int)) := Lib.hid (fun k => getD_asInts b k)
    clear hcm h0 ih hbl hbn hF hR hO
    by_cases hl0 : 0 < len
    · obtain ⟨bb, off, rfl, hcell⟩ := HC.out.2 hl0
      have e0 := hcell (len - 1) (by omega)
      rw [HLOOP.out] at e0
      have hyn := HBN.out (len - 1) (by omega)
      obtain ⟨y, hy⟩ : ∃ y, y = b.getD (len - 1) 0 := ⟨_, rfl⟩
      have hFy : F = y + 1 := by
        rcases HFN.out with ⟨h, _⟩ | ⟨_, h⟩
        · omega
        · rw [h, hy]
      rw [← hy] at e0 hyn
      have hlI : (0 : Int) < (len : Int) := by omega
      have k2 : (0 : Int) ≤ (len : Int) - 1 := by omega
      have k3 : (len : Int) - 1 < (len : Int) := by omega
      have k4 : ((len : Int) - 1).toNat = len - 1 := by omega
      have eF : (y : Int) + 1 = (F : Int) := by omega
      have HFY := Lib.hid hFy
      have hF100 : F ≤ 100 := by omega
      clear hcell hy hFy
      go_enter Try.func20, Try.ntmps20
      go_wp2_with fail
      go_loopw [13] (fun i wr => ∃ k : Nat, F ≤ k ∧ k ≤ n ∧ i = .int .i64 (k : Int) ∧ Hid (∀ j, j < k - F → lookD n T d (b ++ [F + j]) = none) ∧ Hid (Below w.heap.size w wr)) (fun i _ => n - (intOf i).toNat)
      case atStart => exact ⟨F, Nat.le_refl _, hFn, by first | rfl | (go_num) , Lib.hid (fun j h => absurd h (by omega)), Lib.hid (Below.refl _ _)⟩
      case round =>
        obtain ⟨k, hFk, hkn, rfl, HN, HB⟩ := hrel
        by_cases hlt : k < n
        · have i2 : (k : Int) < (n : Int) := by omega
          have hz := HB.out.size
          have HOk := Lib.hid (HOW.out wr HB.out)
          have HIk := Lib.hid (HI.out k hlt)
          have HNk : Hid (lookD n T d (b ++ [k]) = none → ∀ j, j < k + 1 - F → lookD n T d (b ++ [F + j]) = none) := Lib.hid (fun h j hj => by
            by_cases e : j = k - F
            · rw [e, show F + (k - F) = k by omega]; exact h
            · exact HN.out j (by omega))
          have HEk : Hid (∀ zs, lookD n T d (b ++ [k]) = some zs → R = some zs) := Lib.hid (fun zs h => HE.out (k - F) (by omega) HN.out zs (by rw [show F + (k - F) = k by omega]; exact h))
          have HAk := Lib.hid (HAP.out k)
          obtain ⟨L, hL⟩ : ∃ L, L = lookD n T d (b ++ [k]) := ⟨_, rfl⟩
          rw [← hL] at HIk HNk HEk
          clear hL
          go_wp2_with fail
          go_at_call 30
          refine HOk.out.mono ?_
          rintro e w3 ⟨v3, rfl, o3, b3⟩
          have O3 := Lib.hid o3
          have B3 := Lib.hid b3
          have hz3 := b3.size
          have hbl : (asInts b).length ≤ 1000000000 := by rw [HAL.out]; omega
          clear o3 b3
          rcases L with _ | zs
          · have HN2 := Lib.hid (HNk.out rfl)
            go_wp2_with (at_builtin; refine wpList_app rfl _ _ rfl w3 _ _ _ _ rfl rfl O3.out hz3 hbl ?_; intro v5 w5 hO5 hB5; have O5 : Hid (Own w5 wr.heap.size v5 (asInts (b ++ [k]))) := Lib.hid (by rw [HAk.out]; exact hO5); have B5 : Hid (Below wr.heap.size wr w5) := Lib.hid (B3.out.trans hB5); clear hO5 hB5)
            go_wp2_with fail
            go_at_call 20
            refine (HIk.out w5 wr.heap.size v5 O5.out B5.out.size).mono ?_
            rintro e w6 ⟨v6, rfl, _, b6⟩
            have B6 : Hid (Below w.heap.size w w6) := Lib.hid (HB.out.trans ((B5.out.trans (b6.mono B5.out.size)).mono hz))
            clear b6
            go_wp2
            go_roundw
            case rel => exact ⟨k + 1, by omega, by omega, by go_num, HN2, B6⟩
            case measure => simp [intOf]; omega
          · have HR := Lib.hid (HEk.out zs rfl)
            go_wp2_with (at_builtin; refine wpList_app rfl _ _ rfl w3 _ _ _ _ rfl rfl O3.out hz3 hbl ?_; intro v5 w5 hO5 hB5; have O5 : Hid (Own w5 wr.heap.size v5 (asInts (b ++ [k]))) := Lib.hid (by rw [HAk.out]; exact hO5); have B5 : Hid (Below wr.heap.size wr w5) := Lib.hid (B3.out.trans hB5); clear hO5 hB5)
            go_wp2_with fail
            go_at_call 20
            refine (HIk.out w5 wr.heap.size v5 O5.out B5.out.size).mono ?_
            rintro e w6 ⟨v6, rfl, o6, b6⟩
            have B6 : Hid (Below w.heap.size w w6) := Lib.hid (HB.out.trans ((B5.out.trans (b6.mono B5.out.size)).mono hz))
            have O6 : Hid (Own w6 B v6 (asInts zs)) := Lib.hid ((o6 zs rfl).mono (by omega))
            clear o6 b6
            go_wp2
            go_ret2
            exact ⟨_, by rw [HR.out]; exact rfl, fun zs' hz => by rw [HR.out] at hz; obtain rfl := Option.some.inj hz; exact O6.out, fun hz => by (rw [HR.out] at hz; cases hz), B6.out⟩
        · have i2 : ¬ (k : Int) < (n : Int) := by omega
          have HR := Lib.hid (HE0.out (fun j hj => HN.out j (by omega)))
          go_wp2
          go_ret2
          exact ⟨_, by rw [HR.out]; exact rfl, fun zs hz => by (rw [HR.out] at hz; cases hz), by intros; rfl, HB.out⟩
    · have hF0 : F = 0 := by
        rcases HFN.out with ⟨_, h⟩ | ⟨h, _⟩
        · exact h
        · omega
      subst hF0
      have hl00 : len = 0 := by omega
      subst hl00
      go_enter Try.func20, Try.ntmps20
      go_wp2_with fail
      go_loopw [13] (fun i wr => ∃ k : Nat, (0 : Nat) ≤ k ∧ k ≤ n ∧ i = .int .i64 (k : Int) ∧ Hid (∀ j, j < k - 0 → lookD n T d (b ++ [0 + j]) = none) ∧ Hid (Below w.heap.size w wr)) (fun i _ => n - (intOf i).toNat)
      case atStart => exact ⟨0, Nat.le_refl _, hFn, by first | rfl | (go_num) , Lib.hid (fun j h => absurd h (by omega)), Lib.hid (Below.refl _ _)⟩
      case round =>
        obtain ⟨k, hFk, hkn, rfl, HN, HB⟩ := hrel
        by_cases hlt : k < n
        · have i2 : (k : Int) < (n : Int) := by omega
          have hz := HB.out.size
          have HOk := Lib.hid (HOW.out wr HB.out)
          have HIk := Lib.hid (HI.out k hlt)
          have HNk : Hid (lookD n T d (b ++ [k]) = none → ∀ j, j < k + 1 - 0 → lookD n T d (b ++ [0 + j]) = none) := Lib.hid (fun h j hj => by
            by_cases e : j = k - 0
            · rw [e, show 0 + (k - 0) = k by omega]; exact h
            · exact HN.out j (by omega))
          have HEk : Hid (∀ zs, lookD n T d (b ++ [k]) = some zs → R = some zs) := Lib.hid (fun zs h => HE.out (k - 0) (by omega) HN.out zs (by rw [show 0 + (k - 0) = k by omega]; exact h))
          have HAk := Lib.hid (HAP.out k)
          obtain ⟨L, hL⟩ : ∃ L, L = lookD n T d (b ++ [k]) := ⟨_, rfl⟩
          rw [← hL] at HIk HNk HEk
          clear hL
          go_wp2_with fail
          go_at_call 30
          refine HOk.out.mono ?_
          rintro e w3 ⟨v3, rfl, o3, b3⟩
          have O3 := Lib.hid o3
          have B3 := Lib.hid b3
          have hz3 := b3.size
          have hbl : (asInts b).length ≤ 1000000000 := by rw [HAL.out]; omega
          clear o3 b3
          rcases L with _ | zs
          · have HN2 := Lib.hid (HNk.out rfl)
            go_wp2_with (at_builtin; refine wpList_app rfl _ _ rfl w3 _ _ _ _ rfl rfl O3.out hz3 hbl ?_; intro v5 w5 hO5 hB5; have O5 : Hid (Own w5 wr.heap.size v5 (asInts (b ++ [k]))) := Lib.hid (by rw [HAk.out]; exact hO5); have B5 : Hid (Below wr.heap.size wr w5) := Lib.hid (B3.out.trans hB5); clear hO5 hB5)
            go_wp2_with fail
            go_at_call 20
            refine (HIk.out w5 wr.heap.size v5 O5.out B5.out.size).mono ?_
            rintro e w6 ⟨v6, rfl, _, b6⟩
            have B6 : Hid (Below w.heap.size w w6) := Lib.hid (HB.out.trans ((B5.out.trans (b6.mono B5.out.size)).mono hz))
            clear b6
            go_wp2
            go_roundw
            case rel => exact ⟨k + 1, by omega, by omega, by go_num, HN2, B6⟩
            case measure => simp [intOf]; omega
          · have HR := Lib.hid (HEk.out zs rfl)
            go_wp2_with (at_builtin; refine wpList_app rfl _ _ rfl w3 _ _ _ _ rfl rfl O3.out hz3 hbl ?_; intro v5 w5 hO5 hB5; have O5 : Hid (Own w5 wr.heap.size v5 (asInts (b ++ [k]))) := Lib.hid (by rw [HAk.out]; exact hO5); have B5 : Hid (Below wr.heap.size wr w5) := Lib.hid (B3.out.trans hB5); clear hO5 hB5)
            go_wp2_with fail
            go_at_call 20
            refine (HIk.out w5 wr.heap.size v5 O5.out B5.out.size).mono ?_
            rintro e w6 ⟨v6, rfl, o6, b6⟩
            have B6 : Hid (Below w.heap.size w w6) := Lib.hid (HB.out.trans ((B5.out.trans (b6.mono B5.out.size)).mono hz))
            have O6 : Hid (Own w6 B v6 (asInts zs)) := Lib.hid ((o6 zs rfl).mono (by omega))
            clear o6 b6
            go_wp2
            go_ret2
            exact ⟨_, by rw [HR.out]; exact rfl, fun zs' hz => by rw [HR.out] at hz; obtain rfl := Option.some.inj hz; exact O6.out, fun hz => by (rw [HR.out] at hz; cases hz), B6.out⟩
        · have i2 : ¬ (k : Int) < (n : Int) := by omega
          have HR := Lib.hid (HE0.out (fun j hj => HN.out j (by omega)))
          go_wp2
          go_ret2
          exact ⟨_, by rw [HR.out]; exact rfl, fun zs hz => by (rw [HR.out] at hz; cases hz), by intros; rfl, HB.out⟩

set_option maxHeartbeats 2000000 in
theorem specBestStarts_any (w : World) (n : Int) (m : Int) (_wn : (Lit.int .i64 n).wf = true) (_wm : (Lit.int .i64 m).wf = true) :
    Calls Try.prog 7 #[.int .i64 n, .int .i64 m] w fun e w' => ∃ v0, e = .returned (.tuple #[v0, .bool (outBestStarts_1 n m)]) ∧ Own w' w.heap.size v0 (outBestStarts_0 n m) ∧ Below w.heap.size w w' := by
  clear _wn _wm
  have HI := Lib.hid (fun x lo hi => l1In_any x lo hi w)
  have HN := Lib.hid (l1In_any n 1 16 w)
  have HM := Lib.hid (l1In_any m 1 n w)
  rcases hb0 : inB n 1 16 with _ | _
  · have H0 : Hid (outBestStarts_0 n m = [] ∧ outBestStarts_1 n m = false) := Lib.hid (by unfold outBestStarts_0 outBestStarts_1 bestB; rw [hb0]; exact ⟨rfl, rfl⟩)
    rw [hb0] at HN
    clear hb0
    go_enter Try.func7, Try.ntmps7
    go_wp2_with (go_at_call 19; refine HN.out.mono ?_; rintro e ww ⟨rfl, rfl⟩)
    go_ret2
    exact ⟨_, by rw [H0.out.2]; exact rfl, by rw [H0.out.1]; exact own_nil _ _, Below.refl _ _⟩
  rcases hb1 : inB m 1 n with _ | _
  · have H0 : Hid (outBestStarts_0 n m = [] ∧ outBestStarts_1 n m = false) := Lib.hid (by unfold outBestStarts_0 outBestStarts_1 bestB; rw [hb0, hb1]; exact ⟨rfl, rfl⟩)
    rw [hb0] at HN
    rw [hb1] at HM
    clear hb0 hb1
    go_enter Try.func7, Try.ntmps7
    go_wp2_with fail
    go_at_call 19
    refine HN.out.mono ?_
    rintro e ww ⟨rfl, rfl⟩
    go_wp2_with fail
    go_at_call 19
    refine HM.out.mono ?_
    rintro e ww ⟨rfl, rfl⟩
    go_wp2
    go_ret2
    exact ⟨_, by rw [H0.out.2]; exact rfl, by rw [H0.out.1]; exact own_nil _ _, Below.refl _ _⟩
  · obtain ⟨n1, n2⟩ := inB_yes hb0
    obtain ⟨m1, m2⟩ := inB_yes hb1
    obtain ⟨N, rfl⟩ : ∃ N : Nat, n = (N : Int) := ⟨n.toNat, by omega⟩
    obtain ⟨M, rfl⟩ : ∃ N : Nat, m = (N : Int) := ⟨m.toNat, by omega⟩
    have H0 : Hid (outBestStarts_0 N M = asInts ((lookD N (leastT N M) M []).getD []) ∧ outBestStarts_1 N M = true) := Lib.hid (by unfold outBestStarts_0 outBestStarts_1 bestB; rw [hb0, hb1]; exact ⟨rfl, rfl⟩)
    have HL := Lib.hid (siLeast_any N M (by omega) (by omega) (by omega) w)
    have hT : leastT N M ≤ 1000 := by have := @leastT_le N M; omega
    have HK := Lib.hid (siLook_any N M (leastT N M) (by omega) (by omega) (by omega) hT M w w.heap.size none 0 0 [] rfl (by omega) (fun k hk => absurd hk (Nat.not_lt_zero _)) (own_nil _ _) (Nat.le_refl _))
    obtain ⟨T, hTT⟩ : ∃ T, T = leastT N M := ⟨_, rfl⟩
    rw [← hTT] at H0 HL hT HK
    have hM1 : 1 ≤ M := by omega
    have HM1 := Lib.hid hM1
    obtain ⟨R, hR⟩ : ∃ R, R = lookD N T M [] := ⟨_, rfl⟩
    rw [← hR] at H0 HK
    rw [hb0] at HN
    rw [hb1] at HM
    clear hb0 hb1 hTT hR
    go_enter Try.func7, Try.ntmps7
    go_wp2_with fail
    go_at_call 19
    refine HN.out.mono ?_
    rintro e ww ⟨rfl, rfl⟩
    go_wp2_with fail
    go_at_call 19
    refine HM.out.mono ?_
    rintro e ww ⟨rfl, rfl⟩
    go_wp2_with fail
    go_at_call 21
    refine HL.out.mono ?_
    rintro e ww ⟨rfl, rfl⟩
    go_wp2_with fail
    go_at_call 20
    refine HK.out.mono ?_
    rintro e w2 ⟨v, rfl, o2, z2, b2⟩
    have B2 := Lib.hid b2
    have O2 : Hid (Own w2 w.heap.size v (asInts (R.getD []))) := Lib.hid (by
      rcases R with _ | zs
      · rw [z2 rfl HM1.out]; exact own_nil _ _
      · exact o2 zs rfl)
    clear o2 z2 b2
    go_wp2
    go_ret2
    exact ⟨_, by rw [H0.out.2]; exact rfl, by rw [H0.out.1]; exact O2.out, B2.out⟩

end Go.Proofs.Ytmlamcimncfmcab
