/- PairsSeeing: the model and the method. -/
import Derived.Test.YtnajlnghhboelabOwnSS
import Derived.Test.YtnajlnghhboelabMost
import Derived.Test.YtnajlnghhboelabHp2
import Derived.Test.YtnajlnghhboelabHeSpec2
namespace Go.Proofs.Ytnajlnghhboelab
open Go.ChangeShapes Go.WideShapes Go.ChangeAt Go.RowKit

namespace He
/-- the tallest one between i and j -/
def bt (hs : List Nat) (i : Nat) : Nat → Nat
  | 0 => 0
  | j + 1 => if i < j then max (bt hs i j) (hs.getD j 0) else 0
theorem bt_start (hs : List Nat) (i : Nat) : bt hs i (i + 1) = 0 := by rw [bt, if_neg (Nat.lt_irrefl _)]
theorem bt_succ (hs : List Nat) (i j : Nat) (h : i < j) : bt hs i (j + 1) = max (bt hs i j) (hs.getD j 0) := by rw [bt, if_pos h]
theorem bt_le (hs : List Nat) (b : Nat) (h : ∀ x ∈ hs, x ≤ b) (i : Nat) : ∀ j, bt hs i j ≤ b
  | 0 => Nat.zero_le _
  | j + 1 => by
    have h1 := bt_le hs b h i j
    have h2 : hs.getD j 0 ≤ b := by
      by_cases hj : j < hs.length
      · simp only [List.getD_eq_getElem?_getD, List.getElem?_eq_getElem hj, Option.getD_some]; exact h _ (List.getElem_mem hj)
      · simp only [List.getD_eq_getElem?_getD, List.getElem?_eq_none (by omega : hs.length ≤ j), Option.getD_none]; omega
    rw [bt]; split <;> omega
/-- whom i sees to the right, below j -/
def pairTo (hs : List Nat) (i : Nat) : Nat → List (List Int)
  | 0 => []
  | j + 1 => if i < j ∧ bt hs i j < min (hs.getD i 0) (hs.getD j 0) then pairTo hs i j ++ [[(i : Int), (j : Int)]] else pairTo hs i j
theorem pairTo_start (hs : List Nat) (i : Nat) : ∀ j, j ≤ i + 1 → pairTo hs i j = []
  | 0, _ => rfl
  | j + 1, h => by rw [pairTo, if_neg (by omega), pairTo_start hs i j (by omega)]
theorem pairTo_yes (hs : List Nat) (i j : Nat) (h : i < j) (h1 : bt hs i j < hs.getD i 0) (h2 : bt hs i j < hs.getD j 0) : pairTo hs i (j + 1) = pairTo hs i j ++ [[(i : Int), (j : Int)]] := by rw [pairTo, if_pos ⟨h, by omega⟩]
theorem pairTo_no (hs : List Nat) (i j : Nat) (h : ¬ (bt hs i j < hs.getD i 0 ∧ bt hs i j < hs.getD j 0)) : pairTo hs i (j + 1) = pairTo hs i j := by rw [pairTo, if_neg (by omega)]
theorem pairTo_stay (hs : List Nat) (i j : Nat) (hij : i < j) (h : ¬ bt hs i j < hs.getD i 0) : ∀ d, pairTo hs i (j + d) = pairTo hs i j ∧ ¬ bt hs i (j + d) < hs.getD i 0
  | 0 => ⟨rfl, h⟩
  | d + 1 => by
    obtain ⟨h1, h2⟩ := pairTo_stay hs i j hij h d
    rw [← Nat.add_assoc, pairTo_no hs i (j + d) (by omega), bt_succ hs i (j + d) (by omega)]
    exact ⟨h1, by omega⟩
theorem pairTo_len (hs : List Nat) (i : Nat) : ∀ j, (pairTo hs i j).length ≤ j
  | 0 => Nat.le_refl _
  | j + 1 => by have := pairTo_len hs i j; rw [pairTo]; split <;> simp <;> omega
def pairsTo (hs : List Nat) : Nat → List (List Int)
  | 0 => []
  | k + 1 => pairsTo hs k ++ pairTo hs k hs.length
theorem pairsTo_len (hs : List Nat) (b : Nat) (h : hs.length ≤ b) : ∀ k, (pairsTo hs k).length ≤ k * b
  | 0 => by simp [pairsTo]
  | k + 1 => by have := pairsTo_len hs b h k; have := pairTo_len hs k hs.length; rw [pairsTo, List.length_append, Nat.succ_mul]; omega
theorem pairTo_two (hs : List Nat) (i : Nat) : ∀ j, ∀ x ∈ pairTo hs i j, x.length = 2
  | 0, x, h => by simp [pairTo] at h
  | j + 1, x, h => by
    rw [pairTo] at h
    split at h
    · rw [List.mem_append] at h
      rcases h with h | h
      · exact pairTo_two hs i j x h
      · simp at h; subst h; rfl
    · exact pairTo_two hs i j x h
theorem pairsTo_two (hs : List Nat) : ∀ k, ∀ x ∈ pairsTo hs k, x.length = 2
  | 0, x, h => by simp [pairsTo] at h
  | k + 1, x, h => by
    rw [pairsTo, List.mem_append] at h
    rcases h with h | h
    · exact pairsTo_two hs k x h
    · exact pairTo_two hs k _ x h
end He

def pairsL (hs : List Nat) : List (List Int) := He.pairsTo hs hs.length
theorem tot_rows (zss : List (List Int)) (b : Nat) (h : ∀ x ∈ zss, x.length ≤ b) : ∀ j, tot zss j ≤ j * b
  | 0 => by simp [tot]
  | j + 1 => by
    have h1 := tot_rows zss b h j
    have h2 : (zss.getD j []).length ≤ b := by
      by_cases hj : j < zss.length
      · simp only [List.getD_eq_getElem?_getD, List.getElem?_eq_getElem hj, Option.getD_some]; exact h _ (List.getElem_mem hj)
      · simp only [List.getD_eq_getElem?_getD, List.getElem?_eq_none (by omega : zss.length ≤ j), Option.getD_none]; simp
    rw [tot, Nat.succ_mul]; omega
theorem fits_pairsL (hs : List Nat) (h : hs.length ≤ 40) : (pairsL hs).length ≤ 1600 ∧ total (pairsL hs) ≤ 3200 := by
  have h1 := He.pairsTo_len hs 40 h hs.length
  have h2 : (pairsL hs).length ≤ 1600 := by unfold pairsL; omega
  have h3 := tot_rows (pairsL hs) 2 (fun x hx => by rw [He.pairsTo_two hs _ x hx]; exact Nat.le_refl _) (pairsL hs).length
  exact ⟨h2, by unfold total; omega⟩
theorem own_two (w : World) (x y : Int) : Own (w.alloc (.cells #[.int .i64 x, .int .i64 y] 3)) w.heap.size (.slice (some ⟨w.heap.size, 0, none⟩) 2 2) [x, y] :=
  ⟨rfl, .inr ⟨w.heap.size, 2, _, rfl, Nat.le_refl _, heap_alloc_new w _, Nat.le_refl _, by unfold maxLen; omega, rfl, rfl⟩⟩

set_option maxHeartbeats 400000 in
theorem l1Least_q (x y : Int) (w : World) :
    Calls Try.prog 29 #[.int .i64 x, .int .i64 y] w fun e w' => e = .returned (.int .i64 (min x y)) ∧ w' = w := by
  by_cases h : x < y
  all_goals
    go_enter Try.func29, Try.ntmps29
    go_wp2
    go_ret
    exact ⟨ret_int (by omega), rfl⟩
theorem l1Least_k (x y : Int) (w : World) : Calls Try.prog 29 #[.int .i64 x, .int .i64 y] w fun e w' => e = .returned (.int .i64 (min x y)) ∧ w = w' := (l1Least_q x y w).mono fun _ _ h => ⟨h.1, h.2.symm⟩
theorem l1Most_k (x y : Int) (w : World) : Calls Try.prog 30 #[.int .i64 x, .int .i64 y] w fun e w' => e = .returned (.int .i64 (max x y)) ∧ w = w' := (l1Most_q x y w).mono fun _ _ h => ⟨h.1, h.2.symm⟩

set_option maxHeartbeats 2000000 in
theorem specPairsIn (w : World) (a : Option Addr) (len cap : Nat) (hs : List Nat) (h1 : 1 ≤ hs.length) (h2 : hs.length ≤ 40) (h3 : ∀ x ∈ hs, 1 ≤ x ∧ x ≤ 100) (hg : goodH (asInts hs) = true) (hc : Came w a len (asInts hs)) :
    Calls Try.prog 9 #[.slice a len cap] w fun e w' => ∃ v0, e = .returned (.tuple #[v0, .bool true]) ∧ OwnSS w' w.heap.size v0 (pairsL hs) ∧ Below w.heap.size w w' := by
  have hlen : len = hs.length := by rw [← asInts_len]; exact hc.1.symm
  have HG := Lib.hid (heGood_any w a len cap (asInts hs) (by omega) hc)
  rw [hg] at HG
  have HZL := Lib.hid hlen
  have HC := Lib.hid hc
  have HPL := Lib.hid (He.pairsTo_len hs 40 h2)
  have HBT := Lib.hid (He.bt_le hs 100 (fun x hx => (h3 x hx).2))
  have H3 := Lib.hid h3
  rw [← hlen] at h1 h2
  obtain ⟨bb, ob, rfl, _⟩ := hc.2 (by omega)
  clear hc hlen hg h3
  go_enter Try.func9, Try.ntmps9
  go_wp2_with (go_at_call 28; refine HG.out.mono ?_; rintro e w' ⟨rfl, rfl⟩)
  go_loopw [4, 14] (fun v i wr => ∃ k : Nat, k ≤ len ∧ i = .int .i64 (k : Int) ∧ Hid (OwnSS wr w.heap.size v (He.pairsTo hs k)) ∧ Hid (Below w.heap.size w wr)) (fun _ i _ => len - (intOf i).toNat)
  case atStart => exact ⟨0, Nat.zero_le _, rfl, ownSS_nil _ _, Below.refl _ _⟩
  case round =>
    obtain ⟨k, hk, rfl, HO, HB⟩ := hrel
    by_cases hlt : k < len
    · have e1 : wr.cell? ⟨bb, ob + k, none⟩ = some (.int .i64 ((hs.getD k 0 : Nat) : Int)) := by
        obtain ⟨b', off', hbo, hcell⟩ := (HC.out.below HB.out).2 (by omega)
        cases hbo
        have := hcell k hlt
        rw [getD_asInts] at this; exact this
      obtain ⟨x, hx⟩ : ∃ x, x = hs.getD k 0 := ⟨_, rfl⟩
      have HX := Lib.hid hx
      rw [← hx] at e1
      have hpk := HPL.out k
      have HPK := Lib.hid hpk
      clear hx hpk
      obtain ⟨wo, rfl⟩ : ∃ wo : World, wo = wr := ⟨_, rfl⟩
      have HGO : Hid (∀ m, m < len → ∀ w5, Below w.heap.size w w5 → w5.cell? ⟨bb, ob + m, none⟩ = some (.int .i64 ((hs.getD m 0 : Nat) : Int))) := Lib.hid (fun m hm w5 h5 => by
        obtain ⟨b', off', hbo, hcell⟩ := (HC.out.below h5).2 (by omega)
        cases hbo
        have := hcell m hm
        rw [getD_asInts] at this; exact this)
      go_wp2
      go_loopw [4, 7, 8] (fun v b j wq => ∃ m : Nat, k < m ∧ m ≤ len ∧ j = .int .i64 (m : Int) ∧ b = .int .i64 (He.bt hs k m : Nat) ∧ Hid (OwnSS wq w.heap.size v (He.pairsTo hs k ++ He.pairTo hs k m)) ∧ Hid (Below w.heap.size w wq)) (fun _ _ j _ => len - (intOf j).toNat)
      case atStart => exact ⟨k + 1, by omega, by omega, by go_num, by rw [He.bt_start]; rfl, by rw [He.pairTo_start _ _ _ (Nat.le_refl _), List.append_nil]; exact HO.out, HB.out⟩
      case round =>
        obtain ⟨m, hkm, hm, rfl, rfl, HO2, HB2⟩ := hrel
        have hbt := HBT.out k m
        by_cases hlt2 : m < len
        · have e2 := HGO.out m hlt2 wr HB2.out
          have HBS := Lib.hid (He.bt_succ hs k m hkm)
          have HY := Lib.hid (He.pairTo_yes hs k m hkm)
          have HN := Lib.hid (He.pairTo_no hs k m)
          have HG3 := Lib.hid (HGO.out m hlt2)
          obtain ⟨y, hy⟩ : ∃ y, y = hs.getD m 0 := ⟨_, rfl⟩
          obtain ⟨b, hb⟩ : ∃ b, b = He.bt hs k m := ⟨_, rfl⟩
          rw [← hy] at e2 HBS HY HN HG3
          rw [← hb] at hbt HBS HY HN ⊢
          rw [← HX.out] at HY HN
          have hbl : (He.pairsTo hs k ++ He.pairTo hs k m).length ≤ 1000000000 := by
            rw [List.length_append]; have := He.pairTo_len hs k m; have := HPK.out; omega
          have hy3 : y ≤ 100 := by rw [hy]; exact (H3.out _ (getD_mem0 (by have := HZL.out; omega))).2
          have hz2 := HB2.out.size
          clear hb hy
          by_cases hs2 : b < x ∧ b < y
          · obtain ⟨hbx, hby⟩ := hs2
            have HR := Lib.hid (HY.out hbx hby)
            have hmin : (b : Int) < min (x : Int) (y : Int) := by omega
            clear HY HN hbx hby
            go_wp2_with (first | (go_at_call 29; refine (l1Least_k _ _ _).mono ?_; rintro e w' ⟨rfl, rfl⟩) | (go_at_call 30; refine (l1Most_k _ _ _).mono ?_; rintro e w' ⟨rfl, rfl⟩) | (at_builtin; refine wpList_appRow rfl _ _ rfl _ wr _ _ _ _ _ _ rfl rfl (by simp) HO2.out ((Below.refl _ _).alloc (Nat.le_refl _) _) (own_two wr _ _) hz2 hbl ?_; intro v' w5 hO hB5; have HO5 := Lib.hid hO; have HB5 : Hid (Below w.heap.size w w5) := Lib.hid ((HB2.out.alloc hz2 _).trans hB5); have e3 := HG3.out w5 HB5.out; clear hO hB5))
            have HO6 : Hid (OwnSS w5 w.heap.size v' (He.pairsTo hs k ++ He.pairTo hs k (m + 1))) := Lib.hid (by rw [HR.out, ← List.append_assoc]; exact HO5.out)
            clear HO5
            go_roundw
            case rel => exact ⟨m + 1, by omega, by omega, by go_num, int_eq (by rw [HBS.out]; omega), HO6.out, HB5.out⟩
            case measure => simp [intOf]; omega
          · have HR := Lib.hid (HN.out hs2)
            have hmin : ¬ (b : Int) < min (x : Int) (y : Int) := by omega
            clear HY HN
            go_wp2_with (first | (go_at_call 29; refine (l1Least_k _ _ _).mono ?_; rintro e w' ⟨rfl, rfl⟩) | (go_at_call 30; refine (l1Most_k _ _ _).mono ?_; rintro e w' ⟨rfl, rfl⟩))
            go_roundw
            case rel => exact ⟨m + 1, by omega, by omega, by go_num, int_eq (by rw [HBS.out]; omega), by rw [HR.out]; exact HO2.out, HB2.out⟩
            case measure => simp [intOf]; omega
        · have HO3 : Hid (OwnSS wr w.heap.size _ (He.pairsTo hs (k + 1))) := Lib.hid (by rw [He.pairsTo, show hs.length = m from by have := HZL.out; omega]; exact HO2.out)
          clear HO2
          go_wp2
          go_roundw
          case rel => exact ⟨k + 1, by omega, by go_num, HO3.out, HB2.out⟩
          case measure => simp [intOf]; omega
    · have HO3 : Hid (OwnSS wr w.heap.size _ (pairsL hs)) := Lib.hid (by rw [pairsL, show hs.length = k from by have := HZL.out; omega]; exact HO.out)
      clear HO
      go_wp2
      go_ret2
      exact ⟨_, rfl, HO3.out, HB.out⟩

set_option maxHeartbeats 2000000 in
theorem pairsSeeing_any (w : World) (hs : List Nat) (h1 : 1 ≤ hs.length) (h2 : hs.length ≤ 40) (h3 : ∀ x ∈ hs, 1 ≤ x ∧ x ≤ 100) :
    Calls Try.prog 32 #[.agg (hc hs).toArray] w fun e w' => ∃ v0, e = .returned v0 ∧ OwnSS w' w.heap.size v0 (pairsL hs) ∧ Below w.heap.size w w' := by
  obtain ⟨len, hlen⟩ : ∃ n, n = hs.length := ⟨_, rfl⟩
  have HZL := Lib.hid hlen
  have HPL := Lib.hid (He.pairsTo_len hs 40 h2)
  have HBT := Lib.hid (He.bt_le hs 100 (fun x hx => (h3 x hx).2))
  have H3 := Lib.hid h3
  rw [← hlen] at h1 h2
  clear hlen h3
  go_enter Try.func32, Try.ntmps32
  go_wp2_with (refine wpList_box 47 _ rfl rfl (hc hs) rfl ?_; intro w1 g G1 B1 L1)
  refine ⟨?_⟩
  have ec := B1.out.count (by have := HZL.out; omega)
  rw [← HZL.out] at ec
  have HGO : Hid (∀ m, m < len → ∀ w5, Below w1.heap.size w1 w5 → w5.cell? ⟨g, m, none⟩ = some (.int .i64 ((hs.getD m 0 : Nat) : Int))) := Lib.hid (fun m hm w5 h5 =>
    (B1.out.below h5 B1.out.lt).tall (by have := HZL.out; omega) m (by omega))
  have HGC : Hid (∀ w5, Below w1.heap.size w1 w5 → w5.cell? ⟨g, 40, none⟩ = some (.int .i64 (len : Int))) := Lib.hid (fun w5 h5 => by
    rw [HZL.out]; exact (B1.out.below h5 B1.out.lt).count (by have := HZL.out; omega))
  go_wp2
  clear ec
  go_loopw [3, 9] (fun v i wr => ∃ k : Nat, k ≤ len ∧ i = .int .i64 (k : Int) ∧ Hid (OwnSS wr w1.heap.size v (He.pairsTo hs k)) ∧ Hid (Below w1.heap.size w1 wr)) (fun _ i _ => len - (intOf i).toNat)
  case atStart => exact ⟨0, Nat.zero_le _, rfl, ownSS_nil _ _, Below.refl _ _⟩
  case round =>
    obtain ⟨k, hk, rfl, HO, HB⟩ := hrel
    have hz1 := HB.out.size
    by_cases hlt : k < len
    · obtain ⟨x, hx⟩ : ∃ x, x = hs.getD k 0 := ⟨_, rfl⟩
      have HX := Lib.hid hx
      have HG1 := Lib.hid (HGO.out k hlt)
      rw [← hx] at HG1
      have HPK := Lib.hid (HPL.out k)
      have i1 : (0 : Int) ≤ (k : Int) := by omega
      have i2 : (k : Int) < 40 := by omega
      clear hx
      obtain ⟨wo, rfl⟩ : ∃ wo : World, wo = wr := ⟨_, rfl⟩
      go_wp2
      go_loopw [3, 5, 6] (fun v b j wq => ∃ m : Nat, k < m ∧ m ≤ len ∧ j = .int .i64 (m : Int) ∧ b = .int .i64 (He.bt hs k m : Nat) ∧ Hid (OwnSS wq w1.heap.size v (He.pairsTo hs k ++ He.pairTo hs k m)) ∧ Hid (Below w1.heap.size w1 wq)) (fun _ _ j _ => len - (intOf j).toNat)
      case atStart => exact ⟨k + 1, by omega, by omega, by go_num, by rw [He.bt_start]; rfl, by rw [He.pairTo_start _ _ _ (Nat.le_refl _), List.append_nil]; exact HO.out, HB.out⟩
      case round =>
        obtain ⟨m, hkm, hm, rfl, rfl, HO2, HB2⟩ := hrel
        have hbt := HBT.out k m
        have ec := HGC.out wr HB2.out
        by_cases hlt2 : m < len
        · have e1 := HG1.out wr HB2.out
          have e2 := HGO.out m hlt2 wr HB2.out
          have HBS := Lib.hid (He.bt_succ hs k m hkm)
          have HY := Lib.hid (He.pairTo_yes hs k m hkm)
          have HN := Lib.hid (He.pairTo_no hs k m)
          have HST := Lib.hid (He.pairTo_stay hs k m hkm)
          have HG3 := Lib.hid (HGO.out m hlt2)
          obtain ⟨y, hy⟩ : ∃ y, y = hs.getD m 0 := ⟨_, rfl⟩
          obtain ⟨b, hb⟩ : ∃ b, b = He.bt hs k m := ⟨_, rfl⟩
          rw [← hy] at e2 HBS HY HN HG3
          rw [← hb] at hbt HBS HY HN HST ⊢
          rw [← HX.out] at HY HN HST
          have hbl : (He.pairsTo hs k ++ He.pairTo hs k m).length ≤ 1000000000 := by
            rw [List.length_append]; have := He.pairTo_len hs k m; have := HPK.out; omega
          have hy3 : y ≤ 100 := by rw [hy]; exact (H3.out _ (getD_mem0 (by have := HZL.out; omega))).2
          have hz2 := HB2.out.size
          have i3 : (0 : Int) ≤ (m : Int) := by omega
          have i4 : (m : Int) < 40 := by omega
          clear hb hy
          by_cases hbx : b < x
          · by_cases hby : b < y
            · have HR := Lib.hid (HY.out hbx hby)
              clear HY HN HST
              go_wp2_with (at_builtin; refine wpList_appRow rfl _ _ rfl _ wr _ _ _ _ _ _ rfl rfl (by simp) HO2.out ((Below.refl _ _).alloc (Nat.le_refl _) _) (own_two wr _ _) hz2 hbl ?_; intro v' w5 hO hB5; have HO5 := Lib.hid hO; have HB5 : Hid (Below w1.heap.size w1 w5) := Lib.hid ((HB2.out.alloc hz2 _).trans hB5); have e3 := HG3.out w5 HB5.out; clear hO hB5)
              have HO6 : Hid (OwnSS w5 w1.heap.size v' (He.pairsTo hs k ++ He.pairTo hs k (m + 1))) := Lib.hid (by rw [HR.out, ← List.append_assoc]; exact HO5.out)
              clear HO5
              go_roundw
              case rel => exact ⟨m + 1, by omega, by omega, by go_num, int_eq (by rw [HBS.out]; omega), HO6.out, HB5.out⟩
              case measure => simp [intOf]; omega
            · have HR := Lib.hid (HN.out (fun h => hby h.2))
              clear HY HN HST
              go_wp2
              go_roundw
              case rel => exact ⟨m + 1, by omega, by omega, by go_num, int_eq (by rw [HBS.out]; omega), by rw [HR.out]; exact HO2.out, HB2.out⟩
              case measure => simp [intOf]; omega
          · have HR := (HST.out hbx (len - m)).1
            have HO3 : Hid (OwnSS wr w1.heap.size _ (He.pairsTo hs (k + 1))) := Lib.hid (by rw [He.pairsTo, show hs.length = m + (len - m) from by have := HZL.out; omega, HR]; exact HO2.out)
            clear HR HY HN HST HO2
            go_wp2
            go_roundw
            case rel => exact ⟨k + 1, by omega, by go_num, HO3.out, HB2.out⟩
            case measure => simp [intOf]; omega
        · have HO3 : Hid (OwnSS wr w1.heap.size _ (He.pairsTo hs (k + 1))) := Lib.hid (by rw [He.pairsTo, show hs.length = m from by have := HZL.out; omega]; exact HO2.out)
          clear HO2
          go_wp2
          go_roundw
          case rel => exact ⟨k + 1, by omega, by go_num, HO3.out, HB2.out⟩
          case measure => simp [intOf]; omega
    · have HO3 : Hid (OwnSS wr w.heap.size _ (pairsL hs)) := Lib.hid (by rw [pairsL, show hs.length = k from by have := HZL.out; omega]; exact HO.out.mono L1.out.size)
      have HB3 : Hid (Below w.heap.size w wr) := Lib.hid (L1.out.trans (HB.out.mono L1.out.size))
      clear HO
      go_wp2
      go_ret
      exact ⟨_, rfl, HO3.out, HB3.out⟩

end Go.Proofs.Ytnajlnghhboelab
