/- Chapter 2, the program: nextOrder. -/
import Derived.Test.YtkolkigpppfhcaaPma
import Derived.Test.YtkolkigpppfhcaaHp4
import Derived.Test.YtkolkigpppfhcaaDrew
import Derived.RegionTactic
import Derived.BigRegion
import Derived.Deep.QuietTactic
namespace Go.Proofs.Ytkolkigpppfhcaa
open Go.ChangeShapes Go.WideShapes Go.ChangeAt Go.RowKit

namespace Pm
theorem next_swap (p u t : List Nat) (a y : Nat) (hd : Dec (u ++ y :: t)) (hay : a < y) (ht : ∀ z ∈ t, ¬ a < z) : nextL (p ++ a :: (u ++ y :: t)) = some (p ++ y :: (u ++ a :: t).reverse) :=
  nextL_pre _ _ (by
    rw [nextL_bump a _ hd, bump_split a y u t (fun z hz => ?_) hay ht]
    have := (List.pairwise_append.1 hd).2.2 z hz y (by simp)
    omega) p
theorem split_at (hs : List Nat) (K J : Nat) (h : K < J) (hJ : J < hs.length) : ∃ p u t : List Nat, hs = p ++ hs.getD K 0 :: (u ++ hs.getD J 0 :: t) ∧ p.length = K ∧ p.length + 1 + u.length = J ∧ t = hs.drop (J + 1) ∧ u ++ hs.getD J 0 :: t = hs.drop (K + 1) := by
  have gd : ∀ i (hi : i < hs.length), hs.getD i 0 = hs[i] := fun i hi => by simp [List.getD_eq_getElem?_getD, hi]
  have e1 : hs.drop K = hs.getD K 0 :: hs.drop (K + 1) := by rw [gd K (by omega)]; exact List.drop_eq_getElem_cons (by omega)
  have e2 : hs.drop J = hs.getD J 0 :: hs.drop (J + 1) := by rw [gd J hJ]; exact List.drop_eq_getElem_cons hJ
  have e3 : hs.drop (K + 1) = (hs.drop (K + 1)).take (J - K - 1) ++ hs.getD J 0 :: hs.drop (J + 1) := by
    rw [← e2]
    have := (List.take_append_drop (J - K - 1) (hs.drop (K + 1))).symm
    rw [List.drop_drop, show K + 1 + (J - K - 1) = J by omega] at this
    exact this
  refine ⟨hs.take K, (hs.drop (K + 1)).take (J - K - 1), hs.drop (J + 1), ?_, by simp; omega, by simp; omega, rfl, e3.symm⟩
  rw [← e3, ← e1, List.take_append_drop]
theorem swapped (p u t : List Int) (a y : Int) : ((p ++ a :: (u ++ y :: t)).set p.length y).set (p.length + 1 + u.length) a = (p ++ [y]) ++ (u ++ a :: t) := by
  rw [List.set_append_right _ _ (Nat.le_refl _), Nat.sub_self, List.set_cons_zero, List.set_append_right _ _ (by omega), show p.length + 1 + u.length - p.length = u.length + 1 by omega, List.set_cons_succ, List.set_append_right _ _ (Nat.le_refl _), Nat.sub_self, List.set_cons_zero]
  simp
theorem drop_dec (hs : List Nat) (K : Nat) (hK : K + 1 < hs.length) (h : Dec (hs.drop (K + 1))) (hb : hs.getD (K + 1) 0 < hs.getD K 0) : Dec (hs.drop K) := by
  have gd : ∀ i (hi : i < hs.length), hs.getD i 0 = hs[i] := fun i hi => by simp [List.getD_eq_getElem?_getD, hi]
  have e1 : hs.drop K = hs.getD K 0 :: hs.drop (K + 1) := by rw [gd K (by omega)]; exact List.drop_eq_getElem_cons (by omega)
  have e2 : hs.drop (K + 1) = hs.getD (K + 1) 0 :: hs.drop (K + 2) := by rw [gd (K + 1) hK]; exact List.drop_eq_getElem_cons hK
  rw [e1]
  refine List.pairwise_cons.2 ⟨fun z hz => ?_, h⟩
  rw [e2] at h hz
  have h2 := (List.pairwise_cons.1 h).1
  rcases List.mem_cons.1 hz with rfl | hz2
  · exact hb
  · exact Nat.lt_trans (h2 z hz2) hb
theorem last_dec (hs : List Nat) (n : Nat) (hn : n = hs.length) (h1 : 1 ≤ n) : Dec (hs.drop (n - 1)) := by
  have hl : (hs.drop (n - 1)).length = 1 := by rw [List.length_drop]; omega
  rcases hx : hs.drop (n - 1) with _ | ⟨a, _ | ⟨b, t⟩⟩
  · exact List.Pairwise.nil
  · exact List.pairwise_singleton _ _
  · rw [hx] at hl; simp at hl
theorem getD_mem {hs : List Nat} {i : Nat} (hi : i < hs.length) : hs.getD i 0 ∈ hs := by
  simp [List.getD_eq_getElem?_getD, hi]
theorem apart (hs : List Nat) (hnd : hs.Nodup) (i j : Nat) (hij : i < j) (hj : j < hs.length) : hs.getD i 0 ≠ hs.getD j 0 := by
  have gd : ∀ i (hi : i < hs.length), hs.getD i 0 = hs[i] := fun i hi => by simp [List.getD_eq_getElem?_getD, hi]
  rw [gd i (by omega), gd j hj]
  exact List.pairwise_iff_getElem.1 hnd i j (by omega) hj hij
theorem next_at (hs : List Nat) (K J : Nat) (h : K < J) (hJ : J < hs.length) (hd : Dec (hs.drop (K + 1))) (hay : hs.getD K 0 < hs.getD J 0) (ht : ∀ i, J < i → i < hs.length → hs.getD i 0 < hs.getD K 0) :
    ∃ ys, nextL hs = some ys ∧ (((asInts hs).set K ((hs.getD J 0 : Nat) : Int)).set J ((hs.getD K 0 : Nat) : Int)).take (K + 1) ++ ((((asInts hs).set K ((hs.getD J 0 : Nat) : Int)).set J ((hs.getD K 0 : Nat) : Int)).drop (K + 1)).reverse = asInts ys := by
  obtain ⟨p, u, t, h1, h2, h3, h4, h5⟩ := split_at hs K J h hJ
  obtain ⟨a, ha⟩ : ∃ a, a = hs.getD K 0 := ⟨_, rfl⟩
  obtain ⟨y, hy⟩ : ∃ y, y = hs.getD J 0 := ⟨_, rfl⟩
  rw [← ha, ← hy] at h1 hay
  rw [← hy] at h5
  rw [← ha] at ht
  rw [← ha, ← hy]
  have hd2 : Dec (u ++ y :: t) := by rw [h5]; exact hd
  have key : ∀ z ∈ t, ¬ a < z := by
    intro z hz
    rw [h4] at hz
    obtain ⟨i, hi, e⟩ := List.mem_iff_getElem.1 hz
    rw [List.length_drop] at hi
    rw [List.getElem_drop] at e
    have := ht (J + 1 + i) (by omega) (by omega)
    rw [show hs.getD (J + 1 + i) 0 = z by rw [← e]; simp [List.getD_eq_getElem?_getD, show J + 1 + i < hs.length by omega]] at this
    omega
  refine ⟨_, by rw [h1]; exact next_swap p u t a y hd2 hay key, ?_⟩
  · have e : ((asInts hs).set K (y : Int)).set J (a : Int) = (asInts p ++ [(y : Int)]) ++ (asInts u ++ (a : Int) :: asInts t) := by
      rw [← swapped (asInts p) (asInts u) (asInts t) a y, asInts_len, asInts_len, h3, h2]
      congr 2
      conv => lhs; rw [h1]
      unfold asInts; simp
    rw [e, List.take_append_of_le_length (by rw [List.length_append, asInts_len, h2]; simp), List.take_of_length_le (by rw [List.length_append, asInts_len, h2]; simp), List.drop_append_of_le_length (by rw [List.length_append, asInts_len, h2]; simp), List.drop_of_length_le (by rw [List.length_append, asInts_len, h2]; simp)]
    unfold asInts; simp
end Pm

/-- the part from off on is turned -/
theorem reverse_off (w : World) (B g off n cap : Nat) (zs : List Int) (hz : zs.length ≤ 1000000000) (ho : off ≤ n) (h : Own w B (.slice (some ⟨g, 0, none⟩) n cap) zs) (hn : n = zs.length) :
    Calls Try.prog 28 #[.slice (some ⟨g, off, none⟩) (n - off) (cap - off)] w fun e w' => e = .returned (.tuple #[]) ∧ Own w' B (.slice (some ⟨g, 0, none⟩) n cap) (zs.take off ++ (zs.drop off).reverse) ∧ w.grownBy w' (some g) := by
  obtain ⟨hB, cs, hb, hn2, hc, hm, hcl, ht⟩ := h.blk
  have hs : splice cs off (vals (zs.drop off)) = cs := splice_same cs off (vals (zs.drop off)) (by rw [length_vals, List.length_drop]; omega) (fun j hj => by
    rw [length_vals, List.length_drop] at hj
    have e1 : cs[off + j]? = (cs.take n)[off + j]? := by rw [List.getElem?_take, if_pos (by omega)]
    rw [e1, ht]
    unfold vals
    rw [List.getElem?_map, List.getElem?_map, List.getElem?_drop])
  refine (reverse_any w g off (n - off) (cap - off) _ cs (zs.drop off) (by rw [List.length_drop, hn]) (by omega) (by omega) (by rw [hs]; exact hb)).mono ?_
  rintro e w' ⟨he, hb', hg⟩
  refine ⟨he, hb'.own hB (by simp; omega) hc hm ?_ ?_, hg⟩
  · rw [length_splice _ _ _ (by rw [length_vals, List.length_reverse, List.length_drop]; omega)]; exact hcl
  · have e1 : cs.take off = vals (zs.take off) := by
      have := congrArg (List.take off) ht
      rw [List.take_take, Nat.min_eq_left ho] at this
      rw [this]; unfold vals; rw [List.map_take]
    unfold splice
    rw [e1, ← List.append_assoc, List.take_append_of_le_length (by rw [List.length_append, length_vals, length_vals, List.length_reverse, List.length_take, List.length_drop]; omega), List.take_of_length_le (by rw [List.length_append, length_vals, length_vals, List.length_reverse, List.length_take, List.length_drop]; omega)]
    unfold vals; simp

set_option maxHeartbeats 4000000 in
theorem nextOrder_p (w : World) (B : Nat) (v : Value) (hs : List Nat) (h1 : 1 ≤ hs.length) (h8 : hs.length ≤ 8) (hnd : hs.Nodup) (hb8 : ∀ x ∈ hs, x ≤ 100) (hO : Own w B v (asInts hs)) :
    Calls Try.prog 19 #[v] w fun e w' => e = .returned (.bool (Pm.nextL hs).isSome) ∧ Own w' B v (asInts ((Pm.nextL hs).getD hs)) ∧ Below B w w' := by
  obtain ⟨g, cap, rfl, hBg, hgw⟩ := hO.point (by rw [asInts_len]; omega)
  rw [asInts_len] at hO ⊢
  obtain ⟨n, hn⟩ : ∃ n, n = hs.length := ⟨_, rfl⟩
  rw [← hn] at hO h1 h8 ⊢
  obtain ⟨_, _, _, _, hnc, hcm, _, _⟩ := hO.blk
  have hcm2 : cap ≤ 9223372036854775807 := by unfold maxLen at hcm; omega
  have HN := Lib.hid hn
  have HND := Lib.hid hnd
  have HB8 := Lib.hid (fun i (hi : i < n) => hb8 (hs.getD i 0) (Pm.getD_mem (hn ▸ hi)))
  have HO0 := Lib.hid hO
  have HB0 : Hid (Below B w w) := Lib.hid (Below.refl _ _)
  have HD0 := Lib.hid (Pm.last_dec hs n hn h1)
  have HBG := Lib.hid hBg
  clear hn hnd hO hb8 hcm hBg
  go_enter Try.func19, Try.ntmps19
  go_wp2
  go_loopw [3] (fun k wr => ∃ m : Nat, m + 1 ≤ n ∧ k = .int .i64 ((m : Int) - 1) ∧ Hid (Pm.Dec (hs.drop m)) ∧ Hid (Own wr B (.slice (some ⟨g, 0, none⟩) n cap) (asInts hs)) ∧ Hid (Below B w wr)) (fun k _ => (intOf k + 1).toNat)
  case atStart => exact ⟨n - 1, by omega, by go_num, HD0, HO0, HB0⟩
  case round =>
    obtain ⟨m, hm, rfl, HD, HO, HB⟩ := hrel
    obtain ⟨w1, rfl⟩ : ∃ w1 : World, w1 = wr := ⟨_, rfl⟩
    have HOD : Hid (∀ d, Own (w1.drewN d) B (.slice (some ⟨g, 0, none⟩) n cap) (asInts hs)) := Lib.hid fun d => HO.out
    have HBD : Hid (∀ d, Below B w (w1.drewN d)) := Lib.hid (fun d => ⟨HB.out.os, HB.out.tape, HB.out.output, HB.out.size, HB.out.block⟩)
    by_cases h0 : m = 0
    · subst h0
      have HX : Hid (Pm.nextL hs = none) := Lib.hid (Pm.nextL_dec hs HD.out)
      have hx : ((0 : Nat) : Int) - 1 = -1 := by decide
      rw [hx]
      clear hx
      go_wp2_with fail
      go_quiet (fail)
      go_wp2
      go_ret
      exact ⟨ret_bool (by rw [HX.out]; rfl), by rw [HX.out]; exact HOD.out _, HBD.out _⟩
    · obtain ⟨K, rfl⟩ : ∃ K, m = K + 1 := ⟨m - 1, by omega⟩
      have hx : ((K + 1 : Nat) : Int) - 1 = (K : Int) := by omega
      rw [hx]
      have cellD : ∀ j, j < n → ∀ d, (w1.drewN d).cell? ⟨g, j, none⟩ = some (.int .i64 ((hs.getD j 0 : Nat) : Int)) := fun j hj d => by
        rw [(HOD.out d).cell (by rw [asInts_len]; exact HN.out) j (by rw [asInts_len, ← HN.out]; exact hj), getD_asInts]
      have c1 := cellD K (by omega)
      have c2 := cellD (K + 1) (by omega)
      have HAP := Lib.hid (Pm.apart hs HND.out K (K + 1) (by omega) (by rw [← HN.out]; omega))
      have hab := HAP.out
      have hba := HB8.out K (by omega)
      obtain ⟨a, ha⟩ : ∃ a, a = hs.getD K 0 := ⟨_, rfl⟩
      obtain ⟨b, hb⟩ : ∃ b, b = hs.getD (K + 1) 0 := ⟨_, rfl⟩
      rw [← ha] at c1 hab hba
      rw [← hb] at c2 hab
      have HA := Lib.hid ha
      have HBB := Lib.hid hb
      have iK : (0 : Int) ≤ (K : Int) := by omega
      have iK1 : (K : Int) < (n : Int) := by omega
      have iK2 : (K : Int) + 1 < (n : Int) := by omega
      have wK : IntKind.i64.wrap ((K : Int) + 1) = (K : Int) + 1 := IntWalk.i64_in _ (by omega)
      have tK : ((K : Int) + 1).toNat = K + 1 := by omega
      have pK : (0 : Int) ≤ (K : Int) + 1 := by omega
      clear ha hb cellD hx
      by_cases hgt : b < a
      · have HD2 : Hid (Pm.Dec (hs.drop K)) := Lib.hid (Pm.drop_dec hs K (by rw [← HN.out]; omega) HD.out (by rw [← HA.out, ← HBB.out]; exact hgt))
        have hgI : (b : Int) < (a : Int) := by omega
        go_wp2_with fail
        go_quiet (fail)
        go_wp2
        exact ⟨⟨K, by omega, by go_num, HD2, HOD.out _, HBD.out _⟩, by simp [intOf]⟩
      · have hlt : a < b := by omega
        have hgI : ¬ (b : Int) < (a : Int) := by omega
        go_wp2_with fail
        go_quiet (fail)
        go_wp2
        have HOS : Hid (∃ J : Nat, K < J ∧ J < n ∧ (n : Int) - 1 = (J : Int) ∧ Hid (∀ i, J < i → i < n → hs.getD i 0 < a)) := Lib.hid ⟨n - 1, by omega, by omega, by omega, Lib.hid (fun i h1 h2 => absurd h2 (by omega))⟩
        go_loopw [4] (fun j wr => ∃ J : Nat, K < J ∧ J < n ∧ j = .int .i64 (J : Int) ∧ Hid (∀ i, J < i → i < n → hs.getD i 0 < a) ∧ Hid (Own wr B (.slice (some ⟨g, 0, none⟩) n cap) (asInts hs)) ∧ Hid (Below B w wr)) (fun j _ => (intOf j).toNat)
        case atStart =>
          obtain ⟨J, k1, k2, k3, k4⟩ := HOS.out
          exact ⟨J, k1, k2, by rw [k3], k4, HOD.out _, HBD.out _⟩
        case round =>
          obtain ⟨J, hJ1, hJ2, rfl, HJ, HO2, HB2⟩ := hrel
          obtain ⟨w2, rfl⟩ : ∃ w2 : World, w2 = wr := ⟨_, rfl⟩
          have HOD2 : Hid (∀ d, Own (w2.drewN d) B (.slice (some ⟨g, 0, none⟩) n cap) (asInts hs)) := Lib.hid fun d => HO2.out
          have HBD2 : Hid (∀ d, Below B w (w2.drewN d)) := Lib.hid (fun d => ⟨HB2.out.os, HB2.out.tape, HB2.out.output, HB2.out.size, HB2.out.block⟩)
          have cellE : ∀ j, j < n → ∀ d, (w2.drewN d).cell? ⟨g, j, none⟩ = some (.int .i64 ((hs.getD j 0 : Nat) : Int)) := fun j hj d => by
            rw [(HOD2.out d).cell (by rw [asInts_len]; exact HN.out) j (by rw [asInts_len, ← HN.out]; exact hj), getD_asInts]
          have freeE : ∀ j, ∀ d, (w2.drewN d).frozen? ⟨g, j, none⟩ = false := fun j d => (HOD2.out d).free (by rw [asInts_len]; exact HN.out) j
          have e1 := cellE K (by omega)
          have e2 := cellE J hJ2
          have hay := Pm.apart hs HND.out K J hJ1 (by rw [← HN.out]; exact hJ2)
          obtain ⟨y, hy⟩ : ∃ y, y = hs.getD J 0 := ⟨_, rfl⟩
          rw [← HA.out] at e1 hay
          rw [← hy] at e2 hay
          have HY := Lib.hid hy
          have iJ : (0 : Int) ≤ (J : Int) := by omega
          have iJ1 : (J : Int) < (n : Int) := by omega
          clear cellE hy
          by_cases hya : y < a
          · have hyI : (y : Int) < (a : Int) := by omega
            have hJK : J ≠ K + 1 := fun e => by
              have h1 := HY.out
              have h2 := HBB.out
              rw [e] at h1
              omega
            have HJ2 : Hid (∀ i, J - 1 < i → i < n → hs.getD i 0 < a) := Lib.hid (fun i k1 k2 => by
              by_cases e : i = J
              · rw [e, ← HY.out]; exact hya
              · exact HJ.out i (by omega) k2)
            go_wp2_with fail
            go_quiet (fail)
            go_wp2
            exact ⟨⟨J - 1, by omega, by omega, int_eq (by omega), HJ2, HOD2.out _, HBD2.out _⟩, by simp [intOf]; omega⟩
          · have hay2 : a < y := by omega
            have hyI : ¬ (y : Int) < (a : Int) := by omega
            have hne : (⟨g, K, none⟩ : Addr) ≠ ⟨g, J, none⟩ := fun e => by injection e with _ e; omega
            have hne2 : (⟨g, J, none⟩ : Addr) ≠ ⟨g, K, none⟩ := fun e => hne e.symm
            have f1 := freeE K
            have f2 := freeE J
            have HSW : Hid (∀ d, Own (((w2.drewN d).setCell ⟨g, K, none⟩ (.int .i64 (y : Int))).setCell ⟨g, J, none⟩ (.int .i64 (a : Int))) B (.slice (some ⟨g, 0, none⟩) n cap) (((asInts hs).set K (y : Int)).set J (a : Int))) := Lib.hid (fun d =>
              ((HOD2.out d).set (by rw [asInts_len]; exact HN.out) K (y : Int)).set (by rw [List.length_set, asInts_len]; exact HN.out) J (a : Int))
            have HSB : Hid (∀ d, Below B w (((w2.drewN d).setCell ⟨g, K, none⟩ (.int .i64 (y : Int))).setCell ⟨g, J, none⟩ (.int .i64 (a : Int)))) := Lib.hid (fun d =>
              ((HBD2.out d).setCell (p := ⟨g, K, none⟩) HBG.out _).setCell (p := ⟨g, J, none⟩) HBG.out _)
            clear freeE
            go_wp2_with fail
            go_quiet (fail)
            go_wp2_with fail
            obtain ⟨w3, hw3⟩ : ∃ w3, w3 = w2.drewN nq := ⟨_, rfl⟩
            have g1 : w3.cell? ⟨g, K, none⟩ = some (.int .i64 (a : Int)) := by rw [hw3]; exact e1 nq
            have g2 : w3.cell? ⟨g, J, none⟩ = some (.int .i64 (y : Int)) := by rw [hw3]; exact e2 nq
            have g3 : w3.frozen? ⟨g, K, none⟩ = false := by rw [hw3]; exact f1 nq
            have g4 : w3.frozen? ⟨g, J, none⟩ = false := by rw [hw3]; exact f2 nq
            have HS3 := Lib.hid (HSW.out nq)
            have HB3 := Lib.hid (HSB.out nq)
            rw [← hw3] at HS3 HB3
            rw [← hw3]
            clear hw3 e1 e2 f1 f2
            go_region
            obtain ⟨w4, hw4⟩ : ∃ w4, w4 = ((w3.setCell ⟨g, K, none⟩ (.int .i64 (y : Int))).setCell ⟨g, J, none⟩ (.int .i64 (a : Int))).drew := ⟨_, rfl⟩
            rw [← hw4]
            have HS4 : Hid (Own w4 B (.slice (some ⟨g, 0, none⟩) n cap) (((asInts hs).set K (y : Int)).set J (a : Int))) := Lib.hid (by rw [hw4]; exact HS3.out)
            have HB4 : Hid (Below B w w4) := Lib.hid (by rw [hw4]; exact ⟨HB3.out.os, HB3.out.tape, HB3.out.output, HB3.out.size, HB3.out.block⟩)
            have HEX : Hid (∃ ys, Pm.nextL hs = some ys ∧ (((asInts hs).set K (y : Int)).set J (a : Int)).take (K + 1) ++ ((((asInts hs).set K (y : Int)).set J (a : Int)).drop (K + 1)).reverse = asInts ys) := Lib.hid (by
              have := Pm.next_at hs K J hJ1 (by rw [← HN.out]; exact hJ2) HD.out (by rw [← HA.out, ← HY.out]; exact hay2) (fun i k1 k2 => by rw [← HA.out]; exact HJ.out i k1 (by rw [HN.out]; exact k2))
              rw [← HA.out, ← HY.out] at this
              exact this)
            have hKn : K + 1 ≤ n := by omega
            clear hw4 HS3 HB3
            go_wp2_with fail
            go_at_call 28
            refine (reverse_off w4 B g (K + 1) n cap _ (by rw [List.length_set, List.length_set, asInts_len, ← HN.out]; omega) hKn HS4.out (by rw [List.length_set, List.length_set, asInts_len]; exact HN.out)).mono ?_
            rintro e w5 ⟨rfl, O5, G5⟩
            have HR5 : Hid (Own w5 B (.slice (some ⟨g, 0, none⟩) n cap) (asInts ((Pm.nextL hs).getD hs)) ∧ (Pm.nextL hs).isSome = true ∧ Below B w w5) := Lib.hid (by
              obtain ⟨ys, q1, q2⟩ := HEX.out
              rw [q2] at O5
              rw [q1]
              exact ⟨O5, rfl, HB4.out.grown G5 (by have := HB.out.size; have := HB4.out.size; omega) (fun k hk => by cases hk; exact HBG.out)⟩)
            clear O5 G5
            go_wp2
            go_ret
            exact ⟨ret_bool HR5.out.2.1.symm, HR5.out.1, HR5.out.2.2⟩

end Go.Proofs.Ytkolkigpppfhcaa
