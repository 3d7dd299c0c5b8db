/- Rows of soldiers beside lists of ints: rwPairs, rwTick, rwRest of the model (namespace Rx; like Gw). -/
import Derived.Test.YtodlpdbmiicdfabGw
import Derived.Test.YtodlpdbmiicdfabOwn
import Derived.Test.YtodlpdbmiicdfabDrew
import Derived.Deep.QuietTactic
import Derived.BigQuiet
namespace Go.Proofs.Ytodlpdbmiicdfab
open Go.ChangeShapes Go.WideShapes Go.ChangeAt Go.RowKit

namespace Rx
theorem byteR {s : ByteArray} {l : List Bool} (hs : s = Rw.str l) (k : Nat) (hk : k < s.size) : (((s[k]).toNat : Int) == 62) = l.getD k false := by
  subst hs
  rw [Rw.str_get]
  cases l.getD k false <;> rfl
theorem pairsTo_yes {l : List Bool} {k : Nat} (h : Rw.isPair l k = true) : Rw.pairsTo l (k + 1) = Rw.pairsTo l k ++ [k] := by rw [Rw.pairsTo_succ, if_pos h]
theorem pairsTo_no {l : List Bool} {k : Nat} (h : Rw.isPair l k = false) : Rw.pairsTo l (k + 1) = Rw.pairsTo l k := by rw [Rw.pairsTo_succ, h]; simp
theorem isPair_of {l : List Bool} {k : Nat} (hk : k + 1 < l.length) {a b : Bool} (h1 : l.getD k false = a) (h2 : l.getD (k + 1) false = b) : Rw.isPair l k = (a && !b) := by
  unfold Rw.isPair; rw [h1, Rw.getD_ne l hk true false, h2]
theorem asInts_snoc (ps : List Nat) (k : Nat) : asInts (ps ++ [k]) = asInts ps ++ [(k : Int)] := by simp [asInts]
theorem pairs_le (l : List Bool) : (Rw.pairs l).length ≤ l.length := by
  have := Rw.pairsTo_le l (l.length - 1)
  unfold Rw.pairs; omega
def swapped (l : List Bool) (j : Nat) : List Bool := ((Rw.pairs l).take j).foldl Rw.swapAt l
theorem swapped_succ (l : List Bool) (j : Nat) (h : j < (Rw.pairs l).length) : swapped l (j + 1) = Rw.swapAt (swapped l j) (Rw.pairs l)[j] := by
  unfold swapped
  rw [List.take_succ_eq_append_getElem h, List.foldl_append]; rfl
theorem length_swapped (l : List Bool) (j : Nat) : (swapped l j).length = l.length := Rw.length_foldl_swap _ _
theorem swapped_all (l : List Bool) (j : Nat) (h : j = (Rw.pairs l).length) : swapped l j = Rw.tick l := by
  unfold swapped; rw [h, List.take_length]; rfl
theorem cut_swap : ∀ (m : List Bool) (p : Nat), p + 1 < m.length → m.take p ++ [false, true] ++ m.drop (p + 2) = Rw.swapAt m p
  | [], p, h => by simp at h
  | [_], p, h => by simp at h
  | _ :: _ :: t, 0, _ => by simp [Rw.swapAt]
  | a :: b :: t, p + 1, h => by
    have := cut_swap (b :: t) p (by simpa using h)
    simp only [Rw.swapAt, List.take_succ_cons, List.drop_succ_cons, List.set_cons_succ, List.cons_append] at this ⊢
    rw [this]
theorem cut_str (m : List Bool) (p : Nat) (hp : p + 1 < m.length) {s : ByteArray} (hs : s = Rw.str m) : s.extract 0 p ++ { data := #[60, 62] } ++ s.extract (p + 2) s.size = Rw.str (Rw.swapAt m p) := by
  subst hs
  rw [← cut_swap m p hp, Rw.size_str, Rw.str_take, Rw.str_drop, ← Rw.str_append, ← Rw.str_append]
  rfl
theorem tick_length (l : List Bool) : (Rw.tick l).length = l.length := Rw.length_foldl_swap _ _
theorem ticks_rest {l : List Bool} (h : Rw.pairs l = []) : Rw.ticksOf l = 0 ∧ Rw.restOf l = l := by
  rw [Rw.ticksOf, Rw.restOf, dif_pos h, dif_pos h]; exact ⟨rfl, rfl⟩
theorem ticks_next {l : List Bool} (h : ¬ Rw.pairs l = []) : Rw.ticksOf l = Rw.ticksOf (Rw.tick l) + 1 ∧ Rw.restOf l = Rw.restOf (Rw.tick l) := by
  constructor
  · rw [Rw.ticksOf, dif_neg h]
  · rw [Rw.restOf, dif_neg h]
end Rx
open Rx

set_option maxHeartbeats 1000000 in
theorem rwPairs_x (l : List Bool) (h1 : 1 ≤ l.length) (h2 : l.length ≤ 60) (w : World) :
    Calls Try.prog 74 #[.string (Rw.str l)] w fun e w' => ∃ v, e = .returned v ∧ Own w' w.heap.size v (asInts (Rw.pairs l)) ∧ Below w.heap.size w w' := by
  have hsz : (Rw.str l).size = l.length := Rw.size_str l
  obtain ⟨s, hs⟩ : ∃ s, s = Rw.str l := ⟨_, rfl⟩
  rw [← hs] at hsz ⊢
  have HS := Lib.hid hs
  have hsl : s.size ≤ 60 := by omega
  have hs1 : 1 ≤ s.size := by omega
  have HZ := Lib.hid hsz
  clear hs hsz
  go_enter Try.func74, Try.ntmps74
  go_wp2
  go_loopw [3, 4] (fun v i wr => ∃ k : Nat, k + 1 ≤ s.size ∧ i = .int .i64 k ∧ Hid (Own wr w.heap.size v (asInts (Rw.pairsTo l k))) ∧ Hid (Below w.heap.size w wr)) (fun _ i _ => s.size - (intOf i).toNat)
  case atStart => exact ⟨0, by omega, rfl, Lib.hid (own_nil _ _), Lib.hid (Below.refl _ _)⟩
  case round =>
    obtain ⟨k, hk, rfl, HO, HB⟩ := hrel
    have hpl := Rw.pairsTo_le l k
    by_cases hlt : k + 1 < s.size
    · have e1 := Rx.byteR HS.out k (by omega)
      have e2 := Rx.byteL HS.out (k + 1) hlt
      rcases ha : l.getD k false with _ | _ <;> rcases hb : l.getD (k + 1) false with _ | _
      case true.false =>
        rw [ha] at e1
        rw [hb] at e2
        have HP : Hid (asInts (Rw.pairsTo l (k + 1)) = asInts (Rw.pairsTo l k) ++ [(k : Int)]) := Lib.hid (by rw [Rx.pairsTo_yes (Rx.isPair_of (by have := HZ.out; omega) ha hb), Rx.asInts_snoc])
        have hbl : (asInts (Rw.pairsTo l k)).length ≤ 1000000000 := by rw [asInts_len]; omega
        have hz := HB.out.size
        clear ha hb
        go_wp2_with (at_builtin; refine wpList_app rfl _ _ rfl wr _ _ _ _ rfl rfl HO.out hz hbl ?_; intro v5 w5 hO5 hB5)
        have HO5 : Hid (Own w5 w.heap.size v5 (asInts (Rw.pairsTo l (k + 1)))) := Lib.hid (by rw [HP.out]; exact hO5)
        have HB5 : Hid (Below w.heap.size w w5) := Lib.hid (HB.out.trans hB5)
        clear hO5 hB5
        go_wp2
        go_roundw
        case rel => exact ⟨k + 1, by omega, by go_num, HO5, HB5⟩
        case measure => simp [intOf]; omega
      all_goals
        rw [ha] at e1
        rw [hb] at e2
        have HR : Hid (Own wr w.heap.size _ (asInts (Rw.pairsTo l (k + 1)))) := Lib.hid (by rw [Rx.pairsTo_no (Rx.isPair_of (by have := HZ.out; omega) ha hb)]; exact HO.out)
        clear ha hb HO
        go_wp2
        go_roundw
        case rel => exact ⟨k + 1, by omega, by go_num, HR, HB⟩
        case measure => simp [intOf]; omega
    · have HR : Hid (Own wr w.heap.size _ (asInts (Rw.pairs l))) := Lib.hid (by unfold Rw.pairs; rw [show l.length - 1 = k by have := HZ.out; omega]; exact HO.out)
      clear HO
      go_wp2
      go_ret
      exact ⟨_, rfl, HR.out, HB.out⟩

set_option maxHeartbeats 2000000 in
theorem rwTick_x (l : List Bool) (h1 : 1 ≤ l.length) (h2 : l.length ≤ 60) (w : World) :
    Calls Try.prog 72 #[.string (Rw.str l)] w fun e w' => e = .returned (.string (Rw.str (Rw.tick l))) ∧ Below w.heap.size w w' := by
  have HP := Lib.hid (rwPairs_x l h1 h2 w)
  have hpl : (Rw.pairs l).length ≤ 60 := by have := Rx.pairs_le l; omega
  obtain ⟨K, hK⟩ : ∃ K, K = (Rw.pairs l).length := ⟨_, rfl⟩
  have HPL : Hid ((asInts (Rw.pairs l)).length = K) := Lib.hid (by rw [asInts_len, hK])
  rw [← hK] at hpl
  have HK := Lib.hid hK
  obtain ⟨s, hs⟩ : ∃ s, s = Rw.str l := ⟨_, rfl⟩
  rw [← hs] at HP ⊢
  have HS := Lib.hid hs
  clear hK hs
  go_enter Try.func72, Try.ntmps72
  go_wp2_with fail
  go_at_call 74
  refine HP.out.mono ?_
  rintro e w1 ⟨v, rfl, o1, b1⟩
  obtain ⟨ao, cp, rfl, hcm⟩ := o1.came
  rw [HPL.out] at hcm ⊢
  have HC := Lib.hid hcm
  have HB1 := Lib.hid b1
  clear o1 b1 hcm
  go_wp2
  go_loopw [0, 8] (fun r i wr => ∃ j : Nat, j ≤ K ∧ i = .int .i64 j ∧ r = .string (Rw.str (Rx.swapped l j)) ∧ Hid (Below w1.heap.size w1 wr)) (fun _ i _ => K - (intOf i).toNat)
  case atStart => exact ⟨0, Nat.zero_le _, rfl, by rw [HS.out]; rfl, Lib.hid (Below.refl _ _)⟩
  case round =>
    obtain ⟨j, hj, rfl, rfl, HB⟩ := hrel
    obtain ⟨sj, hsj⟩ : ∃ sj, sj = Rw.str (Rx.swapped l j) := ⟨_, rfl⟩
    rw [← hsj]
    have HSJ := Lib.hid hsj
    by_cases hlt : j < K
    · obtain ⟨b, off, rfl, hcell0⟩ := (HC.out.below HB.out).2 (by omega)
      have hjl : j < (Rw.pairs l).length := by have := HK.out; omega
      have hcell := hcell0 j hlt
      rw [getD_asInts, show (Rw.pairs l).getD j 0 = (Rw.pairs l)[j] by simp [List.getD_eq_getElem?_getD, hjl]] at hcell
      obtain ⟨p, hp⟩ : ∃ p, p = (Rw.pairs l)[j] := ⟨_, rfl⟩
      have hmem := Rw.mem_pairs (List.getElem_mem hjl)
      have HA := Lib.hid (Rx.swapped_succ l j hjl)
      rw [← hp] at hcell hmem HA
      have hsz : sj.size = l.length := by rw [hsj, Rw.size_str, Rx.length_swapped]
      have hz1 : p + 2 ≤ sj.size := by omega
      have hz2 : sj.size ≤ 60 := by omega
      have HCU := Lib.hid (Rx.cut_str (Rx.swapped l j) p (by rw [Rx.length_swapped]; exact hmem.1) hsj)
      have i0 : (0 : Int) ≤ (j : Int) := by omega
      have i00 : (j : Int) < (K : Int) := by omega
      have i1 : (0 : Int) ≤ (p : Int) := by omega
      have i2 : (p : Int) ≤ (sj.size : Int) := by omega
      have i3 : IntKind.i64.wrap ((p : Int) + 2) = (p : Int) + 2 := IntWalk.i64_in _ (by omega)
      have i4 : (p : Int) + 2 ≤ (sj.size : Int) := by omega
      have i5 : ((p : Int) + 2).toNat = p + 2 := by omega
      have i6 : (0 : Int) ≤ (p : Int) + 2 := by omega
      clear hsj hp hmem hsz hcell0
      go_wp2_with fail
      go_quiet (fail)
      go_wp2
      go_roundw
      case rel => exact ⟨j + 1, by omega, by go_num, by rw [HA.out, ← HCU.out], Lib.hid ⟨HB.out.os, HB.out.tape, HB.out.output, HB.out.size, HB.out.block⟩⟩
      case measure => simp [intOf]; omega
    · have H1 : Hid (sj = Rw.str (Rw.tick l)) := Lib.hid (by rw [hsj, Rx.swapped_all l j (by have := HK.out; omega)])
      clear hsj
      go_wp2
      go_ret
      exact ⟨ret_str H1.out, HB1.out.trans (HB.out.mono HB1.out.size)⟩

set_option maxHeartbeats 2000000 in
theorem rwRest_x (l : List Bool) (h1 : 1 ≤ l.length) (h2 : l.length ≤ 60) (w : World) :
    Calls Try.prog 73 #[.string (Rw.str l)] w fun e w' => e = .returned (.tuple #[.string (Rw.str (Rw.restOf l)), .int .i64 (Rw.ticksOf l : Nat)]) ∧ Below w.heap.size w w' := by
  have hmw := Rw.mw_row l h2
  have htb : Rw.ticksOf l ≤ 3600 := by have := Rw.ticksOf_le l; omega
  obtain ⟨T, hTT⟩ : ∃ T, T = Rw.ticksOf l := ⟨_, rfl⟩
  rw [← hTT] at htb ⊢
  have HTT := Lib.hid hTT
  obtain ⟨s, hs⟩ : ∃ s, s = Rw.str l := ⟨_, rfl⟩
  rw [← hs]
  have HS := Lib.hid hs
  clear hTT hs
  go_enter Try.func73, Try.ntmps73
  go_wp2
  go_loopw [0, 4] (fun r t wr => ∃ (k : Nat) (mj : List Bool), k ≤ T ∧ t = .int .i64 (k : Nat) ∧ r = .string (Rw.str mj) ∧ mj.length = l.length ∧ Hid (Rw.ticksOf mj + k = T ∧ Rw.restOf mj = Rw.restOf l) ∧ Hid (Below w.heap.size w wr)) (fun _ t _ => T - (intOf t).toNat)
  case atStart => exact ⟨0, l, Nat.zero_le _, rfl, by rw [HS.out], rfl, Lib.hid ⟨by rw [HTT.out]; rfl, rfl⟩, Lib.hid (Below.refl _ _)⟩
  case round =>
    obtain ⟨k, mj, hk, rfl, rfl, hml, HW, HB⟩ := hrel
    have HC := Lib.hid (rwPairs_x mj (by omega) (by omega) wr)
    have HU := Lib.hid (fun w2 => rwTick_x mj (by omega) (by omega) w2)
    have HTL : Hid ((Rw.tick mj).length = l.length) := Lib.hid (by rw [Rx.tick_length]; exact hml)
    have hpl : (Rw.pairs mj).length ≤ 60 := by have := Rx.pairs_le mj; omega
    obtain ⟨sj, hsj⟩ : ∃ sj, sj = Rw.str mj := ⟨_, rfl⟩
    rw [← hsj] at HC HU ⊢
    have HSJ := Lib.hid hsj
    have hws := HB.out.size
    by_cases hp : Rw.pairs mj = []
    · have hd := Rx.ticks_rest hp
      have HD : Hid (k = T ∧ mj = Rw.restOf l) := Lib.hid ⟨by have := HW.out.1; omega, by rw [← HW.out.2]; exact hd.2.symm⟩
      have hl0 : (asInts (Rw.pairs mj)).length = 0 := by rw [hp]; rfl
      have HL0 := Lib.hid hl0
      clear hp hsj hl0 hd
      go_wp2_with fail
      go_at_call 74
      refine HC.out.mono ?_
      rintro e w2 ⟨v, rfl, o2, b2⟩
      obtain ⟨ao, cp, rfl⟩ := o2.any
      have H2 : Hid (Below w.heap.size w w2) := Lib.hid (HB.out.trans (b2.mono hws))
      rw [HL0.out]
      clear o2 b2
      go_wp2
      go_ret2
      exact ⟨by rw [HSJ.out, HD.out.2, ← HD.out.1]; exact rfl, H2.out⟩
    · have hn := Rx.ticks_next hp
      have HW2 : Hid (Rw.ticksOf (Rw.tick mj) + (k + 1) = T ∧ Rw.restOf (Rw.tick mj) = Rw.restOf l) := Lib.hid ⟨by have := HW.out.1; omega, by rw [← hn.2]; exact HW.out.2⟩
      have hkT : k < T := by have := HW.out.1; omega
      obtain ⟨q, hq⟩ : ∃ q, q = (asInts (Rw.pairs mj)).length := ⟨_, rfl⟩
      have hq1 : 0 < q := by rw [hq, asInts_len]; exact List.length_pos_iff.2 hp
      have hq6 : q ≤ 60 := by rw [hq, asInts_len]; exact hpl
      have HQ := Lib.hid hq
      clear hp hsj hn hq
      go_wp2_with fail
      go_at_call 74
      refine HC.out.mono ?_
      rintro e w2 ⟨v, rfl, o2, b2⟩
      obtain ⟨ao, cp, rfl⟩ := o2.any
      have H2 : Hid (Below w.heap.size w w2) := Lib.hid (HB.out.trans (b2.mono hws))
      have i1 : (0 : Int) < (q : Int) := by omega
      rw [← HQ.out]
      clear o2 b2
      go_wp2_with fail
      go_at_call 72
      refine (HU.out _).mono ?_
      rintro e w3 ⟨rfl, b3⟩
      have H3 : Hid (Below w.heap.size w w3) := Lib.hid (H2.out.trans (b3.mono H2.out.size))
      clear b3
      go_wp2
      go_roundw
      case rel => exact ⟨k + 1, _, by omega, by go_num, rfl, HTL.out, HW2, H3⟩
      case measure => simp [intOf]; omega

end Go.Proofs.Ytodlpdbmiicdfab
