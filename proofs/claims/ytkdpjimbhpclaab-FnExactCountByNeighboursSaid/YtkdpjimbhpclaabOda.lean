/- Chapter 7, the model: odGood, odTwo, odTurn, odAround; TurnRun, TurnFirst, TurnAround, MostRuns. -/
import Derived.Test.YtkdpjimbhpclaabGw
import Derived.Test.YtkdpjimbhpclaabDrew
import Derived.Test.YtkdpjimbhpclaabLeast
import Derived.Test.YtkdpjimbhpclaabMost
import Derived.Test.YtkdpjimbhpclaabUp
namespace Go.Proofs.Ytkdpjimbhpclaab
open Go.ChangeShapes Go.WideShapes Go.ChangeAt Go.RowKit
open Rx

namespace Od
def ordB (s : ByteArray) : Bool := goodB s && decide (s.size ≤ 40)
theorem ord_row {s : ByteArray} (h : ordB s = true) : ∃ l : List Bool, s = Rw.str l ∧ 1 ≤ l.length ∧ l.length ≤ 40 := by
  unfold ordB at h
  simp only [Bool.and_eq_true, decide_eq_true_eq] at h
  obtain ⟨l, rfl, h1, _⟩ := goodB_row h.1
  exact ⟨l, rfl, h1, by rw [Rw.size_str] at h; exact h.2⟩
theorem row_ord {l : List Bool} (h1 : 1 ≤ l.length) (h2 : l.length ≤ 40) : ordB (Rw.str l) = true := by
  unfold ordB
  rw [goodB_str h1 (by omega), Rw.size_str, decide_eq_true h2]; rfl
def twoB (a b : ByteArray) : Bool := ordB a && (ordB b && decide (a.size = b.size))
theorem two_rows {a b : ByteArray} (h : twoB a b = true) : ∃ l m : List Bool, a = Rw.str l ∧ b = Rw.str m ∧ 1 ≤ l.length ∧ l.length ≤ 40 ∧ m.length = l.length := by
  unfold twoB at h
  simp only [Bool.and_eq_true, decide_eq_true_eq] at h
  obtain ⟨l, rfl, h1, h2⟩ := ord_row h.1
  obtain ⟨m, rfl, h3, h4⟩ := ord_row h.2.1
  exact ⟨l, m, rfl, rfl, h1, h2, by have := h.2.2; rw [Rw.size_str, Rw.size_str] at this; exact this.symm⟩
/-- the row of a text -/
def rowOf (s : ByteArray) : List Bool := s.data.toList.map (· == 62)
theorem rowOf_str (l : List Bool) : rowOf (Rw.str l) = l := by
  unfold rowOf Rw.str Rw.txt
  simp only [List.map_map]
  refine (List.map_congr_left (fun b _ => ?_)).trans (List.map_id _)
  cases b <;> rfl
/-- all from a up to b, not with it, turned -/
def turnTo (l : List Bool) (a b : Nat) : List Bool := (List.range l.length).map fun i => if a ≤ i ∧ i < b then !l.getD i false else l.getD i false
theorem length_turnTo (l : List Bool) (a b : Nat) : (turnTo l a b).length = l.length := by simp [turnTo]
theorem turnTo_get (l : List Bool) (a b i : Nat) (h : i < l.length) : (turnTo l a b).getD i false = if a ≤ i ∧ i < b then !l.getD i false else l.getD i false := by
  unfold turnTo
  rw [List.getD_eq_getElem?_getD, List.getElem?_map, List.getElem?_range h]
  rfl
theorem turnTo_none (l : List Bool) (a : Nat) : turnTo l a a = l := by
  refine ext_getD false (length_turnTo _ _ _) fun i hi => ?_
  rw [length_turnTo] at hi
  rw [turnTo_get _ _ _ _ hi, if_neg (by omega)]
theorem turnTo_succ (l : List Bool) (a k : Nat) (hk : k < l.length) (ha : a ≤ k) : (turnTo l a k).take k ++ [!l.getD k false] ++ (turnTo l a k).drop (k + 1) = turnTo l a (k + 1) := by
  have hlen : ((turnTo l a k).take k ++ [!l.getD k false] ++ (turnTo l a k).drop (k + 1)).length = l.length := by simp [length_turnTo]; omega
  refine ext_getD false (by rw [hlen, length_turnTo]) fun i hi => ?_
  rw [hlen] at hi
  rw [turnTo_get _ _ _ _ hi]
  have htk : ((turnTo l a k).take k).length = k := by rw [List.length_take, length_turnTo]; omega
  rcases Nat.lt_trichotomy i k with h | h | h
  · rw [List.append_assoc, List.getD_eq_getElem?_getD, List.getElem?_append_left (by omega), List.getElem?_take, if_pos h, ← List.getD_eq_getElem?_getD, turnTo_get _ _ _ _ hi]
    by_cases h2 : a ≤ i
    · rw [if_pos ⟨h2, h⟩, if_pos ⟨h2, by omega⟩]
    · rw [if_neg (fun x => h2 x.1), if_neg (fun x => h2 x.1)]
  · subst h
    rw [if_pos ⟨ha, by omega⟩, List.append_assoc, List.getD_eq_getElem?_getD, List.getElem?_append_right (by omega), htk, Nat.sub_self]
    rfl
  · rw [if_neg (by omega), List.getD_eq_getElem?_getD, List.getElem?_append_right (by rw [List.length_append, htk]; simp; omega), List.length_append, htk, List.length_singleton, List.getElem?_drop, show k + 1 + (i - (k + 1)) = i by omega, ← List.getD_eq_getElem?_getD, turnTo_get _ _ _ _ hi, if_neg (by omega)]
/-- a soldier and the neighbours turned -/
def aroundL (l : List Bool) (i : Nat) : List Bool := turnTo l (i - 1) (min (l.length - 1) (i + 1) + 1)
theorem length_aroundL (l : List Bool) (i : Nat) : (aroundL l i).length = l.length := length_turnTo _ _ _
end Od
open Od

theorem odGood_q (s : ByteArray) (w : World) (hs : s.size ≤ 1048576) : Calls Try.prog 46 #[.string s] w fun e w' => e = .returned (.bool (ordB s)) ∧ w = w' := by
  have HG := Lib.hid (rwGood_w s w (by unfold maxLen; omega))
  rcases hb : goodB s with _ | _
  · have H0 : Hid (ordB s = false) := Lib.hid (by unfold ordB; rw [hb]; rfl)
    rw [hb] at HG
    clear hb
    go_enter Try.func46, Try.ntmps46
    go_wp2_with (go_at_call 69; refine HG.out.mono ?_; rintro e w' ⟨rfl, rfl⟩)
    go_ret
    exact ⟨ret_bool H0.out.symm, rfl⟩
  · rw [hb] at HG
    by_cases h40 : s.size ≤ 40
    · have H0 : Hid (ordB s = true) := Lib.hid (by unfold ordB; rw [hb, decide_eq_true h40]; rfl)
      have i1 : (s.size : Int) ≤ 40 := by omega
      clear hb h40
      go_enter Try.func46, Try.ntmps46
      go_wp2_with (go_at_call 69; refine HG.out.mono ?_; rintro e w' ⟨rfl, rfl⟩)
      go_ret
      exact ⟨ret_bool H0.out.symm, rfl⟩
    · have H0 : Hid (ordB s = false) := Lib.hid (by unfold ordB; rw [hb, decide_eq_false h40]; rfl)
      have i1 : ¬ (s.size : Int) ≤ 40 := by omega
      clear hb h40
      go_enter Try.func46, Try.ntmps46
      go_wp2_with (go_at_call 69; refine HG.out.mono ?_; rintro e w' ⟨rfl, rfl⟩)
      go_ret
      exact ⟨ret_bool (by rw [H0.out]; exact decide_eq_false (by omega)), rfl⟩

theorem odTwo_q (a b : ByteArray) (w : World) (ha : a.size ≤ 1048576) (hb : b.size ≤ 1048576) : Calls Try.prog 34 #[.string a, .string b] w fun e w' => e = .returned (.bool (twoB a b)) ∧ w = w' := by
  have HG := Lib.hid (odGood_q a w ha)
  have HH := Lib.hid (odGood_q b w hb)
  rcases h1 : ordB a with _ | _
  · have H0 : Hid (twoB a b = false) := Lib.hid (by unfold twoB; rw [h1]; rfl)
    rw [h1] at HG
    clear h1
    go_enter Try.func34, Try.ntmps34
    go_wp2_with (go_at_call 46; refine HG.out.mono ?_; rintro e w' ⟨rfl, rfl⟩)
    go_ret
    exact ⟨ret_bool H0.out.symm, rfl⟩
  · rw [h1] at HG
    rcases h2 : ordB b with _ | _
    · have H0 : Hid (twoB a b = false) := Lib.hid (by unfold twoB; rw [h1, h2]; rfl)
      rw [h2] at HH
      clear h1 h2
      go_enter Try.func34, Try.ntmps34
      go_wp2_with fail
      go_at_call 46
      refine HG.out.mono ?_
      rintro e w' ⟨rfl, rfl⟩
      go_wp2_with (go_at_call 46; refine HH.out.mono ?_; rintro e w' ⟨rfl, rfl⟩)
      go_ret
      exact ⟨ret_bool H0.out.symm, rfl⟩
    · have H0 : Hid (twoB a b = decide (a.size = b.size)) := Lib.hid (by unfold twoB; rw [h1, h2]; rfl)
      rw [h2] at HH
      have hq : ((a.size : Int) == (b.size : Int)) = decide (a.size = b.size) := by
        by_cases e : a.size = b.size
        · rw [decide_eq_true e, beq_iff_eq]; omega
        · rw [decide_eq_false e, beq_eq_false_iff_ne]; omega
      clear h1 h2
      go_enter Try.func34, Try.ntmps34
      go_wp2_with fail
      go_at_call 46
      refine HG.out.mono ?_
      rintro e w' ⟨rfl, rfl⟩
      go_wp2_with fail
      go_at_call 46
      refine HH.out.mono ?_
      rintro e w' ⟨rfl, rfl⟩
      go_wp2
      go_ret
      exact ⟨ret_bool H0.out.symm, rfl⟩

set_option maxHeartbeats 1000000 in
theorem odTurn_q (l : List Bool) (a b : Nat) (hl : l.length ≤ 60) (hb : b < l.length) (hab : a ≤ b + 1) (w : World) :
    Calls Try.prog 48 #[.string (Rw.str l), .int .i64 (a : Int), .int .i64 (b : Int)] w fun e w' => e = .returned (.string (Rw.str (turnTo l a (b + 1)))) ∧ ∃ m, w' = w.drewN m := by
  obtain ⟨s0, hs0⟩ : ∃ s, s = Rw.str l := ⟨_, rfl⟩
  have H00 : Hid (s0 = Rw.str (turnTo l a a)) := Lib.hid (by rw [turnTo_none]; exact hs0)
  rw [← hs0]
  clear hs0
  go_enter Try.func48, Try.ntmps48
  go_wp2
  go_loopw [0, 7] (fun r i wr => ∃ (k : Nat) (s : ByteArray), a ≤ k ∧ k ≤ b + 1 ∧ i = .int .i64 (k : Int) ∧ r = .string s ∧ Hid (s = Rw.str (turnTo l a k)) ∧ Hid (∃ m, wr = w.drewN m)) (fun _ i _ => b + 1 - (intOf i).toNat)
  case atStart => exact ⟨a, s0, Nat.le_refl _, hab, rfl, rfl, H00, Lib.hid ⟨0, rfl⟩⟩
  case round =>
    obtain ⟨k, s, hk1, hk2, rfl, rfl, HS, HM⟩ := hrel
    by_cases hlt : k ≤ b
    · have hsz : s.size = l.length := by rw [HS.out, Rw.size_str, length_turnTo]
      have hks : k < s.size := by omega
      have HL := Lib.hid (byteL HS.out k hks)
      have hx : (turnTo l a k).getD k false = l.getD k false := by rw [turnTo_get _ _ _ _ (by omega), if_neg (by omega)]
      rw [hx] at HL
      have HQ : Hid (s.extract 0 k ++ Rw.str [!l.getD k false] ++ s.extract (k + 1) s.size = Rw.str (turnTo l a (k + 1))) := Lib.hid (by
        rw [str_take HS.out, str_dropS HS.out, Rw.str_append, Rw.str_append, turnTo_succ _ _ _ (by omega) hk1])
      obtain ⟨y, hy⟩ : ∃ y, y = l.getD k false := ⟨_, rfl⟩
      rw [← hy] at HL HQ
      have HW := Lib.hid (fun w2 => show Calls Try.prog 70 #[.int .u8 ((s[k]).toNat : Int)] w2 fun e w' => e = .returned (.string (Rw.str [!y])) ∧ ∃ m, w' = w2.drewN m from (rwOther_w _ y HL.out w2).mono fun e w' ⟨h1, h2⟩ => ⟨h1, 0, h2.symm⟩)
      have h1s : (s.extract 0 k).size ≤ 60 := by rw [ByteArray.size_extract]; omega
      have h2s : (Rw.str [!y]).size ≤ 1 := by rw [Rw.size_str]; exact Nat.le_refl _
      obtain ⟨o, ho⟩ : ∃ o, o = Rw.str [!y] := ⟨_, rfl⟩
      rw [← ho] at HQ HW h2s
      have h3s : (s.extract 0 k ++ o).size ≤ 61 := by rw [ByteArray.size_append]; omega
      have h4s : (s.extract (k + 1) s.size).size ≤ 60 := by rw [ByteArray.size_extract]; omega
      have i1 : (0 : Int) ≤ (k : Int) := by omega
      have i2 : (k : Int) < (s.size : Int) := by omega
      have i3 : (k : Int) ≤ (s.size : Int) := by omega
      have i4 : (k : Int) + 1 ≤ (s.size : Int) := by omega
      have i5 : (0 : Int) ≤ (k : Int) + 1 := by omega
      have i6 : ((k : Int) + 1).toNat = k + 1 := by omega
      have ew : IntKind.i64.wrap ((k : Int) + 1) = (k : Int) + 1 := by rw [IntKind.wrap_i64]; omega
      clear hx hy ho hsz
      go_wp2_with fail
      go_quiet ((go_at_call 70; exact Calls.quiet_of (HW.out _)))
      go_wp2
      exact ⟨⟨k + 1, _, by omega, by omega, by go_num, rfl, HQ, Lib.hid (by obtain ⟨m, rfl⟩ := HM.out; exact ⟨m + _, World.drewN_drewN ..⟩)⟩, by simp [intOf]; omega⟩
    · obtain rfl : k = b + 1 := by omega
      go_wp2
      go_ret
      exact ⟨ret_str HS.out, HM.out⟩

theorem drewN_belowM {w w' : World} (h : ∃ m, w' = w.drewN m) : Below w.heap.size w w' := by obtain ⟨m, rfl⟩ := h; exact drewN_down w m
def runB (s : ByteArray) (a b : Int) : Bool := ordB s && (inB a 0 ((s.size : Int) - 1) && inB b a ((s.size : Int) - 1))
def outTurnRun_0 (s : ByteArray) (a b : Int) : ByteArray := if runB s a b then Rw.str (turnTo (rowOf s) a.toNat (b.toNat + 1)) else ByteArray.empty
def outTurnRun_1 (s : ByteArray) (a b : Int) : Bool := runB s a b
def firB (s : ByteArray) (n : Int) : Bool := ordB s && inB n 1 (s.size : Int)
def outTurnFirst_0 (s : ByteArray) (n : Int) : ByteArray := if firB s n then Rw.str (turnTo (rowOf s) 0 n.toNat) else ByteArray.empty
def outTurnFirst_1 (s : ByteArray) (n : Int) : Bool := firB s n
def aroB (s : ByteArray) (n : Int) : Bool := ordB s && inB n 0 ((s.size : Int) - 1)
def outTurnAround_0 (s : ByteArray) (n : Int) : ByteArray := if aroB s n then Rw.str (aroundL (rowOf s) n.toNat) else ByteArray.empty
def outTurnAround_1 (s : ByteArray) (n : Int) : Bool := aroB s n
def outMostRuns_0 (n : Int) : Int := if inB n 1 40 then (n + 1) / 2 else 0
def outMostRuns_1 (n : Int) : Bool := inB n 1 40



set_option maxHeartbeats 1000000 in
theorem odAround_q (l : List Bool) (i : Nat) (h1 : 1 ≤ l.length) (hl : l.length ≤ 60) (hi : i < l.length) (w : World) :
    Calls Try.prog 75 #[.string (Rw.str l), .int .i64 (i : Int)] w fun e w' => e = .returned (.string (Rw.str (aroundL l i))) ∧ ∃ m, w' = w.drewN m := by
  have HT := Lib.hid (fun w2 => odTurn_q l (i - 1) (min (l.length - 1) (i + 1)) hl (by omega) (by omega) w2)
  rw [show turnTo l (i - 1) (min (l.length - 1) (i + 1) + 1) = aroundL l i from rfl] at HT
  have HM := Lib.hid (fun w2 => l1Most_q 0 ((i : Int) - 1) w2)
  have HL := Lib.hid (fun w2 => l1Least_any ((l.length : Int) - 1) ((i : Int) + 1) w2)
  rw [show max (0 : Int) ((i : Int) - 1) = ((i - 1 : Nat) : Int) from by omega] at HM
  rw [show min ((l.length : Int) - 1) ((i : Int) + 1) = ((min (l.length - 1) (i + 1) : Nat) : Int) from by omega] at HL
  have hsz := Rw.size_str l
  obtain ⟨s, hs⟩ : ∃ s, s = Rw.str l := ⟨_, rfl⟩
  obtain ⟨p, hp⟩ : ∃ p, p = i - 1 := ⟨_, rfl⟩
  obtain ⟨q, hq⟩ : ∃ q, q = min (l.length - 1) (i + 1) := ⟨_, rfl⟩
  rw [← hs] at HT hsz ⊢
  rw [← hp] at HT HM
  rw [← hq] at HT HL
  have es : (s.size : Int) = (l.length : Int) := by rw [hsz]
  clear hs hp hq
  go_enter Try.func75, Try.ntmps75
  go_wp2_with fail
  go_at_call 84
  refine (HM.out _).mono ?_
  rintro e w' ⟨rfl, rfl⟩
  go_wp2_with fail
  go_at_call 85
  refine (HL.out _).mono ?_
  rintro e w' ⟨rfl, rfl⟩
  go_wp2_with fail
  go_at_call 48
  refine (HT.out _).mono ?_
  rintro e w2 ⟨rfl, hm⟩
  have B2 := Lib.hid hm
  clear hm
  go_wp2
  go_ret
  exact ⟨rfl, B2.out⟩


theorem odSoldiers_q (n : Int) (w : World) : Calls Try.prog 40 #[.int .i64 n] w fun e w' => e = .returned (.bool (inB n 1 40)) ∧ w = w' := by
  have HI := Lib.hid (l1In_any n 1 40 w)
  go_enter Try.func40, Try.ntmps40
  go_wp2_with (go_at_call 47; refine HI.out.mono ?_; rintro e w' ⟨rfl, rfl⟩)
  go_ret
  exact ⟨rfl, rfl⟩

theorem specMostRuns_any (w : World) (n : Int) (_wn : (Lit.int .i64 n).wf = true) :
    Calls Try.prog 32 #[.int .i64 n] w fun e w' => e = .returned (.tuple #[.int .i64 (outMostRuns_0 n), .bool (outMostRuns_1 n)]) ∧ Below w.heap.size w w' := by
  have HG := Lib.hid (odSoldiers_q n w)
  clear _wn
  rcases hb : inB n 1 40 with _ | _
  · have H0 : Hid (outMostRuns_0 n = 0 ∧ outMostRuns_1 n = false) := Lib.hid (by unfold outMostRuns_0 outMostRuns_1; rw [hb]; exact ⟨rfl, rfl⟩)
    rw [hb] at HG
    clear hb
    go_enter Try.func32, Try.ntmps32
    go_wp2_with (go_at_call 40; refine HG.out.mono ?_; rintro e w' ⟨rfl, rfl⟩)
    go_ret2
    exact ⟨by rw [H0.out.1, H0.out.2]; exact rfl, Below.refl _ _⟩
  · obtain ⟨h1, h2⟩ := inB_yes hb
    obtain ⟨N, rfl⟩ : ∃ N : Nat, n = (N : Int) := ⟨n.toNat, by omega⟩
    have H0 : Hid (outMostRuns_0 N = ((N : Int) + 1) / 2 ∧ outMostRuns_1 N = true) := Lib.hid (by unfold outMostRuns_0 outMostRuns_1; rw [hb]; exact ⟨rfl, rfl⟩)
    obtain ⟨M, hM⟩ : ∃ M : Nat, M = (N + 1) / 2 := ⟨_, rfl⟩
    have eM : ((N : Int) + 1) / 2 = (M : Int) := by omega
    rw [eM] at H0
    have hm : M ≤ 21 := by omega
    rw [hb] at HG
    clear hb hM
    go_enter Try.func32, Try.ntmps32
    go_wp2_with (go_at_call 40; refine HG.out.mono ?_; rintro e w' ⟨rfl, rfl⟩)
    go_ret2
    exact ⟨by rw [H0.out.1, H0.out.2, ← eM]; exact rfl, Below.refl _ _⟩

end Go.Proofs.Ytkdpjimbhpclaab
