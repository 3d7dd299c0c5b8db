/- Chapter 8: the model's AreSignals SignalAt SignalPeriod TimesAt FirstMeeting CountMeetings. Written by a program of mine (tools/mk/mk_sic.py). -/
import Derived.Test.YtmlamcimncfmcabDoorSib
namespace Go.Proofs.YtmlamcimncfmcabDoor
open Go.ChangeShapes Go.WideShapes Go.ChangeAt Go.RowKit
open Si

namespace Si
def timesTo (n f : Nat) (l : Bool) (s p k : Nat) : List Int := asInts ((List.range k).filter fun t => comesB n s t && decide (posN n f l s t = p))
theorem timesTo_yes {n f s p k : Nat} {l : Bool} (h : (comesB n s k && decide (posN n f l s k = p)) = true) : timesTo n f l s p (k + 1) = timesTo n f l s p k ++ [(k : Int)] := by
  unfold timesTo; rw [List.range_succ, List.filter_append, List.filter_cons, if_pos h, List.filter_nil]; unfold asInts; rw [List.map_append]; rfl
theorem timesTo_no {n f s p k : Nat} {l : Bool} (h : (comesB n s k && decide (posN n f l s k = p)) = false) : timesTo n f l s p (k + 1) = timesTo n f l s p k := by
  unfold timesTo; rw [List.range_succ, List.filter_append, List.filter_cons, if_neg (by rw [h]; decide), List.filter_nil, List.append_nil]
theorem length_timesTo (n f : Nat) (l : Bool) (s p k : Nat) : (timesTo n f l s p k).length ≤ k := by
  unfold timesTo; rw [asInts_len]; refine Nat.le_trans (List.length_filter_le _ _) ?_; rw [List.length_range]; exact Nat.le_refl _
/-- how many of the first k -/
def cntTo (p : Nat → Bool) (k : Nat) : Nat := ((List.range k).filter p).length
theorem cntTo_yes {p : Nat → Bool} {k : Nat} (h : p k = true) : cntTo p (k + 1) = cntTo p k + 1 := by
  unfold cntTo; rw [List.range_succ, List.filter_append, List.filter_cons, if_pos h, List.filter_nil, List.length_append]; rfl
theorem cntTo_no {p : Nat → Bool} {k : Nat} (h : p k = false) : cntTo p (k + 1) = cntTo p k := by
  unfold cntTo; rw [List.range_succ, List.filter_append, List.filter_cons, if_neg (by rw [h]; decide), List.filter_nil, List.append_nil]
theorem cntTo_le (p : Nat → Bool) (k : Nat) : cntTo p k ≤ k := by
  unfold cntTo; refine Nat.le_trans (List.length_filter_le _ _) ?_; rw [List.length_range]; exact Nat.le_refl _
/-- the first one below a number -/
def firstTo (p : Nat → Bool) (k : Nat) : Option Nat := (List.range k).find? p
theorem firstTo_hit {p : Nat → Bool} {k n : Nat} (h : ∀ j, j < k → p j = false) (hk : p k = true) (hn : k < n) : firstTo p n = some k := by
  unfold firstTo
  rw [List.find?_range_eq_some]
  exact ⟨hk, List.mem_range.2 hn, fun j hj => by rw [h j hj]; rfl⟩
theorem firstTo_miss {p : Nat → Bool} {n : Nat} (h : ∀ j, j < n → p j = false) : firstTo p n = none := by
  unfold firstTo
  rw [List.find?_eq_none]
  intro j hj
  rw [h j (List.mem_range.1 hj)]; decide
def meetP (n : Int) (p q : RSignal) : Nat → Bool := meetB n.toNat p.1.toNat p.2.1 p.2.2.toNat q.1.toNat q.2.1 q.2.2.toNat
end Si
def outAreSignals_0 (n : Int) (ps : List RSignal) : Bool := listB n ps
def outSignalAt_0 (n : Int) (p : RSignal) (t : Int) : Int := if sigB n p && inB t 0 100000 then (posN n.toNat p.1.toNat p.2.1 p.2.2.toNat t.toNat : Nat) else 0
def outSignalAt_1 (n : Int) (p : RSignal) (t : Int) : Bool := sigB n p && inB t 0 100000
def outSignalPeriod_0 (n : Int) (p : RSignal) : Int := if sigB n p then max 1 (2 * (n - 1) * p.2.2) else 0
def outSignalPeriod_1 (n : Int) (p : RSignal) : Bool := sigB n p
def outTimesAt_0 (n : Int) (p : RSignal) (x y : Int) : List Int := if sigB n p && (inB x 0 (n - 1) && inB y 0 1000) then timesTo n.toNat p.1.toNat p.2.1 p.2.2.toNat x.toNat (y.toNat + 1) else []
def outTimesAt_1 (n : Int) (p : RSignal) (x y : Int) : Bool := sigB n p && (inB x 0 (n - 1) && inB y 0 1000)
theorem lenTimesAt_0 (n : Int) (p : RSignal) (x y : Int) : (outTimesAt_0 n p x y).length ≤ 4611686018427387904 := by
  unfold outTimesAt_0
  split
  · rename_i h
    rw [Bool.and_eq_true, Bool.and_eq_true] at h
    have := inB_yes h.2.2
    have := length_timesTo n.toNat p.1.toNat p.2.1 p.2.2.toNat x.toNat (y.toNat + 1)
    omega
  · simp
def outFirstMeeting_0 (n : Int) (p q : RSignal) : Int := if sigB n p && sigB n q then (match firstTo (meetP n p q) 100001 with | some t => (t : Int) | none => 0) else 0
def outFirstMeeting_1 (n : Int) (p q : RSignal) : Int := if sigB n p && sigB n q then (match firstTo (meetP n p q) 100001 with | some t => (posN n.toNat p.1.toNat p.2.1 p.2.2.toNat t : Nat) | none => 0) else 0
def outFirstMeeting_2 (n : Int) (p q : RSignal) : Bool := sigB n p && sigB n q && (firstTo (meetP n p q) 100001).isSome
def outCountMeetings_0 (n : Int) (p q : RSignal) (y : Int) : Int := if sigB n p && (sigB n q && inB y 0 1000) then (cntTo (meetP n p q) (y.toNat + 1) : Nat) else 0
def outCountMeetings_1 (n : Int) (p q : RSignal) (y : Int) : Bool := sigB n p && (sigB n q && inB y 0 1000)







end Go.Proofs.YtmlamcimncfmcabDoor
