/- Chapter 8: the model's AreSignals SignalAt SignalPeriod TimesAt FirstMeeting CountMeetings. Written by a program of mine (tools/mk/mk_sic.py). -/
import Derived.Test.YtmlamcimncfmcaaSib
namespace Go.Proofs.Ytmlamcimncfmcaa
open Go.ChangeShapes Go.WideShapes Go.ChangeAt Go.RowKit
open Si

namespace Si
def timesTo (n f : Nat) (l : Bool) (s p k : Nat) : List Int := asInts ((List.range k).filter fun t => comesB n s t && decide (posN n f l s t = p))
theorem timesTo_yes {n f s p k : Nat} {l : Bool} (h : (comesB n s k && decide (posN n f l s k = p)) = true) : timesTo n f l s p (k + 1) = timesTo n f l s p k ++ [(k : Int)] := by
  unfold timesTo; rw [List.range_succ, List.filter_append, List.filter_cons, if_pos h, List.filter_nil]; unfold asInts; rw [List.map_append]; rfl
theorem timesTo_no {n f s p k : Nat} {l : Bool} (h : (comesB n s k && decide (posN n f l s k = p)) = false) : timesTo n f l s p (k + 1) = timesTo n f l s p k := by
  unfold timesTo; rw [List.range_succ, List.filter_append, List.filter_cons, if_neg (by rw [h]; decide), List.filter_nil, List.append_nil]
theorem length_timesTo (n f : Nat) (l : Bool) (s p k : Nat) : (timesTo n f l s p k).length ≤ k := by
  unfold timesTo; rw [asInts_len]; refine Nat.le_trans (List.length_filter_le _ _) ?_; rw [List.length_range]; exact Nat.le_refl _
/-- how many of the first k -/
def cntTo (p : Nat → Bool) (k : Nat) : Nat := ((List.range k).filter p).length
theorem cntTo_yes {p : Nat → Bool} {k : Nat} (h : p k = true) : cntTo p (k + 1) = cntTo p k + 1 := by
  unfold cntTo; rw [List.range_succ, List.filter_append, List.filter_cons, if_pos h, List.filter_nil, List.length_append]; rfl
theorem cntTo_no {p : Nat → Bool} {k : Nat} (h : p k = false) : cntTo p (k + 1) = cntTo p k := by
  unfold cntTo; rw [List.range_succ, List.filter_append, List.filter_cons, if_neg (by rw [h]; decide), List.filter_nil, List.append_nil]
theorem cntTo_le (p : Nat → Bool) (k : Nat) : cntTo p k ≤ k := by
  unfold cntTo; refine Nat.le_trans (List.length_filter_le _ _) ?_; rw [List.length_range]; exact Nat.le_refl _
/-- the first one below a number -/
def firstTo (p : Nat → Bool) (k : Nat) : Option Nat := (List.range k).find? p
theorem firstTo_hit {p : Nat → Bool} {k n : Nat} (h : ∀ j, j < k → p j = false) (hk : p k = true) (hn : k < n) : firstTo p n = some k := by
  unfold firstTo
  rw [List.find?_range_eq_some]
  exact ⟨hk, List.mem_range.2 hn, fun j hj => by rw [h j hj]; rfl⟩
theorem firstTo_miss {p : Nat → Bool} {n : Nat} (h : ∀ j, j < n → p j = false) : firstTo p n = none := by
  unfold firstTo
  rw [List.find?_eq_none]
  intro j hj
  rw [h j (List.mem_range.1 hj)]; decide
def meetP (n : Int) (p q : RSignal) : Nat → Bool := meetB n.toNat p.1.toNat p.2.1 p.2.2.toNat q.1.toNat q.2.1 q.2.2.toNat
end Si
def outAreSignals_0 (n : Int) (ps : List RSignal) : Bool := listB n ps
def outSignalAt_0 (n : Int) (p : RSignal) (t : Int) : Int := if sigB n p && inB t 0 100000 then (posN n.toNat p.1.toNat p.2.1 p.2.2.toNat t.toNat : Nat) else 0
def outSignalAt_1 (n : Int) (p : RSignal) (t : Int) : Bool := sigB n p && inB t 0 100000
def outSignalPeriod_0 (n : Int) (p : RSignal) : Int := if sigB n p then max 1 (2 * (n - 1) * p.2.2) else 0
def outSignalPeriod_1 (n : Int) (p : RSignal) : Bool := sigB n p
def outTimesAt_0 (n : Int) (p : RSignal) (x y : Int) : List Int := if sigB n p && (inB x 0 (n - 1) && inB y 0 1000) then timesTo n.toNat p.1.toNat p.2.1 p.2.2.toNat x.toNat (y.toNat + 1) else []
def outTimesAt_1 (n : Int) (p : RSignal) (x y : Int) : Bool := sigB n p && (inB x 0 (n - 1) && inB y 0 1000)
theorem lenTimesAt_0 (n : Int) (p : RSignal) (x y : Int) : (outTimesAt_0 n p x y).length ≤ 4611686018427387904 := by
  unfold outTimesAt_0
  split
  · rename_i h
    rw [Bool.and_eq_true, Bool.and_eq_true] at h
    have := inB_yes h.2.2
    have := length_timesTo n.toNat p.1.toNat p.2.1 p.2.2.toNat x.toNat (y.toNat + 1)
    omega
  · simp
def outFirstMeeting_0 (n : Int) (p q : RSignal) : Int := if sigB n p && sigB n q then (match firstTo (meetP n p q) 100001 with | some t => (t : Int) | none => 0) else 0
def outFirstMeeting_1 (n : Int) (p q : RSignal) : Int := if sigB n p && sigB n q then (match firstTo (meetP n p q) 100001 with | some t => (posN n.toNat p.1.toNat p.2.1 p.2.2.toNat t : Nat) | none => 0) else 0
def outFirstMeeting_2 (n : Int) (p q : RSignal) : Bool := sigB n p && sigB n q && (firstTo (meetP n p q) 100001).isSome
def outCountMeetings_0 (n : Int) (p q : RSignal) (y : Int) : Int := if sigB n p && (sigB n q && inB y 0 1000) then (cntTo (meetP n p q) (y.toNat + 1) : Nat) else 0
def outCountMeetings_1 (n : Int) (p q : RSignal) (y : Int) : Bool := sigB n p && (sigB n q && inB y 0 1000)

set_option maxHeartbeats 400000 in
theorem specAreSignals_any (w : World) (n : Int) (a : Option Addr) (len cap : Nat) (ps : List RSignal) (_wn : (Lit.int .i64 n).wf = true) (hl : len ≤ 1048576) (hc : CameSignal w a len ps) :
    Calls Try.prog 14 #[.int .i64 n, .slice a len cap] w fun e w' => e = .returned (.bool (outAreSignals_0 n ps)) ∧ Below w.heap.size w w' := by
  have HG := Lib.hid (siList_any w n a len cap ps hl hc)
  have HE : Hid (outAreSignals_0 n ps = listB n ps) := rfl
  clear hc
  go_enter Try.func14, Try.ntmps14
  go_wp2_with fail
  go_at_call 41
  refine HG.out.mono ?_
  rintro e w2 ⟨rfl, b2⟩
  have B2 := Lib.hid b2
  clear b2
  go_wp2
  go_ret
  exact ⟨ret_bool (by rw [HE.out]), B2.out⟩

set_option maxHeartbeats 2000000 in
theorem specSignalAt_any (w : World) (n : Int) (f : Int) (l : Bool) (s : Int) (t : Int) (_wn : (Lit.int .i64 n).wf = true) (_wt : (Lit.int .i64 t).wf = true) :
    Calls Try.prog 18 #[.int .i64 n, .agg #[.int .i64 f, .bool l, .int .i64 s], .int .i64 t] w fun e w' => e = .returned (.tuple #[.int .i64 (outSignalAt_0 n (f, l, s) t), .bool (outSignalAt_1 n (f, l, s) t)]) ∧ Below w.heap.size w w' := by
  clear _wn _wt
  have HS := Lib.hid (fun w2 => siSignal_any n f s l w2)
  have HT := Lib.hid (fun w2 => siTime_any t w2)
  have HB0 : Hid (Below w.heap.size w (w.alloc (.cells #[.int .i64 f, .bool l, .int .i64 s] 33))) := Lib.hid ((Below.refl _ _).alloc (Nat.le_refl _) _)
  have HK : Hid (∀ w2, Below (w.alloc (.cells #[.int .i64 f, .bool l, .int .i64 s] 33)).heap.size (w.alloc (.cells #[.int .i64 f, .bool l, .int .i64 s] 33)) w2 → BoxS w2 w.heap.size f l s ∧ Below w.heap.size w w2) := Lib.hid (fun w2 h => ⟨(boxS_new w f s l).below h, HB0.out.trans (h.mono HB0.out.size)⟩)
  rcases hb0 : sigB n (f, l, s) with _ | _
  · have H0 : Hid (outSignalAt_0 n (f, l, s) t = 0 ∧ outSignalAt_1 n (f, l, s) t = false) := Lib.hid (by unfold outSignalAt_0 outSignalAt_1; rw [hb0]; exact ⟨rfl, rfl⟩)
    rw [hb0] at HS
    clear hb0
    go_enter Try.func18, Try.ntmps18
    go_wp2_with fail
    go_at_call 44
    refine (HS.out _).mono ?_
    rintro e w2 ⟨rfl, bb⟩
    have Kw2 : Hid (Below (w.alloc (.cells #[.int .i64 f, .bool l, .int .i64 s] 33)).heap.size (w.alloc (.cells #[.int .i64 f, .bool l, .int .i64 s] 33)) w2) := Lib.hid (bb)
    clear bb
    obtain ⟨⟨c0, c1, c2⟩, _⟩ := HK.out _ Kw2.out
    go_wp2
    go_ret2
    exact ⟨by rw [H0.out.1, H0.out.2]; exact rfl, (HK.out _ Kw2.out).2⟩
  rcases hb1 : inB t 0 100000 with _ | _
  · have H0 : Hid (outSignalAt_0 n (f, l, s) t = 0 ∧ outSignalAt_1 n (f, l, s) t = false) := Lib.hid (by unfold outSignalAt_0 outSignalAt_1; rw [hb0, hb1]; exact ⟨rfl, rfl⟩)
    rw [hb0] at HS
    rw [hb1] at HT
    clear hb0 hb1
    go_enter Try.func18, Try.ntmps18
    go_wp2_with fail
    go_at_call 44
    refine (HS.out _).mono ?_
    rintro e w2 ⟨rfl, bb⟩
    have Kw2 : Hid (Below (w.alloc (.cells #[.int .i64 f, .bool l, .int .i64 s] 33)).heap.size (w.alloc (.cells #[.int .i64 f, .bool l, .int .i64 s] 33)) w2) := Lib.hid (bb)
    clear bb
    obtain ⟨⟨c0, c1, c2⟩, _⟩ := HK.out _ Kw2.out
    go_wp2_with fail
    go_at_call 45
    refine (HT.out _).mono ?_
    rintro e ww ⟨rfl, rfl⟩
    go_wp2
    go_ret2
    exact ⟨by rw [H0.out.1, H0.out.2]; exact rfl, (HK.out _ Kw2.out).2⟩
  · obtain ⟨N, F, S, rfl, hp, hg⟩ := sig_nat hb0
    obtain ⟨rfl, rfl⟩ : f = (F : Int) ∧ s = (S : Int) := by injection hp with h1 h2; injection h2 with _ h3; exact ⟨h1, h3⟩
    obtain ⟨t1, t2⟩ := inB_yes hb1
    obtain ⟨T, rfl⟩ : ∃ T : Nat, t = (T : Int) := ⟨t.toNat, by omega⟩
    have H0 : Hid (outSignalAt_0 N ((F : Int), l, (S : Int)) T = (posN N F l S T : Nat) ∧ outSignalAt_1 N ((F : Int), l, (S : Int)) T = true) := Lib.hid (by unfold outSignalAt_0 outSignalAt_1; rw [hb0, hb1]; exact ⟨rfl, rfl⟩)
    have HA := Lib.hid (fun w2 => siAt_any N F S T l hg (by omega) w2)
    rw [hb0] at HS
    rw [hb1] at HT
    clear hb0 hb1 hp hg
    go_enter Try.func18, Try.ntmps18
    go_wp2_with fail
    go_at_call 44
    refine (HS.out _).mono ?_
    rintro e w2 ⟨rfl, bb⟩
    have Kw2 : Hid (Below (w.alloc (.cells #[.int .i64 (F : Int), .bool l, .int .i64 (S : Int)] 33)).heap.size (w.alloc (.cells #[.int .i64 (F : Int), .bool l, .int .i64 (S : Int)] 33)) w2) := Lib.hid (bb)
    clear bb
    obtain ⟨⟨c0, c1, c2⟩, _⟩ := HK.out _ Kw2.out
    go_wp2_with fail
    go_at_call 45
    refine (HT.out _).mono ?_
    rintro e ww ⟨rfl, rfl⟩
    go_wp2_with fail
    go_at_call 46
    refine (HA.out _).mono ?_
    rintro e w3 ⟨rfl, bb⟩
    have Kw3 : Hid (Below (w.alloc (.cells #[.int .i64 (F : Int), .bool l, .int .i64 (S : Int)] 33)).heap.size (w.alloc (.cells #[.int .i64 (F : Int), .bool l, .int .i64 (S : Int)] 33)) w3) := Lib.hid (Kw2.out.trans (bb.mono Kw2.out.size))
    clear bb c0 c1 c2
    obtain ⟨⟨c0, c1, c2⟩, _⟩ := HK.out _ Kw3.out
    go_wp2
    go_ret2
    exact ⟨by rw [H0.out.1, H0.out.2]; exact rfl, (HK.out _ Kw3.out).2⟩

set_option maxHeartbeats 2000000 in
theorem specSignalPeriod_any (w : World) (n : Int) (f : Int) (l : Bool) (s : Int) (_wn : (Lit.int .i64 n).wf = true) :
    Calls Try.prog 21 #[.int .i64 n, .agg #[.int .i64 f, .bool l, .int .i64 s]] w fun e w' => e = .returned (.tuple #[.int .i64 (outSignalPeriod_0 n (f, l, s)), .bool (outSignalPeriod_1 n (f, l, s))]) ∧ Below w.heap.size w w' := by
  clear _wn
  have HS := Lib.hid (fun w2 => siSignal_any n f s l w2)
  have HB0 : Hid (Below w.heap.size w (w.alloc (.cells #[.int .i64 f, .bool l, .int .i64 s] 33))) := Lib.hid ((Below.refl _ _).alloc (Nat.le_refl _) _)
  have HK : Hid (∀ w2, Below (w.alloc (.cells #[.int .i64 f, .bool l, .int .i64 s] 33)).heap.size (w.alloc (.cells #[.int .i64 f, .bool l, .int .i64 s] 33)) w2 → BoxS w2 w.heap.size f l s ∧ Below w.heap.size w w2) := Lib.hid (fun w2 h => ⟨(boxS_new w f s l).below h, HB0.out.trans (h.mono HB0.out.size)⟩)
  rcases hb0 : sigB n (f, l, s) with _ | _
  · have H0 : Hid (outSignalPeriod_0 n (f, l, s) = 0 ∧ outSignalPeriod_1 n (f, l, s) = false) := Lib.hid (by unfold outSignalPeriod_0 outSignalPeriod_1; rw [hb0]; exact ⟨rfl, rfl⟩)
    rw [hb0] at HS
    clear hb0
    go_enter Try.func21, Try.ntmps21
    go_wp2_with fail
    go_at_call 44
    refine (HS.out _).mono ?_
    rintro e w2 ⟨rfl, bb⟩
    have Kw2 : Hid (Below (w.alloc (.cells #[.int .i64 f, .bool l, .int .i64 s] 33)).heap.size (w.alloc (.cells #[.int .i64 f, .bool l, .int .i64 s] 33)) w2) := Lib.hid (bb)
    clear bb
    obtain ⟨⟨c0, c1, c2⟩, _⟩ := HK.out _ Kw2.out
    go_wp2
    go_ret2
    exact ⟨by rw [H0.out.1, H0.out.2]; exact rfl, (HK.out _ Kw2.out).2⟩
  · have hb := hb0
    unfold sigB at hb
    rw [Bool.and_eq_true, Bool.and_eq_true] at hb
    obtain ⟨n1, n2⟩ := inB_yes hb.1
    obtain ⟨s1, s2⟩ := inB_yes hb.2.2
    simp only at s1 s2
    obtain ⟨k, hk⟩ : ∃ k, k = 2 * (n - 1) * s := ⟨_, rfl⟩
    have k1 : 0 ≤ k := by rw [hk]; exact Int.mul_nonneg (by omega) (by omega)
    have k2 : k ≤ 198 * 10 := by rw [hk]; exact Int.mul_le_mul (by omega) (by omega) (by omega) (by omega)
    have H0 : Hid (outSignalPeriod_0 n (f, l, s) = max 1 k ∧ outSignalPeriod_1 n (f, l, s) = true) := Lib.hid (by unfold outSignalPeriod_0 outSignalPeriod_1; rw [hb0, hk]; exact ⟨rfl, rfl⟩)
    have HM := Lib.hid (fun w2 => l1Most_q 1 k w2)
    obtain ⟨r, hr⟩ : ∃ r, r = 2 * (n - 1) := ⟨_, rfl⟩
    have e1 : r * s = k := by rw [hk, hr]
    have e0 : 2 * (n - 1) = r := hr.symm
    have r1 : 0 ≤ r := by omega
    have r2 : r ≤ 198 := by omega
    rw [hb0] at HS
    clear hb0 hb hk hr
    go_enter Try.func21, Try.ntmps21
    go_wp2_with fail
    go_at_call 44
    refine (HS.out _).mono ?_
    rintro e w2 ⟨rfl, bb⟩
    have Kw2 : Hid (Below (w.alloc (.cells #[.int .i64 f, .bool l, .int .i64 s] 33)).heap.size (w.alloc (.cells #[.int .i64 f, .bool l, .int .i64 s] 33)) w2) := Lib.hid (bb)
    clear bb
    obtain ⟨⟨c0, c1, c2⟩, _⟩ := HK.out _ Kw2.out
    go_wp2_with fail
    go_at_call 49
    refine (HM.out _).mono ?_
    rintro e w3 ⟨rfl, h3⟩
    rw [h3]
    clear h3
    go_wp2
    go_ret2
    exact ⟨by rw [H0.out.1, H0.out.2]; exact rfl, (HK.out _ Kw2.out).2⟩

set_option maxHeartbeats 4000000 in
theorem specTimesAt_any (w : World) (n : Int) (f : Int) (l : Bool) (s : Int) (x : Int) (y : Int) (_wn : (Lit.int .i64 n).wf = true) (_wx : (Lit.int .i64 x).wf = true) (_wy : (Lit.int .i64 y).wf = true) :
    Calls Try.prog 23 #[.int .i64 n, .agg #[.int .i64 f, .bool l, .int .i64 s], .int .i64 x, .int .i64 y] w fun e w' => ∃ v0, e = .returned (.tuple #[v0, .bool (outTimesAt_1 n (f, l, s) x y)]) ∧ Own w' w.heap.size v0 (outTimesAt_0 n (f, l, s) x y) ∧ Below w.heap.size w w' := by
  clear _wn _wx _wy
  have HS := Lib.hid (fun w2 => siSignal_any n f s l w2)
  have HX := Lib.hid (fun w2 => l1In_any x 0 (n - 1) w2)
  have HY := Lib.hid (fun w2 => l1In_any y 0 1000 w2)
  have HB0 : Hid (Below w.heap.size w (w.alloc (.cells #[.int .i64 f, .bool l, .int .i64 s] 33))) := Lib.hid ((Below.refl _ _).alloc (Nat.le_refl _) _)
  have HK : Hid (∀ w2, Below (w.alloc (.cells #[.int .i64 f, .bool l, .int .i64 s] 33)).heap.size (w.alloc (.cells #[.int .i64 f, .bool l, .int .i64 s] 33)) w2 → BoxS w2 w.heap.size f l s ∧ Below w.heap.size w w2) := Lib.hid (fun w2 h => ⟨(boxS_new w f s l).below h, HB0.out.trans (h.mono HB0.out.size)⟩)
  rcases hb0 : sigB n (f, l, s) with _ | _
  ·
    have H0 : Hid (outTimesAt_0 n (f, l, s) x y = [] ∧ outTimesAt_1 n (f, l, s) x y = false) := Lib.hid (by unfold outTimesAt_0 outTimesAt_1; rw [hb0]; exact ⟨rfl, rfl⟩)
    rw [hb0] at HS
    clear hb0
    go_enter Try.func23, Try.ntmps23
    go_wp2_with fail
    go_at_call 44
    refine (HS.out _).mono ?_
    rintro e w2 ⟨rfl, bb⟩
    have Kw2 : Hid (Below (w.alloc (.cells #[.int .i64 f, .bool l, .int .i64 s] 33)).heap.size (w.alloc (.cells #[.int .i64 f, .bool l, .int .i64 s] 33)) w2) := Lib.hid (bb)
    clear bb
    obtain ⟨⟨c0, c1, c2⟩, _⟩ := HK.out _ Kw2.out
    go_wp2
    go_ret2
    exact ⟨_, by rw [H0.out.2]; exact rfl, by rw [H0.out.1]; exact own_nil _ _, (HK.out _ Kw2.out).2⟩

  have hn0 := hb0
  unfold sigB at hn0
  rw [Bool.and_eq_true] at hn0
  obtain ⟨n1, n2⟩ := inB_yes hn0.1
  clear hn0
  rcases hb1 : inB x 0 (n - 1) with _ | _
  ·
    have H0 : Hid (outTimesAt_0 n (f, l, s) x y = [] ∧ outTimesAt_1 n (f, l, s) x y = false) := Lib.hid (by unfold outTimesAt_0 outTimesAt_1; rw [hb0, hb1]; exact ⟨rfl, rfl⟩)
    rw [hb0] at HS
    rw [hb1] at HX
    clear hb0 hb1
    go_enter Try.func23, Try.ntmps23
    go_wp2_with fail
    go_at_call 44
    refine (HS.out _).mono ?_
    rintro e w2 ⟨rfl, bb⟩
    have Kw2 : Hid (Below (w.alloc (.cells #[.int .i64 f, .bool l, .int .i64 s] 33)).heap.size (w.alloc (.cells #[.int .i64 f, .bool l, .int .i64 s] 33)) w2) := Lib.hid (bb)
    clear bb
    obtain ⟨⟨c0, c1, c2⟩, _⟩ := HK.out _ Kw2.out
    go_wp2_with fail
    go_at_call 51
    refine (HX.out _).mono ?_
    rintro e ww ⟨rfl, rfl⟩
    go_wp2
    go_ret2
    exact ⟨_, by rw [H0.out.2]; exact rfl, by rw [H0.out.1]; exact own_nil _ _, (HK.out _ Kw2.out).2⟩

  rcases hb2 : inB y 0 1000 with _ | _
  ·
    have H0 : Hid (outTimesAt_0 n (f, l, s) x y = [] ∧ outTimesAt_1 n (f, l, s) x y = false) := Lib.hid (by unfold outTimesAt_0 outTimesAt_1; rw [hb0, hb1, hb2]; exact ⟨rfl, rfl⟩)
    rw [hb0] at HS
    rw [hb1] at HX
    rw [hb2] at HY
    clear hb0 hb1 hb2
    go_enter Try.func23, Try.ntmps23
    go_wp2_with fail
    go_at_call 44
    refine (HS.out _).mono ?_
    rintro e w2 ⟨rfl, bb⟩
    have Kw2 : Hid (Below (w.alloc (.cells #[.int .i64 f, .bool l, .int .i64 s] 33)).heap.size (w.alloc (.cells #[.int .i64 f, .bool l, .int .i64 s] 33)) w2) := Lib.hid (bb)
    clear bb
    obtain ⟨⟨c0, c1, c2⟩, _⟩ := HK.out _ Kw2.out
    go_wp2_with fail
    go_at_call 51
    refine (HX.out _).mono ?_
    rintro e ww ⟨rfl, rfl⟩
    go_wp2_with fail
    go_at_call 51
    refine (HY.out _).mono ?_
    rintro e ww ⟨rfl, rfl⟩
    go_wp2
    go_ret2
    exact ⟨_, by rw [H0.out.2]; exact rfl, by rw [H0.out.1]; exact own_nil _ _, (HK.out _ Kw2.out).2⟩

  · obtain ⟨N, F, S, rfl, hp, hg⟩ := sig_nat hb0
    obtain ⟨rfl, rfl⟩ : f = (F : Int) ∧ s = (S : Int) := by injection hp with h1 h2; injection h2 with _ h3; exact ⟨h1, h3⟩
    obtain ⟨x1, x2⟩ := inB_yes hb1
    obtain ⟨y1, y2⟩ := inB_yes hb2
    obtain ⟨X, rfl⟩ : ∃ T : Nat, x = (T : Int) := ⟨x.toNat, by omega⟩
    obtain ⟨Y, rfl⟩ : ∃ T : Nat, y = (T : Int) := ⟨y.toNat, by omega⟩
    have H0 : Hid (outTimesAt_0 N ((F : Int), l, (S : Int)) X Y = timesTo N F l S X (Y + 1) ∧ outTimesAt_1 N ((F : Int), l, (S : Int)) X Y = true) := Lib.hid (by unfold outTimesAt_0 outTimesAt_1; rw [hb0, hb1, hb2]; exact ⟨rfl, rfl⟩)
    have HC := Lib.hid (fun T (h : T ≤ 1000000) w2 => siComes_any N F S T l hg h w2)
    have HA := Lib.hid (fun T (h : T ≤ 1000000) w2 => siAt_any N F S T l hg h w2)
    rw [hb0] at HS
    rw [hb1] at HX
    rw [hb2] at HY
    clear hb0 hb1 hb2 hp hg
    go_enter Try.func23, Try.ntmps23
    go_wp2_with fail
    go_at_call 44
    refine (HS.out _).mono ?_
    rintro e w2 ⟨rfl, bb⟩
    have Kw2 : Hid (Below (w.alloc (.cells #[.int .i64 (F : Int), .bool l, .int .i64 (S : Int)] 33)).heap.size (w.alloc (.cells #[.int .i64 (F : Int), .bool l, .int .i64 (S : Int)] 33)) w2) := Lib.hid (bb)
    clear bb
    obtain ⟨⟨c0, c1, c2⟩, _⟩ := HK.out _ Kw2.out
    go_wp2_with fail
    go_at_call 51
    refine (HX.out _).mono ?_
    rintro e ww ⟨rfl, rfl⟩
    go_wp2_with fail
    go_at_call 51
    refine (HY.out _).mono ?_
    rintro e ww ⟨rfl, rfl⟩
    clear c0 c1 c2
    go_wp2_with fail
    go_loopw [10, 11] (fun v i wr => ∃ k : Nat, k ≤ Y + 1 ∧ i = .int .i64 (k : Int) ∧ Hid (Own wr (w.heap.size + 1) v (timesTo N F l S X k)) ∧ Hid (Below (w.alloc (.cells #[.int .i64 (F : Int), .bool l, .int .i64 (S : Int)] 33)).heap.size (w.alloc (.cells #[.int .i64 (F : Int), .bool l, .int .i64 (S : Int)] 33)) wr)) (fun _ i _ => Y + 1 - (intOf i).toNat)
    case atStart => exact ⟨0, Nat.zero_le _, rfl, Lib.hid (own_nil _ _), Kw2⟩
    case round =>
      obtain ⟨k, hk, rfl, HO, HB⟩ := hrel
      by_cases hlt : k < Y + 1
      · have hkT : k ≤ 1000000 := by omega
        have HCk := Lib.hid (HC.out k hkT)
        have HAk := Lib.hid (HA.out k hkT)
        have i2 : (k : Int) ≤ (Y : Int) := by omega
        have HSY := Lib.hid (@timesTo_yes N F S X k l)
        have HSN := Lib.hid (@timesTo_no N F S X k l)
        have hbl : (timesTo N F l S X k).length ≤ 1000000000 := by have := length_timesTo N F l S X k; omega
        obtain ⟨⟨c0, c1, c2⟩, _⟩ := HK.out _ HB.out
        have HZ1 : Hid ((w.alloc (.cells #[.int .i64 (F : Int), .bool l, .int .i64 (S : Int)] 33)).heap.size = w.heap.size + 1) := Lib.hid (alloc_size1 _ _)
        obtain ⟨q, hq⟩ : ∃ q, q = posN N F l S k := ⟨_, rfl⟩
        rw [← hq] at HAk HSY HSN
        clear hq
        rcases hcm : comesB N S k with _ | _
        · have HS2 := Lib.hid (HSN.out (by rw [hcm]; rfl))
          rw [hcm] at HCk
          clear hcm HSY HSN
          go_wp2_with fail
          go_at_call 52
          refine (HCk.out _).mono ?_
          rintro e w3 ⟨rfl, bb⟩
          have HB3 : Hid (Below (w.alloc (.cells #[.int .i64 (F : Int), .bool l, .int .i64 (S : Int)] 33)).heap.size (w.alloc (.cells #[.int .i64 (F : Int), .bool l, .int .i64 (S : Int)] 33)) w3) := Lib.hid (HB.out.trans (bb.mono HB.out.size))
          have HO3 := Lib.hid (HO.out.below bb (Nat.le_refl _))
          clear bb c0 c1 c2
          go_wp2
          go_roundw
          case rel => exact ⟨k + 1, by omega, by go_num, Lib.hid (by rw [HS2.out]; exact HO3.out), HB3⟩
          case measure => simp [intOf]; omega
        · rw [hcm] at HCk
          by_cases hqX : q = X
          · have HS2 := Lib.hid (HSY.out (by rw [hcm, decide_eq_true hqX]; rfl))
            have hqq : ((q : Int) == (X : Int)) = true := by rw [beq_iff_eq]; omega
            clear hcm HSY HSN hqX
            go_wp2_with fail
            go_at_call 52
            refine (HCk.out _).mono ?_
            rintro e w3 ⟨rfl, bb⟩
            have HB3 : Hid (Below (w.alloc (.cells #[.int .i64 (F : Int), .bool l, .int .i64 (S : Int)] 33)).heap.size (w.alloc (.cells #[.int .i64 (F : Int), .bool l, .int .i64 (S : Int)] 33)) w3) := Lib.hid (HB.out.trans (bb.mono HB.out.size))
            have HO3 := Lib.hid (HO.out.below bb (Nat.le_refl _))
            clear bb c0 c1 c2
            obtain ⟨⟨c0, c1, c2⟩, _⟩ := HK.out _ HB3.out
            go_wp2_with fail
            go_at_call 46
            refine (HAk.out _).mono ?_
            rintro e w4 ⟨rfl, bb⟩
            have HB4 : Hid (Below (w.alloc (.cells #[.int .i64 (F : Int), .bool l, .int .i64 (S : Int)] 33)).heap.size (w.alloc (.cells #[.int .i64 (F : Int), .bool l, .int .i64 (S : Int)] 33)) w4) := Lib.hid (HB3.out.trans (bb.mono HB3.out.size))
            have HO4 := Lib.hid (HO3.out.below bb (Nat.le_refl _))
            clear bb c0 c1 c2
            have hz : w.heap.size + 1 ≤ w4.heap.size := by have := HB4.out.size; have := HZ1.out; omega
            go_wp2_with (at_builtin; refine wpList_app rfl _ _ rfl w4 _ _ _ _ rfl rfl HO4.out hz hbl ?_; intro v5 w5 hO5 hB5; have HO5 : Hid (Own w5 (w.heap.size + 1) v5 (timesTo N F l S X (k + 1))) := Lib.hid (by rw [HS2.out]; exact hO5); have HB5 : Hid (Below (w.alloc (.cells #[.int .i64 (F : Int), .bool l, .int .i64 (S : Int)] 33)).heap.size (w.alloc (.cells #[.int .i64 (F : Int), .bool l, .int .i64 (S : Int)] 33)) w5) := Lib.hid (HB4.out.trans (by rw [HZ1.out]; exact hB5)); clear hO5 hB5)
            go_roundw
            case rel => exact ⟨k + 1, by omega, by go_num, HO5, HB5⟩
            case measure => simp [intOf]; omega
          · have HS2 := Lib.hid (HSN.out (by rw [hcm, decide_eq_false hqX]; rfl))
            have hqq : ((q : Int) == (X : Int)) = false := by rw [beq_eq_false_iff_ne]; omega
            clear hcm HSY HSN hqX
            go_wp2_with fail
            go_at_call 52
            refine (HCk.out _).mono ?_
            rintro e w3 ⟨rfl, bb⟩
            have HB3 : Hid (Below (w.alloc (.cells #[.int .i64 (F : Int), .bool l, .int .i64 (S : Int)] 33)).heap.size (w.alloc (.cells #[.int .i64 (F : Int), .bool l, .int .i64 (S : Int)] 33)) w3) := Lib.hid (HB.out.trans (bb.mono HB.out.size))
            have HO3 := Lib.hid (HO.out.below bb (Nat.le_refl _))
            clear bb c0 c1 c2
            obtain ⟨⟨c0, c1, c2⟩, _⟩ := HK.out _ HB3.out
            go_wp2_with fail
            go_at_call 46
            refine (HAk.out _).mono ?_
            rintro e w4 ⟨rfl, bb⟩
            have HB4 : Hid (Below (w.alloc (.cells #[.int .i64 (F : Int), .bool l, .int .i64 (S : Int)] 33)).heap.size (w.alloc (.cells #[.int .i64 (F : Int), .bool l, .int .i64 (S : Int)] 33)) w4) := Lib.hid (HB3.out.trans (bb.mono HB3.out.size))
            have HO4 := Lib.hid (HO3.out.below bb (Nat.le_refl _))
            clear bb c0 c1 c2
            go_wp2
            go_roundw
            case rel => exact ⟨k + 1, by omega, by go_num, Lib.hid (by rw [HS2.out]; exact HO4.out), HB4⟩
            case measure => simp [intOf]; omega
      · have i2 : ¬ (k : Int) ≤ (Y : Int) := by omega
        have HF : Hid (timesTo N F l S X k = timesTo N F l S X (Y + 1)) := Lib.hid (by rw [show k = Y + 1 by omega])
        go_wp2
        go_ret2
        exact ⟨_, by rw [H0.out.2]; exact rfl, by rw [H0.out.1, ← HF.out]; exact HO.out.mono (by omega), (HK.out _ HB.out).2⟩

set_option maxHeartbeats 4000000 in
theorem specFirstMeeting_any (w : World) (n : Int) (f : Int) (l : Bool) (s : Int) (g : Int) (m : Bool) (u : Int) (_wn : (Lit.int .i64 n).wf = true) :
    Calls Try.prog 28 #[.int .i64 n, .agg #[.int .i64 f, .bool l, .int .i64 s], .agg #[.int .i64 g, .bool m, .int .i64 u]] w fun e w' => e = .returned (.tuple #[.int .i64 (outFirstMeeting_0 n (f, l, s) (g, m, u)), .int .i64 (outFirstMeeting_1 n (f, l, s) (g, m, u)), .bool (outFirstMeeting_2 n (f, l, s) (g, m, u))]) ∧ Below w.heap.size w w' := by
  clear _wn
  have HS := Lib.hid (fun w2 => siSignal_any n f s l w2)
  have HT := Lib.hid (fun w2 => siSignal_any n g u m w2)
  have HB0 : Hid (Below w.heap.size w ((w.alloc (.cells #[.int .i64 f, .bool l, .int .i64 s] 33)).alloc (.cells #[.int .i64 g, .bool m, .int .i64 u] 33))) := Lib.hid (((Below.refl _ _).alloc (Nat.le_refl _) _).alloc (by rw [alloc_size1]; omega) _)
  have HK : Hid (∀ w2, Below ((w.alloc (.cells #[.int .i64 f, .bool l, .int .i64 s] 33)).alloc (.cells #[.int .i64 g, .bool m, .int .i64 u] 33)).heap.size ((w.alloc (.cells #[.int .i64 f, .bool l, .int .i64 s] 33)).alloc (.cells #[.int .i64 g, .bool m, .int .i64 u] 33)) w2 → BoxS w2 w.heap.size f l s ∧ BoxS w2 (w.heap.size + 1) g m u ∧ Below w.heap.size w w2) := Lib.hid (fun w2 h => by
    have k1 : BoxS ((w.alloc (.cells #[.int .i64 f, .bool l, .int .i64 s] 33)).alloc (.cells #[.int .i64 g, .bool m, .int .i64 u] 33)) w.heap.size f l s := (boxS_new w f s l).below ((Below.refl _ _).alloc (Nat.le_refl _) _)
    have k2 := boxS_new (w.alloc (.cells #[.int .i64 f, .bool l, .int .i64 s] 33)) g u m
    rw [alloc_size1] at k2
    exact ⟨k1.below h, k2.below h, HB0.out.trans (h.mono HB0.out.size)⟩)
  rcases hb0 : sigB n (f, l, s) with _ | _
  ·
    have H0 : Hid (outFirstMeeting_0 n (f, l, s) (g, m, u) = 0 ∧ outFirstMeeting_1 n (f, l, s) (g, m, u) = 0 ∧ outFirstMeeting_2 n (f, l, s) (g, m, u) = false) := Lib.hid (by unfold outFirstMeeting_0 outFirstMeeting_1 outFirstMeeting_2; rw [hb0]; exact ⟨rfl, rfl, rfl⟩)
    rw [hb0] at HS
    clear hb0
    go_enter Try.func28, Try.ntmps28
    go_wp2_with fail
    go_at_call 44
    refine (HS.out _).mono ?_
    rintro e w2 ⟨rfl, bb⟩
    have Kw2 : Hid (Below ((w.alloc (.cells #[.int .i64 f, .bool l, .int .i64 s] 33)).alloc (.cells #[.int .i64 g, .bool m, .int .i64 u] 33)).heap.size ((w.alloc (.cells #[.int .i64 f, .bool l, .int .i64 s] 33)).alloc (.cells #[.int .i64 g, .bool m, .int .i64 u] 33)) w2) := Lib.hid (bb)
    clear bb
    obtain ⟨⟨c0, c1, c2⟩, ⟨d0, d1, d2⟩, _⟩ := HK.out _ Kw2.out
    go_wp2
    go_ret3
    exact ⟨by rw [H0.out.1, H0.out.2.1, H0.out.2.2]; exact rfl, (HK.out _ Kw2.out).2.2⟩

  rcases hb1 : sigB n (g, m, u) with _ | _
  ·
    have H0 : Hid (outFirstMeeting_0 n (f, l, s) (g, m, u) = 0 ∧ outFirstMeeting_1 n (f, l, s) (g, m, u) = 0 ∧ outFirstMeeting_2 n (f, l, s) (g, m, u) = false) := Lib.hid (by unfold outFirstMeeting_0 outFirstMeeting_1 outFirstMeeting_2; rw [hb0, hb1]; exact ⟨rfl, rfl, rfl⟩)
    rw [hb0] at HS
    rw [hb1] at HT
    clear hb0 hb1
    go_enter Try.func28, Try.ntmps28
    go_wp2_with fail
    go_at_call 44
    refine (HS.out _).mono ?_
    rintro e w2 ⟨rfl, bb⟩
    have Kw2 : Hid (Below ((w.alloc (.cells #[.int .i64 f, .bool l, .int .i64 s] 33)).alloc (.cells #[.int .i64 g, .bool m, .int .i64 u] 33)).heap.size ((w.alloc (.cells #[.int .i64 f, .bool l, .int .i64 s] 33)).alloc (.cells #[.int .i64 g, .bool m, .int .i64 u] 33)) w2) := Lib.hid (bb)
    clear bb
    obtain ⟨⟨c0, c1, c2⟩, ⟨d0, d1, d2⟩, _⟩ := HK.out _ Kw2.out
    go_wp2_with fail
    go_at_call 44
    refine (HT.out _).mono ?_
    rintro e w3 ⟨rfl, bb⟩
    have Kw3 : Hid (Below ((w.alloc (.cells #[.int .i64 f, .bool l, .int .i64 s] 33)).alloc (.cells #[.int .i64 g, .bool m, .int .i64 u] 33)).heap.size ((w.alloc (.cells #[.int .i64 f, .bool l, .int .i64 s] 33)).alloc (.cells #[.int .i64 g, .bool m, .int .i64 u] 33)) w3) := Lib.hid (Kw2.out.trans (bb.mono Kw2.out.size))
    clear bb c0 c1 c2 d0 d1 d2
    obtain ⟨⟨c0, c1, c2⟩, ⟨d0, d1, d2⟩, _⟩ := HK.out _ Kw3.out
    go_wp2
    go_ret3
    exact ⟨by rw [H0.out.1, H0.out.2.1, H0.out.2.2]; exact rfl, (HK.out _ Kw3.out).2.2⟩

  ·
    obtain ⟨N, F, S, rfl, hp, hg⟩ := sig_nat hb0
    obtain ⟨rfl, rfl⟩ : f = (F : Int) ∧ s = (S : Int) := by injection hp with h1 h2; injection h2 with _ h3; exact ⟨h1, h3⟩
    obtain ⟨N2, P, U, hN, hp2, hg2⟩ := sig_nat hb1
    obtain rfl : N = N2 := by omega
    obtain ⟨rfl, rfl⟩ : g = (P : Int) ∧ u = (U : Int) := by injection hp2 with h1 h2; injection h2 with _ h3; exact ⟨h1, h3⟩
    have HM := Lib.hid (fun T (h : T ≤ 1000000) w2 => siMeet_any N F S P U T l m hg hg2 h w2)
    have HA := Lib.hid (fun T (h : T ≤ 1000000) w2 => siAt_any N F S T l hg h w2)
    obtain ⟨p, hpp⟩ : ∃ p, p = meetB N F l S P m U := ⟨_, rfl⟩
    have HP := Lib.hid (show ∀ T, p T = meetB N F l S P m U T from fun T => by rw [hpp])
    have HE1 : Hid (∀ k, (∀ j, j < k → p j = false) → p k = true → k < 100001 → outFirstMeeting_0 N ((F : Int), l, (S : Int)) ((P : Int), m, (U : Int)) = (k : Int) ∧ outFirstMeeting_1 N ((F : Int), l, (S : Int)) ((P : Int), m, (U : Int)) = (posN N F l S k : Nat) ∧ outFirstMeeting_2 N ((F : Int), l, (S : Int)) ((P : Int), m, (U : Int)) = true) := Lib.hid (fun k h1 h2 h3 => by
      have h4 : firstTo (meetP N ((F : Int), l, (S : Int)) ((P : Int), m, (U : Int))) 100001 = some k := by
        show firstTo (meetB N F l S P m U) 100001 = some k
        rw [← hpp]; exact firstTo_hit h1 h2 h3
      unfold outFirstMeeting_0 outFirstMeeting_1 outFirstMeeting_2
      rw [hb0, hb1, h4]; exact ⟨rfl, rfl, rfl⟩)
    have HE2 : Hid ((∀ j, j < 100001 → p j = false) → outFirstMeeting_0 N ((F : Int), l, (S : Int)) ((P : Int), m, (U : Int)) = 0 ∧ outFirstMeeting_1 N ((F : Int), l, (S : Int)) ((P : Int), m, (U : Int)) = 0 ∧ outFirstMeeting_2 N ((F : Int), l, (S : Int)) ((P : Int), m, (U : Int)) = false) := Lib.hid (fun h1 => by
      have h4 : firstTo (meetP N ((F : Int), l, (S : Int)) ((P : Int), m, (U : Int))) 100001 = none := by
        show firstTo (meetB N F l S P m U) 100001 = none
        rw [← hpp]; exact firstTo_miss h1
      unfold outFirstMeeting_0 outFirstMeeting_1 outFirstMeeting_2
      rw [hb0, hb1, h4]; exact ⟨rfl, rfl, rfl⟩)
    rw [hb0] at HS
    rw [hb1] at HT
    clear hb0 hb1 hp hp2 hg hg2 hN hpp
    go_enter Try.func28, Try.ntmps28
    go_wp2_with fail
    go_at_call 44
    refine (HS.out _).mono ?_
    rintro e w2 ⟨rfl, bb⟩
    have Kw2 : Hid (Below ((w.alloc (.cells #[.int .i64 (F : Int), .bool l, .int .i64 (S : Int)] 33)).alloc (.cells #[.int .i64 (P : Int), .bool m, .int .i64 (U : Int)] 33)).heap.size ((w.alloc (.cells #[.int .i64 (F : Int), .bool l, .int .i64 (S : Int)] 33)).alloc (.cells #[.int .i64 (P : Int), .bool m, .int .i64 (U : Int)] 33)) w2) := Lib.hid (bb)
    clear bb
    obtain ⟨⟨c0, c1, c2⟩, ⟨d0, d1, d2⟩, _⟩ := HK.out _ Kw2.out
    go_wp2_with fail
    go_at_call 44
    refine (HT.out _).mono ?_
    rintro e w3 ⟨rfl, bb⟩
    have Kw3 : Hid (Below ((w.alloc (.cells #[.int .i64 (F : Int), .bool l, .int .i64 (S : Int)] 33)).alloc (.cells #[.int .i64 (P : Int), .bool m, .int .i64 (U : Int)] 33)).heap.size ((w.alloc (.cells #[.int .i64 (F : Int), .bool l, .int .i64 (S : Int)] 33)).alloc (.cells #[.int .i64 (P : Int), .bool m, .int .i64 (U : Int)] 33)) w3) := Lib.hid (Kw2.out.trans (bb.mono Kw2.out.size))
    clear bb c0 c1 c2 d0 d1 d2
    obtain ⟨⟨c0, c1, c2⟩, ⟨d0, d1, d2⟩, _⟩ := HK.out _ Kw3.out
    clear c0 c1 c2 d0 d1 d2
    go_wp2_with fail
    go_loopw [9] (fun i wr => ∃ k : Nat, k ≤ 100001 ∧ i = .int .i64 (k : Int) ∧ Hid (∀ j, j < k → p j = false) ∧ Hid (Below ((w.alloc (.cells #[.int .i64 (F : Int), .bool l, .int .i64 (S : Int)] 33)).alloc (.cells #[.int .i64 (P : Int), .bool m, .int .i64 (U : Int)] 33)).heap.size ((w.alloc (.cells #[.int .i64 (F : Int), .bool l, .int .i64 (S : Int)] 33)).alloc (.cells #[.int .i64 (P : Int), .bool m, .int .i64 (U : Int)] 33)) wr)) (fun i _ => 100001 - (intOf i).toNat)
    case atStart => exact ⟨0, Nat.zero_le _, rfl, Lib.hid (fun j h => absurd h (Nat.not_lt_zero _)), Kw3⟩
    case round =>
      obtain ⟨k, hk, rfl, HN, HB⟩ := hrel
      by_cases hlt : k < 100001
      · have hkT : k ≤ 1000000 := by omega
        have HMk := Lib.hid (HM.out k hkT)
        have HAk := Lib.hid (HA.out k hkT)
        have i2 : (k : Int) ≤ 100000 := by omega
        have HPk := Lib.hid (HP.out k)
        obtain ⟨⟨c0, c1, c2⟩, ⟨d0, d1, d2⟩, _⟩ := HK.out _ HB.out
        rcases hcm : meetB N F l S P m U k with _ | _
        · rw [hcm] at HMk HPk
          have HN2 : Hid (∀ j, j < k + 1 → p j = false) := Lib.hid (fun j hj => by
            by_cases e : j = k
            · subst e; exact HPk.out
            · exact HN.out j (by omega))
          clear hcm
          go_wp2_with fail
          go_at_call 56
          refine (HMk.out _).mono ?_
          rintro e w4 ⟨rfl, bb⟩
          have HB4 : Hid (Below ((w.alloc (.cells #[.int .i64 (F : Int), .bool l, .int .i64 (S : Int)] 33)).alloc (.cells #[.int .i64 (P : Int), .bool m, .int .i64 (U : Int)] 33)).heap.size ((w.alloc (.cells #[.int .i64 (F : Int), .bool l, .int .i64 (S : Int)] 33)).alloc (.cells #[.int .i64 (P : Int), .bool m, .int .i64 (U : Int)] 33)) w4) := Lib.hid (HB.out.trans (bb.mono HB.out.size))
          clear bb c0 c1 c2 d0 d1 d2
          go_wp2
          go_roundw
          case rel => exact ⟨k + 1, by omega, by go_num, HN2, HB4⟩
          case measure => simp [intOf]; omega
        · rw [hcm] at HMk HPk
          have H0 := Lib.hid (HE1.out k HN.out HPk.out hlt)
          clear hcm
          go_wp2_with fail
          go_at_call 56
          refine (HMk.out _).mono ?_
          rintro e w4 ⟨rfl, bb⟩
          have HB4 : Hid (Below ((w.alloc (.cells #[.int .i64 (F : Int), .bool l, .int .i64 (S : Int)] 33)).alloc (.cells #[.int .i64 (P : Int), .bool m, .int .i64 (U : Int)] 33)).heap.size ((w.alloc (.cells #[.int .i64 (F : Int), .bool l, .int .i64 (S : Int)] 33)).alloc (.cells #[.int .i64 (P : Int), .bool m, .int .i64 (U : Int)] 33)) w4) := Lib.hid (HB.out.trans (bb.mono HB.out.size))
          clear bb c0 c1 c2 d0 d1 d2
          obtain ⟨⟨c0, c1, c2⟩, ⟨d0, d1, d2⟩, _⟩ := HK.out _ HB4.out
          go_wp2_with fail
          go_at_call 46
          refine (HAk.out _).mono ?_
          rintro e w5 ⟨rfl, bb⟩
          have HB5 : Hid (Below ((w.alloc (.cells #[.int .i64 (F : Int), .bool l, .int .i64 (S : Int)] 33)).alloc (.cells #[.int .i64 (P : Int), .bool m, .int .i64 (U : Int)] 33)).heap.size ((w.alloc (.cells #[.int .i64 (F : Int), .bool l, .int .i64 (S : Int)] 33)).alloc (.cells #[.int .i64 (P : Int), .bool m, .int .i64 (U : Int)] 33)) w5) := Lib.hid (HB4.out.trans (bb.mono HB4.out.size))
          clear bb c0 c1 c2 d0 d1 d2
          go_wp2
          go_ret3
          exact ⟨by rw [H0.out.1, H0.out.2.1, H0.out.2.2]; exact rfl, (HK.out _ HB5.out).2.2⟩
      · have i2 : ¬ (k : Int) ≤ 100000 := by omega
        have H0 := Lib.hid (HE2.out (fun j hj => HN.out j (by omega)))
        go_wp2
        go_ret3
        exact ⟨by rw [H0.out.1, H0.out.2.1, H0.out.2.2]; exact rfl, (HK.out _ HB.out).2.2⟩

set_option maxHeartbeats 4000000 in
theorem specCountMeetings_any (w : World) (n : Int) (f : Int) (l : Bool) (s : Int) (g : Int) (m : Bool) (u : Int) (y : Int) (_wn : (Lit.int .i64 n).wf = true) (_wy : (Lit.int .i64 y).wf = true) :
    Calls Try.prog 30 #[.int .i64 n, .agg #[.int .i64 f, .bool l, .int .i64 s], .agg #[.int .i64 g, .bool m, .int .i64 u], .int .i64 y] w fun e w' => e = .returned (.tuple #[.int .i64 (outCountMeetings_0 n (f, l, s) (g, m, u) y), .bool (outCountMeetings_1 n (f, l, s) (g, m, u) y)]) ∧ Below w.heap.size w w' := by
  clear _wn _wy
  have HS := Lib.hid (fun w2 => siSignal_any n f s l w2)
  have HT := Lib.hid (fun w2 => siSignal_any n g u m w2)
  have HY := Lib.hid (fun w2 => l1In_any y 0 1000 w2)
  have HB0 : Hid (Below w.heap.size w ((w.alloc (.cells #[.int .i64 f, .bool l, .int .i64 s] 33)).alloc (.cells #[.int .i64 g, .bool m, .int .i64 u] 33))) := Lib.hid (((Below.refl _ _).alloc (Nat.le_refl _) _).alloc (by rw [alloc_size1]; omega) _)
  have HK : Hid (∀ w2, Below ((w.alloc (.cells #[.int .i64 f, .bool l, .int .i64 s] 33)).alloc (.cells #[.int .i64 g, .bool m, .int .i64 u] 33)).heap.size ((w.alloc (.cells #[.int .i64 f, .bool l, .int .i64 s] 33)).alloc (.cells #[.int .i64 g, .bool m, .int .i64 u] 33)) w2 → BoxS w2 w.heap.size f l s ∧ BoxS w2 (w.heap.size + 1) g m u ∧ Below w.heap.size w w2) := Lib.hid (fun w2 h => by
    have k1 : BoxS ((w.alloc (.cells #[.int .i64 f, .bool l, .int .i64 s] 33)).alloc (.cells #[.int .i64 g, .bool m, .int .i64 u] 33)) w.heap.size f l s := (boxS_new w f s l).below ((Below.refl _ _).alloc (Nat.le_refl _) _)
    have k2 := boxS_new (w.alloc (.cells #[.int .i64 f, .bool l, .int .i64 s] 33)) g u m
    rw [alloc_size1] at k2
    exact ⟨k1.below h, k2.below h, HB0.out.trans (h.mono HB0.out.size)⟩)
  rcases hb0 : sigB n (f, l, s) with _ | _
  ·
    have H0 : Hid (outCountMeetings_0 n (f, l, s) (g, m, u) y = 0 ∧ outCountMeetings_1 n (f, l, s) (g, m, u) y = false) := Lib.hid (by unfold outCountMeetings_0 outCountMeetings_1; rw [hb0]; exact ⟨rfl, rfl⟩)
    rw [hb0] at HS
    clear hb0
    go_enter Try.func30, Try.ntmps30
    go_wp2_with fail
    go_at_call 44
    refine (HS.out _).mono ?_
    rintro e w2 ⟨rfl, bb⟩
    have Kw2 : Hid (Below ((w.alloc (.cells #[.int .i64 f, .bool l, .int .i64 s] 33)).alloc (.cells #[.int .i64 g, .bool m, .int .i64 u] 33)).heap.size ((w.alloc (.cells #[.int .i64 f, .bool l, .int .i64 s] 33)).alloc (.cells #[.int .i64 g, .bool m, .int .i64 u] 33)) w2) := Lib.hid (bb)
    clear bb
    obtain ⟨⟨c0, c1, c2⟩, ⟨d0, d1, d2⟩, _⟩ := HK.out _ Kw2.out
    go_wp2
    go_ret2
    exact ⟨by rw [H0.out.1, H0.out.2]; exact rfl, (HK.out _ Kw2.out).2.2⟩

  rcases hb1 : sigB n (g, m, u) with _ | _
  ·
    have H0 : Hid (outCountMeetings_0 n (f, l, s) (g, m, u) y = 0 ∧ outCountMeetings_1 n (f, l, s) (g, m, u) y = false) := Lib.hid (by unfold outCountMeetings_0 outCountMeetings_1; rw [hb0, hb1]; exact ⟨rfl, rfl⟩)
    rw [hb0] at HS
    rw [hb1] at HT
    clear hb0 hb1
    go_enter Try.func30, Try.ntmps30
    go_wp2_with fail
    go_at_call 44
    refine (HS.out _).mono ?_
    rintro e w2 ⟨rfl, bb⟩
    have Kw2 : Hid (Below ((w.alloc (.cells #[.int .i64 f, .bool l, .int .i64 s] 33)).alloc (.cells #[.int .i64 g, .bool m, .int .i64 u] 33)).heap.size ((w.alloc (.cells #[.int .i64 f, .bool l, .int .i64 s] 33)).alloc (.cells #[.int .i64 g, .bool m, .int .i64 u] 33)) w2) := Lib.hid (bb)
    clear bb
    obtain ⟨⟨c0, c1, c2⟩, ⟨d0, d1, d2⟩, _⟩ := HK.out _ Kw2.out
    go_wp2_with fail
    go_at_call 44
    refine (HT.out _).mono ?_
    rintro e w3 ⟨rfl, bb⟩
    have Kw3 : Hid (Below ((w.alloc (.cells #[.int .i64 f, .bool l, .int .i64 s] 33)).alloc (.cells #[.int .i64 g, .bool m, .int .i64 u] 33)).heap.size ((w.alloc (.cells #[.int .i64 f, .bool l, .int .i64 s] 33)).alloc (.cells #[.int .i64 g, .bool m, .int .i64 u] 33)) w3) := Lib.hid (Kw2.out.trans (bb.mono Kw2.out.size))
    clear bb c0 c1 c2 d0 d1 d2
    obtain ⟨⟨c0, c1, c2⟩, ⟨d0, d1, d2⟩, _⟩ := HK.out _ Kw3.out
    go_wp2
    go_ret2
    exact ⟨by rw [H0.out.1, H0.out.2]; exact rfl, (HK.out _ Kw3.out).2.2⟩

  rcases hb2 : inB y 0 1000 with _ | _
  ·
    have H0 : Hid (outCountMeetings_0 n (f, l, s) (g, m, u) y = 0 ∧ outCountMeetings_1 n (f, l, s) (g, m, u) y = false) := Lib.hid (by unfold outCountMeetings_0 outCountMeetings_1; rw [hb0, hb1, hb2]; exact ⟨rfl, rfl⟩)
    rw [hb0] at HS
    rw [hb1] at HT
    rw [hb2] at HY
    clear hb0 hb1 hb2
    go_enter Try.func30, Try.ntmps30
    go_wp2_with fail
    go_at_call 44
    refine (HS.out _).mono ?_
    rintro e w2 ⟨rfl, bb⟩
    have Kw2 : Hid (Below ((w.alloc (.cells #[.int .i64 f, .bool l, .int .i64 s] 33)).alloc (.cells #[.int .i64 g, .bool m, .int .i64 u] 33)).heap.size ((w.alloc (.cells #[.int .i64 f, .bool l, .int .i64 s] 33)).alloc (.cells #[.int .i64 g, .bool m, .int .i64 u] 33)) w2) := Lib.hid (bb)
    clear bb
    obtain ⟨⟨c0, c1, c2⟩, ⟨d0, d1, d2⟩, _⟩ := HK.out _ Kw2.out
    go_wp2_with fail
    go_at_call 44
    refine (HT.out _).mono ?_
    rintro e w3 ⟨rfl, bb⟩
    have Kw3 : Hid (Below ((w.alloc (.cells #[.int .i64 f, .bool l, .int .i64 s] 33)).alloc (.cells #[.int .i64 g, .bool m, .int .i64 u] 33)).heap.size ((w.alloc (.cells #[.int .i64 f, .bool l, .int .i64 s] 33)).alloc (.cells #[.int .i64 g, .bool m, .int .i64 u] 33)) w3) := Lib.hid (Kw2.out.trans (bb.mono Kw2.out.size))
    clear bb c0 c1 c2 d0 d1 d2
    obtain ⟨⟨c0, c1, c2⟩, ⟨d0, d1, d2⟩, _⟩ := HK.out _ Kw3.out
    go_wp2_with fail
    go_at_call 51
    refine (HY.out _).mono ?_
    rintro e ww ⟨rfl, rfl⟩
    go_wp2
    go_ret2
    exact ⟨by rw [H0.out.1, H0.out.2]; exact rfl, (HK.out _ Kw3.out).2.2⟩

  ·
    obtain ⟨N, F, S, rfl, hp, hg⟩ := sig_nat hb0
    obtain ⟨rfl, rfl⟩ : f = (F : Int) ∧ s = (S : Int) := by injection hp with h1 h2; injection h2 with _ h3; exact ⟨h1, h3⟩
    obtain ⟨N2, P, U, hN, hp2, hg2⟩ := sig_nat hb1
    obtain rfl : N = N2 := by omega
    obtain ⟨rfl, rfl⟩ : g = (P : Int) ∧ u = (U : Int) := by injection hp2 with h1 h2; injection h2 with _ h3; exact ⟨h1, h3⟩
    obtain ⟨y1, y2⟩ := inB_yes hb2
    obtain ⟨Y, rfl⟩ : ∃ T : Nat, y = (T : Int) := ⟨y.toNat, by omega⟩
    have HM := Lib.hid (fun T (h : T ≤ 1000000) w2 => siMeet_any N F S P U T l m hg hg2 h w2)
    obtain ⟨p, hpp⟩ : ∃ p, p = meetB N F l S P m U := ⟨_, rfl⟩
    have HP := Lib.hid (show ∀ T, p T = meetB N F l S P m U T from fun T => by rw [hpp])
    have H0 : Hid (outCountMeetings_0 N ((F : Int), l, (S : Int)) ((P : Int), m, (U : Int)) Y = (cntTo p (Y + 1) : Nat) ∧ outCountMeetings_1 N ((F : Int), l, (S : Int)) ((P : Int), m, (U : Int)) Y = true) := Lib.hid (by
      unfold outCountMeetings_0 outCountMeetings_1
      rw [hb0, hb1, hb2, hpp]; exact ⟨rfl, rfl⟩)
    have HCY : Hid (∀ k, p k = true → cntTo p (k + 1) = cntTo p k + 1) := Lib.hid (fun k => cntTo_yes)
    have HCN : Hid (∀ k, p k = false → cntTo p (k + 1) = cntTo p k) := Lib.hid (fun k => cntTo_no)
    have HCL := Lib.hid (cntTo_le p)
    rw [hb0] at HS
    rw [hb1] at HT
    rw [hb2] at HY
    clear hb0 hb1 hb2 hp hp2 hg hg2 hN hpp
    go_enter Try.func30, Try.ntmps30
    go_wp2_with fail
    go_at_call 44
    refine (HS.out _).mono ?_
    rintro e w2 ⟨rfl, bb⟩
    have Kw2 : Hid (Below ((w.alloc (.cells #[.int .i64 (F : Int), .bool l, .int .i64 (S : Int)] 33)).alloc (.cells #[.int .i64 (P : Int), .bool m, .int .i64 (U : Int)] 33)).heap.size ((w.alloc (.cells #[.int .i64 (F : Int), .bool l, .int .i64 (S : Int)] 33)).alloc (.cells #[.int .i64 (P : Int), .bool m, .int .i64 (U : Int)] 33)) w2) := Lib.hid (bb)
    clear bb
    obtain ⟨⟨c0, c1, c2⟩, ⟨d0, d1, d2⟩, _⟩ := HK.out _ Kw2.out
    go_wp2_with fail
    go_at_call 44
    refine (HT.out _).mono ?_
    rintro e w3 ⟨rfl, bb⟩
    have Kw3 : Hid (Below ((w.alloc (.cells #[.int .i64 (F : Int), .bool l, .int .i64 (S : Int)] 33)).alloc (.cells #[.int .i64 (P : Int), .bool m, .int .i64 (U : Int)] 33)).heap.size ((w.alloc (.cells #[.int .i64 (F : Int), .bool l, .int .i64 (S : Int)] 33)).alloc (.cells #[.int .i64 (P : Int), .bool m, .int .i64 (U : Int)] 33)) w3) := Lib.hid (Kw2.out.trans (bb.mono Kw2.out.size))
    clear bb c0 c1 c2 d0 d1 d2
    obtain ⟨⟨c0, c1, c2⟩, ⟨d0, d1, d2⟩, _⟩ := HK.out _ Kw3.out
    go_wp2_with fail
    go_at_call 51
    refine (HY.out _).mono ?_
    rintro e ww ⟨rfl, rfl⟩
    clear c0 c1 c2 d0 d1 d2
    go_wp2_with fail
    go_loopw [10, 11] (fun v i wr => ∃ k : Nat, k ≤ Y + 1 ∧ i = .int .i64 (k : Int) ∧ v = .int .i64 (cntTo p k : Nat) ∧ Hid (Below ((w.alloc (.cells #[.int .i64 (F : Int), .bool l, .int .i64 (S : Int)] 33)).alloc (.cells #[.int .i64 (P : Int), .bool m, .int .i64 (U : Int)] 33)).heap.size ((w.alloc (.cells #[.int .i64 (F : Int), .bool l, .int .i64 (S : Int)] 33)).alloc (.cells #[.int .i64 (P : Int), .bool m, .int .i64 (U : Int)] 33)) wr)) (fun _ i _ => Y + 1 - (intOf i).toNat)
    case atStart => exact ⟨0, Nat.zero_le _, rfl, rfl, Kw3⟩
    case round =>
      obtain ⟨k, hk, rfl, rfl, HB⟩ := hrel
      by_cases hlt : k < Y + 1
      · have hkT : k ≤ 1000000 := by omega
        have HMk := Lib.hid (HM.out k hkT)
        have i2 : (k : Int) ≤ (Y : Int) := by omega
        have HPk := Lib.hid (HP.out k)
        have HCYk := Lib.hid (HCY.out k)
        have HCNk := Lib.hid (HCN.out k)
        have hck := HCL.out k
        obtain ⟨c, hc⟩ : ∃ c, c = cntTo p k := ⟨_, rfl⟩
        rw [← hc] at HCYk HCNk hck ⊢
        clear hc
        obtain ⟨⟨c0, c1, c2⟩, ⟨d0, d1, d2⟩, _⟩ := HK.out _ HB.out
        rcases hcm : meetB N F l S P m U k with _ | _
        · rw [hcm] at HMk HPk
          have HC2 := Lib.hid (HCNk.out HPk.out)
          clear hcm
          go_wp2_with fail
          go_at_call 56
          refine (HMk.out _).mono ?_
          rintro e w4 ⟨rfl, bb⟩
          have HB4 : Hid (Below ((w.alloc (.cells #[.int .i64 (F : Int), .bool l, .int .i64 (S : Int)] 33)).alloc (.cells #[.int .i64 (P : Int), .bool m, .int .i64 (U : Int)] 33)).heap.size ((w.alloc (.cells #[.int .i64 (F : Int), .bool l, .int .i64 (S : Int)] 33)).alloc (.cells #[.int .i64 (P : Int), .bool m, .int .i64 (U : Int)] 33)) w4) := Lib.hid (HB.out.trans (bb.mono HB.out.size))
          clear bb c0 c1 c2 d0 d1 d2
          go_wp2
          go_roundw
          case rel => exact ⟨k + 1, by omega, by go_num, by rw [HC2.out], HB4⟩
          case measure => simp [intOf]; omega
        · rw [hcm] at HMk HPk
          have HC2 := Lib.hid (HCYk.out HPk.out)
          clear hcm
          go_wp2_with fail
          go_at_call 56
          refine (HMk.out _).mono ?_
          rintro e w4 ⟨rfl, bb⟩
          have HB4 : Hid (Below ((w.alloc (.cells #[.int .i64 (F : Int), .bool l, .int .i64 (S : Int)] 33)).alloc (.cells #[.int .i64 (P : Int), .bool m, .int .i64 (U : Int)] 33)).heap.size ((w.alloc (.cells #[.int .i64 (F : Int), .bool l, .int .i64 (S : Int)] 33)).alloc (.cells #[.int .i64 (P : Int), .bool m, .int .i64 (U : Int)] 33)) w4) := Lib.hid (HB.out.trans (bb.mono HB.out.size))
          clear bb c0 c1 c2 d0 d1 d2
          go_wp2
          go_roundw
          case rel => exact ⟨k + 1, by omega, by go_num, by rw [HC2.out]; go_num, HB4⟩
          case measure => simp [intOf]; omega
      · have i2 : ¬ (k : Int) ≤ (Y : Int) := by omega
        have HF : Hid (cntTo p k = cntTo p (Y + 1)) := Lib.hid (by rw [show k = Y + 1 by omega])
        go_wp2
        go_ret2
        exact ⟨by rw [H0.out.1, H0.out.2, ← HF.out]; exact rfl, (HK.out _ HB.out).2.2⟩

end Go.Proofs.Ytmlamcimncfmcaa
