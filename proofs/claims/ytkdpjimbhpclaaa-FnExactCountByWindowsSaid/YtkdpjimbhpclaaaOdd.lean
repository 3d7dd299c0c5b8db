/- Chapter 7, the model: odWindows; CanByWindows, WindowsTo, CountByWindows. -/
import Derived.Test.YtkdpjimbhpclaaaOdb
namespace Go.Proofs.Ytkdpjimbhpclaaa
open Go.ChangeShapes Go.WideShapes Go.ChangeAt Go.RowKit
open Rx Od

namespace Od
/-- the row and the windows behind the first i places -/
def wiTo (l m : List Bool) (wd : Nat) : Nat → List Bool × List Int
  | 0 => (l, [])
  | i + 1 => if ((wiTo l m wd i).1.getD i false != m.getD i false) then (turnTo (wiTo l m wd i).1 i (i + wd), (wiTo l m wd i).2 ++ [(i : Int)]) else wiTo l m wd i
theorem wiTo_len (l m : List Bool) (wd : Nat) : ∀ i, (wiTo l m wd i).1.length = l.length ∧ (wiTo l m wd i).2.length ≤ i
  | 0 => ⟨rfl, Nat.le_refl _⟩
  | i + 1 => by
    have h := wiTo_len l m wd i
    rw [wiTo]
    split
    · exact ⟨by rw [length_turnTo]; exact h.1, by rw [List.length_append, List.length_singleton]; omega⟩
    · exact ⟨h.1, by omega⟩
def winL (l m : List Bool) (wd : Nat) : List Int := (wiTo l m wd (l.length - wd + 1)).2
def winB (l m : List Bool) (wd : Nat) : Bool := decide ((wiTo l m wd (l.length - wd + 1)).1 = m)
theorem str_eqB {s t : ByteArray} {l m : List Bool} (hs : s = Rw.str l) (ht : t = Rw.str m) : (s.toList == t.toList) = decide (l = m) := by
  subst hs ht
  by_cases h : l = m
  · subst h; simp
  · rw [decide_eq_false h, beq_eq_false_iff_ne]
    intro e
    apply h
    rw [ByteArray.toList_eq, ByteArray.toList_eq] at e
    exact Rw.str_inj (ByteArray.ext (Array.toList_inj.1 e))
def wideB (a b : ByteArray) (wd : Int) : Bool := twoB a b && inB wd 1 (a.size : Int)
end Od

set_option maxHeartbeats 1000000 in
theorem odWindows_any (w : World) (l m : List Bool) (wd : Nat) (hl : l.length ≤ 40) (hm : m.length = l.length) (hw1 : 1 ≤ wd) (hw2 : wd ≤ l.length) :
    Calls Try.prog 54 #[.string (Rw.str l), .string (Rw.str m), .int .i64 (wd : Int)] w fun e w' => ∃ v, e = .returned (.tuple #[v, .bool (winB l m wd)]) ∧ Own w' w.heap.size v (winL l m wd) ∧ Below w.heap.size w w' := by
  obtain ⟨s0, hs⟩ : ∃ s, s = Rw.str l := ⟨_, rfl⟩
  obtain ⟨t, ht⟩ : ∃ t, t = Rw.str m := ⟨_, rfl⟩
  have htz : t.size = l.length := by rw [ht, Rw.size_str, hm]
  have HS0 : Hid (s0 = Rw.str (wiTo l m wd 0).1) := Lib.hid hs
  have HT := Lib.hid ht
  rw [← hs, ← ht]
  obtain ⟨n, hn⟩ : ∃ n, n = l.length := ⟨_, rfl⟩
  have HLN := Lib.hid (fun i => (wiTo_len l m wd i).1)
  rw [← hn] at HLN htz hl hw2
  have HWL : Hid (winL l m wd = (wiTo l m wd (n - wd + 1)).2 ∧ winB l m wd = decide ((wiTo l m wd (n - wd + 1)).1 = m)) := Lib.hid (by rw [hn]; exact ⟨rfl, rfl⟩)
  have HTZ := Lib.hid htz
  clear hs ht hm hn htz
  go_enter Try.func54, Try.ntmps54
  go_wp2
  go_loopw [0, 8, 9] (fun r v iv wr => ∃ (i : Nat) (s : ByteArray), i + wd ≤ n + 1 ∧ iv = .int .i64 (i : Int) ∧ r = .string s ∧ Hid (s = Rw.str (wiTo l m wd i).1) ∧ Hid (Own wr w.heap.size v (wiTo l m wd i).2) ∧ Hid (Below w.heap.size w wr)) (fun _ _ iv _ => n + 1 - (intOf iv).toNat)
  case atStart => exact ⟨0, s0, by omega, rfl, rfl, HS0, Lib.hid (own_nil _ _), Lib.hid (Below.refl _ _)⟩
  case round =>
    obtain ⟨i, s, hi, rfl, rfl, HS, HO, HB⟩ := hrel
    have hsz : s.size = n := by rw [HS.out, Rw.size_str, HLN.out]
    by_cases hlt : i + wd ≤ n
    · have his : i < s.size := by omega
      have hit : i < t.size := by have := HTZ.out; omega
      have g1 := byte_dif HS.out HT.out i his hit
      have HF : Hid (wiTo l m wd (i + 1) = if ((wiTo l m wd i).1.getD i false != m.getD i false) then (turnTo (wiTo l m wd i).1 i (i + wd), (wiTo l m wd i).2 ++ [(i : Int)]) else wiTo l m wd i) := Lib.hid rfl
      have HTU := Lib.hid (fun w2 => odTurn_q (wiTo l m wd i).1 i (i + wd - 1) (by rw [HLN.out]; omega) (by rw [HLN.out]; omega) (by omega) w2)
      rw [← HS.out, show i + wd - 1 + 1 = i + wd by omega] at HTU
      have hol := (wiTo_len l m wd i).2
      obtain ⟨d, hd⟩ : ∃ d, d = ((wiTo l m wd i).1.getD i false != m.getD i false) := ⟨_, rfl⟩
      rw [← hd] at g1 HF
      obtain ⟨L, hL⟩ : ∃ L, L = wiTo l m wd i := ⟨_, rfl⟩
      rw [← hL] at HO HF HTU hol HS
      have hbl : L.2.length ≤ 1000000000 := by omega
      have hz := HB.out.size
      have e1 : (i : Int) + (wd : Int) - 1 = ((i + wd - 1 : Nat) : Int) := by omega
      have i1 : (0 : Int) ≤ (i : Int) := by omega
      have i2 : (i : Int) < (s.size : Int) := by omega
      have i3 : (i : Int) < (t.size : Int) := by omega
      have i4 : (i : Int) + (wd : Int) ≤ (s.size : Int) := by omega
      clear hd hL hsz
      cases d
      · have HS2 : Hid (wiTo l m wd (i + 1) = L) := Lib.hid (by rw [HF.out]; rfl)
        go_wp2_with fail
        go_quiet (fail)
        go_wp2
        go_roundw
        case rel => exact ⟨i + 1, s, by omega, by go_num, rfl, Lib.hid (by rw [HS2.out]; exact HS.out), Lib.hid (by rw [HS2.out]; exact HO.out), Lib.hid (below_drewN HB.out _)⟩
        case measure => simp [intOf]; omega
      · have HS2 : Hid (wiTo l m wd (i + 1) = (turnTo L.1 i (i + wd), L.2 ++ [(i : Int)])) := Lib.hid (by rw [HF.out]; rfl)
        go_wp2_with fail
        go_quiet (fail)
        go_wp2_with fail
        go_at_call 41
        refine (HTU.out _).mono ?_
        rintro e w2 ⟨rfl, k2, rfl⟩
        go_wp2_with (at_builtin; refine wpList_app rfl _ _ rfl (wr.drewN _) _ _ _ _ rfl rfl (HO.out.drewO _) hz hbl ?_; intro v' w5 hO hB5; have HO5 : Hid (Own w5 w.heap.size v' (wiTo l m wd (i + 1)).2) := Lib.hid (by rw [HS2.out]; exact hO); have HB5 : Hid (Below w.heap.size w w5) := Lib.hid ((below_drewN HB.out _).trans hB5); clear hO hB5)
        exact ⟨⟨i + 1, _, by omega, by go_num, rfl, Lib.hid (by rw [HS2.out]), HO5, HB5⟩, by simp [intOf]; omega⟩
    · obtain rfl : i = n - wd + 1 := by omega
      have HQ := Lib.hid (str_eqB HS.out HT.out)
      have hq := HQ.out
      have hge : ¬ ((n - wd + 1 : Nat) : Int) + (wd : Int) ≤ (s.size : Int) := by omega
      have HQ2 : Hid (winL l m wd = (wiTo l m wd (n - wd + 1)).2) := Lib.hid HWL.out.1
      rw [← HWL.out.2] at hq
      have HQ3 := Lib.hid hq
      clear HQ hsz
      go_wp2
      go_ret2
      exact ⟨_, rfl, by rw [HQ2.out]; exact HO.out, HB.out⟩

def canB (a b : ByteArray) (wd : Int) : Bool := wideB a b wd && winB (rowOf a) (rowOf b) wd.toNat
def outCanByWindows_0 (a b : ByteArray) (wd : Int) : Bool := canB a b wd
def outCanByWindows_1 (a b : ByteArray) (wd : Int) : Bool := wideB a b wd
def outWindowsTo_0 (a b : ByteArray) (wd : Int) : List Int := if canB a b wd then winL (rowOf a) (rowOf b) wd.toNat else []
def outWindowsTo_1 (a b : ByteArray) (wd : Int) : Bool := canB a b wd
theorem lenWindowsTo_0 (a b : ByteArray) (wd : Int) (ha : a.size ≤ 1048576) (_hb : b.size ≤ 1048576) : (outWindowsTo_0 a b wd).length ≤ 4611686018427387904 := by
  unfold outWindowsTo_0
  split
  · have h1 := (wiTo_len (rowOf a) (rowOf b) wd.toNat ((rowOf a).length - wd.toNat + 1)).2
    have h2 : (rowOf a).length = a.size := by unfold rowOf; rw [List.length_map, Array.length_toList]; rfl
    unfold winL
    omega
  · simp

theorem odWide_q (a b : ByteArray) (wd : Int) (w : World) (hla : a.size ≤ 1048576) (hlb : b.size ≤ 1048576) : Calls Try.prog 53 #[.string a, .string b, .int .i64 wd] w fun e w' => e = .returned (.bool (wideB a b wd)) ∧ w = w' := by
  have HG := Lib.hid (odTwo_q a b w hla hlb)
  have HI := Lib.hid (l1In_any wd 1 (a.size : Int) w)
  rcases h1 : twoB a b with _ | _
  · have H0 : Hid (wideB a b wd = false) := Lib.hid (by unfold wideB; rw [h1]; rfl)
    rw [h1] at HG
    clear h1
    go_enter Try.func53, Try.ntmps53
    go_wp2_with (go_at_call 46; refine HG.out.mono ?_; rintro e w' ⟨rfl, rfl⟩)
    go_ret
    exact ⟨ret_bool H0.out.symm, rfl⟩
  · have H0 : Hid (wideB a b wd = inB wd 1 (a.size : Int)) := Lib.hid (by unfold wideB; rw [h1]; rfl)
    rw [h1] at HG
    clear h1
    go_enter Try.func53, Try.ntmps53
    go_wp2_with (first | (go_at_call 46; refine HG.out.mono ?_; rintro e w' ⟨rfl, rfl⟩) | (go_at_call 40; refine HI.out.mono ?_; rintro e w' ⟨rfl, rfl⟩))
    go_ret
    exact ⟨ret_bool H0.out.symm, rfl⟩

set_option maxHeartbeats 1000000 in
theorem specCanByWindows_any (w : World) (a b : ByteArray) (wd : Int) (_wa : a.size ≤ maxLen) (_wb : b.size ≤ maxLen) (_wd : (Lit.int .i64 wd).wf = true) (hla : a.size ≤ 1048576) (hlb : b.size ≤ 1048576) :
    Calls Try.prog 33 #[.string a, .string b, .int .i64 wd] w fun e w' => e = .returned (.tuple #[.bool (outCanByWindows_0 a b wd), .bool (outCanByWindows_1 a b wd)]) ∧ Below w.heap.size w w' := by
  have HG := Lib.hid (odWide_q a b wd w hla hlb)
  clear _wa _wb _wd
  rcases h1 : wideB a b wd with _ | _
  · have H0 : Hid (outCanByWindows_0 a b wd = false ∧ outCanByWindows_1 a b wd = false) := Lib.hid (by unfold outCanByWindows_0 outCanByWindows_1 canB; rw [h1]; exact ⟨rfl, rfl⟩)
    rw [h1] at HG
    clear h1
    go_enter Try.func33, Try.ntmps33
    go_wp2_with (go_at_call 53; refine HG.out.mono ?_; rintro e w' ⟨rfl, rfl⟩)
    go_ret2
    exact ⟨by rw [H0.out.1, H0.out.2]; exact rfl, Below.refl _ _⟩
  · have h1' := h1
    unfold wideB at h1'
    rw [Bool.and_eq_true] at h1'
    obtain ⟨l, m, rfl, rfl, h2, h3, h4⟩ := two_rows h1'.1
    obtain ⟨h5, h6⟩ := inB_yes h1'.2
    rw [Rw.size_str] at h6
    obtain ⟨D, rfl⟩ : ∃ D : Nat, wd = (D : Int) := ⟨wd.toNat, by omega⟩
    have HF := Lib.hid (odWindows_any w l m D h3 h4 (by omega) (by omega))
    obtain ⟨s, hs⟩ : ∃ s, s = Rw.str l := ⟨_, rfl⟩
    obtain ⟨t, ht⟩ : ∃ t, t = Rw.str m := ⟨_, rfl⟩
    rw [h1] at HG
    have H0 : Hid (outCanByWindows_0 (Rw.str l) (Rw.str m) D = winB l m D ∧ outCanByWindows_1 (Rw.str l) (Rw.str m) D = true) := Lib.hid (by unfold outCanByWindows_0 outCanByWindows_1 canB; rw [h1, rowOf_str, rowOf_str, Int.toNat_natCast]; exact ⟨rfl, rfl⟩)
    rw [← hs, ← ht] at HG HF H0 ⊢
    clear h1 h1' hs ht hla hlb
    go_enter Try.func33, Try.ntmps33
    go_wp2_with fail
    go_at_call 53
    refine HG.out.mono ?_
    rintro e w' ⟨rfl, rfl⟩
    go_wp2_with fail
    go_at_call 54
    refine HF.out.mono ?_
    rintro e w2 ⟨v, rfl, o2, b2⟩
    have B2 := Lib.hid b2
    clear o2 b2
    go_wp2
    go_ret2
    exact ⟨by rw [H0.out.1, H0.out.2]; exact rfl, B2.out⟩


set_option maxHeartbeats 1000000 in
theorem specWindowsTo_any (w : World) (a b : ByteArray) (wd : Int) (_wa : a.size ≤ maxLen) (_wb : b.size ≤ maxLen) (_wd : (Lit.int .i64 wd).wf = true) (hla : a.size ≤ 1048576) (hlb : b.size ≤ 1048576) :
    Calls Try.prog 35 #[.string a, .string b, .int .i64 wd] w fun e w' => ∃ v0, e = .returned (.tuple #[v0, .bool (outWindowsTo_1 a b wd)]) ∧ Own w' w.heap.size v0 (outWindowsTo_0 a b wd) ∧ Below w.heap.size w w' := by
  have HG := Lib.hid (odWide_q a b wd w hla hlb)
  clear _wa _wb _wd
  rcases h1 : wideB a b wd with _ | _
  · have H0 : Hid (outWindowsTo_0 a b wd = [] ∧ outWindowsTo_1 a b wd = false) := Lib.hid (by unfold outWindowsTo_0 outWindowsTo_1 canB; rw [h1]; exact ⟨rfl, rfl⟩)
    rw [h1] at HG
    clear h1
    go_enter Try.func35, Try.ntmps35
    go_wp2_with (go_at_call 53; refine HG.out.mono ?_; rintro e w' ⟨rfl, rfl⟩)
    go_ret2
    exact ⟨_, by rw [H0.out.2]; exact rfl, by rw [H0.out.1]; exact own_nil _ _, Below.refl _ _⟩
  · have h1' := h1
    unfold wideB at h1'
    rw [Bool.and_eq_true] at h1'
    obtain ⟨l, m, rfl, rfl, h2, h3, h4⟩ := two_rows h1'.1
    obtain ⟨h5, h6⟩ := inB_yes h1'.2
    rw [Rw.size_str] at h6
    obtain ⟨D, rfl⟩ : ∃ D : Nat, wd = (D : Int) := ⟨wd.toNat, by omega⟩
    have HF := Lib.hid (odWindows_any w l m D h3 h4 (by omega) (by omega))
    obtain ⟨s, hs⟩ : ∃ s, s = Rw.str l := ⟨_, rfl⟩
    obtain ⟨t, ht⟩ : ∃ t, t = Rw.str m := ⟨_, rfl⟩
    rw [h1] at HG
    have H0 : Hid (outWindowsTo_0 (Rw.str l) (Rw.str m) D = (if winB l m D then winL l m D else []) ∧ outWindowsTo_1 (Rw.str l) (Rw.str m) D = winB l m D) := Lib.hid (by unfold outWindowsTo_0 outWindowsTo_1 canB; rw [h1, rowOf_str, rowOf_str, Int.toNat_natCast]; exact ⟨rfl, rfl⟩)
    rw [← hs, ← ht] at HG HF H0 ⊢
    clear h1 h1' hs ht hla hlb
    cases hw : winB l m D
    · rw [hw] at HF H0
      clear hw
      go_enter Try.func35, Try.ntmps35
      go_wp2_with fail
      go_at_call 53
      refine HG.out.mono ?_
      rintro e w' ⟨rfl, rfl⟩
      go_wp2_with fail
      go_at_call 54
      refine HF.out.mono ?_
      rintro e w2 ⟨v, rfl, o2, b2⟩
      have B2 := Lib.hid b2
      clear o2 b2
      go_wp2
      go_ret2
      exact ⟨_, by rw [H0.out.2]; exact rfl, by rw [H0.out.1]; exact own_nil _ _, B2.out⟩
    · rw [hw] at HF H0
      clear hw
      go_enter Try.func35, Try.ntmps35
      go_wp2_with fail
      go_at_call 53
      refine HG.out.mono ?_
      rintro e w' ⟨rfl, rfl⟩
      go_wp2_with fail
      go_at_call 54
      refine HF.out.mono ?_
      rintro e w2 ⟨v, rfl, o2, b2⟩
      have O2 := Lib.hid o2
      have B2 := Lib.hid b2
      clear o2 b2
      go_wp2
      go_ret2
      exact ⟨_, by rw [H0.out.2]; exact rfl, by rw [H0.out.1]; exact O2.out, B2.out⟩


end Go.Proofs.Ytkdpjimbhpclaaa
