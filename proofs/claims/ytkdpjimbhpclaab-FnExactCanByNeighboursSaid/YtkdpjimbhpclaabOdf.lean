/- Chapter 7, the model: odIdle, IdleOrders, CountByNeighbours, CountByWindows. -/
import Derived.Test.YtkdpjimbhpclaabOde
namespace Go.Proofs.Ytkdpjimbhpclaab
open Go.ChangeShapes Go.WideShapes Go.ChangeAt Go.RowKit
open Rx Od

namespace Od
def zeroL (n : Nat) : List Bool := Rw.make n 0
def idleB (n : Nat) : Bool := chB (zeroL n) (zeroL n) true
def idleL (n : Nat) : List Int := chL (zeroL n) (zeroL n) true
theorem length_zeroL (n : Nat) : (zeroL n).length = n := Rw.length_make n 0
theorem length_idleL (n : Nat) : (idleL n).length ≤ n + 1 := by
  have := chL_len (zeroL n) (zeroL n) true
  rw [length_zeroL] at this
  exact this
end Od
def outIdleOrders_0 (n : Int) : List Int := if inB n 1 40 && idleB n.toNat then idleL n.toNat else []
def outIdleOrders_1 (n : Int) : Bool := inB n 1 40 && idleB n.toNat
theorem lenIdleOrders_0 (n : Int) : (outIdleOrders_0 n).length ≤ 4611686018427387904 := by
  unfold outIdleOrders_0
  split
  · rename_i h
    rw [Bool.and_eq_true] at h
    have h1 := inB_yes h.1
    have h2 := length_idleL n.toNat
    omega
  · simp
def outCountByNeighbours_0 (n : Int) : Int := if inB n 1 40 then (if idleB n.toNat then (p2w (n.toNat - 1) : Nat) else (p2w n.toNat : Nat)) else 0
def outCountByNeighbours_1 (n : Int) : Bool := inB n 1 40
def cbwB (n wd : Int) : Bool := inB n 1 40 && inB wd 1 n
def outCountByWindows_0 (n wd : Int) : Int := if cbwB n wd then (p2w (n - wd + 1).toNat : Nat) else 0
def outCountByWindows_1 (n wd : Int) : Bool := cbwB n wd

set_option maxHeartbeats 1000000 in
theorem odIdle_any (w : World) (n : Nat) (h1 : 1 ≤ n) (h40 : n ≤ 40) :
    Calls Try.prog 41 #[.int .i64 (n : Int)] w fun e w' => ∃ v, e = .returned (.tuple #[v, .bool (idleB n)]) ∧ Own w' w.heap.size v (idleL n) ∧ Below w.heap.size w w' := by
  have HM := Lib.hid (fun w2 => rwMake_w n 0 (by omega) (by omega) w2)
  have HC := Lib.hid (odChase_any w (zeroL n) (zeroL n) true (by rw [length_zeroL]; exact h1) (by rw [length_zeroL]; exact h40) rfl)
  rw [show Rw.make n 0 = zeroL n from rfl] at HM
  obtain ⟨s, hs⟩ : ∃ s, s = Rw.str (zeroL n) := ⟨_, rfl⟩
  rw [← hs] at HM HC
  clear hs
  go_enter Try.func41, Try.ntmps41
  go_wp2_with fail
  go_at_call 66
  refine (HM.out _).mono ?_
  rintro e w' ⟨rfl, rfl⟩
  go_wp2_with fail
  go_at_call 57
  refine HC.out.mono ?_
  rintro e w2 ⟨v, rfl, o2, b2⟩
  have O2 := Lib.hid o2
  have B2 := Lib.hid b2
  clear o2 b2
  go_wp2
  go_ret2
  exact ⟨_, rfl, O2.out, B2.out⟩

set_option maxHeartbeats 1000000 in
theorem specIdleOrders_any (w : World) (n : Int) (_wn : (Lit.int .i64 n).wf = true) :
    Calls Try.prog 20 #[.int .i64 n] w fun e w' => ∃ v0, e = .returned (.tuple #[v0, .bool (outIdleOrders_1 n)]) ∧ Own w' w.heap.size v0 (outIdleOrders_0 n) ∧ Below w.heap.size w w' := by
  have HG := Lib.hid (odSoldiers_q n w)
  clear _wn
  rcases hb : inB n 1 40 with _ | _
  · have H0 : Hid (outIdleOrders_0 n = [] ∧ outIdleOrders_1 n = false) := Lib.hid (by unfold outIdleOrders_0 outIdleOrders_1; rw [hb]; exact ⟨rfl, rfl⟩)
    rw [hb] at HG
    clear hb
    go_enter Try.func20, Try.ntmps20
    go_wp2_with (go_at_call 40; refine HG.out.mono ?_; rintro e w' ⟨rfl, rfl⟩)
    go_ret2
    exact ⟨_, by rw [H0.out.2]; exact rfl, by rw [H0.out.1]; exact own_nil _ _, Below.refl _ _⟩
  · obtain ⟨h1, h2⟩ := inB_yes hb
    obtain ⟨N, rfl⟩ : ∃ N : Nat, n = (N : Int) := ⟨n.toNat, by omega⟩
    have HF := Lib.hid (odIdle_any w N (by omega) (by omega))
    rw [hb] at HG
    cases hi : idleB N
    · have H0 : Hid (outIdleOrders_0 N = [] ∧ outIdleOrders_1 N = false) := Lib.hid (by unfold outIdleOrders_0 outIdleOrders_1; rw [hb, Int.toNat_natCast, hi]; exact ⟨rfl, rfl⟩)
      rw [hi] at HF
      clear hb hi
      go_enter Try.func20, Try.ntmps20
      go_wp2_with fail
      go_at_call 40
      refine HG.out.mono ?_
      rintro e w' ⟨rfl, rfl⟩
      go_wp2_with fail
      go_at_call 41
      refine HF.out.mono ?_
      rintro e w2 ⟨v, rfl, o2, b2⟩
      have B2 := Lib.hid b2
      clear o2 b2
      go_wp2
      go_ret2
      exact ⟨_, by rw [H0.out.2]; exact rfl, by rw [H0.out.1]; exact own_nil _ _, B2.out⟩
    · have H0 : Hid (outIdleOrders_0 N = idleL N ∧ outIdleOrders_1 N = true) := Lib.hid (by unfold outIdleOrders_0 outIdleOrders_1; rw [hb, Int.toNat_natCast, hi]; exact ⟨rfl, rfl⟩)
      rw [hi] at HF
      clear hb hi
      go_enter Try.func20, Try.ntmps20
      go_wp2_with fail
      go_at_call 40
      refine HG.out.mono ?_
      rintro e w' ⟨rfl, rfl⟩
      go_wp2_with fail
      go_at_call 41
      refine HF.out.mono ?_
      rintro e w2 ⟨v, rfl, o2, b2⟩
      have O2 := Lib.hid o2
      have B2 := Lib.hid b2
      clear o2 b2
      go_wp2
      go_ret2
      exact ⟨_, by rw [H0.out.2]; exact rfl, by rw [H0.out.1]; exact O2.out, B2.out⟩

set_option maxHeartbeats 1000000 in
theorem specCountByNeighbours_any (w : World) (n : Int) (_wn : (Lit.int .i64 n).wf = true) :
    Calls Try.prog 18 #[.int .i64 n] w fun e w' => e = .returned (.tuple #[.int .i64 (outCountByNeighbours_0 n), .bool (outCountByNeighbours_1 n)]) ∧ Below w.heap.size w w' := by
  have HG := Lib.hid (odSoldiers_q n w)
  clear _wn
  rcases hb : inB n 1 40 with _ | _
  · have H0 : Hid (outCountByNeighbours_0 n = 0 ∧ outCountByNeighbours_1 n = false) := Lib.hid (by unfold outCountByNeighbours_0 outCountByNeighbours_1; rw [hb]; exact ⟨rfl, rfl⟩)
    rw [hb] at HG
    clear hb
    go_enter Try.func18, Try.ntmps18
    go_wp2_with (go_at_call 40; refine HG.out.mono ?_; rintro e w' ⟨rfl, rfl⟩)
    go_ret2
    exact ⟨by rw [H0.out.1, H0.out.2]; exact rfl, Below.refl _ _⟩
  · obtain ⟨h1, h2⟩ := inB_yes hb
    obtain ⟨N, rfl⟩ : ∃ N : Nat, n = (N : Int) + 1 := ⟨n.toNat - 1, by omega⟩
    have HF := Lib.hid (odIdle_any w (N + 1) (by omega) (by omega))
    rw [show ((N + 1 : Nat) : Int) = (N : Int) + 1 by omega] at HF
    rw [hb] at HG
    have en : (N : Int) + 1 - 1 = (N : Int) := by omega
    cases hi : idleB (N + 1)
    · have H0 : Hid (outCountByNeighbours_0 ((N : Int) + 1) = (p2w (N + 1) : Nat) ∧ outCountByNeighbours_1 ((N : Int) + 1) = true) := Lib.hid (by unfold outCountByNeighbours_0 outCountByNeighbours_1; rw [hb, show ((N : Int) + 1).toNat = N + 1 by omega, hi]; exact ⟨rfl, rfl⟩)
      have hp := p2w_wrap (N + 1) (by omega)
      have HPW := Lib.hid hp
      clear hp
      have hpl := p2w_le (N + 1) (by omega)
      have e2 : ((N : Int) + 1).toNat = N + 1 := by omega
      rw [hi] at HF
      clear hb hi
      go_enter Try.func18, Try.ntmps18
      go_wp2_with fail
      go_at_call 40
      refine HG.out.mono ?_
      rintro e w' ⟨rfl, rfl⟩
      go_wp2_with fail
      go_at_call 41
      refine HF.out.mono ?_
      rintro e w2 ⟨v, rfl, o2, b2⟩
      have B2 := Lib.hid b2
      clear o2 b2
      go_wp2
      go_ret2
      exact ⟨by rw [H0.out.1, H0.out.2, ← HPW.out]; exact rfl, B2.out⟩
    · have H0 : Hid (outCountByNeighbours_0 ((N : Int) + 1) = (p2w N : Nat) ∧ outCountByNeighbours_1 ((N : Int) + 1) = true) := Lib.hid (by unfold outCountByNeighbours_0 outCountByNeighbours_1; rw [hb, show ((N : Int) + 1).toNat = N + 1 by omega, hi]; exact ⟨rfl, rfl⟩)
      have hp := p2w_wrap N (by omega)
      have HPW := Lib.hid hp
      clear hp
      have hpl := p2w_le N (by omega)
      rw [hi] at HF
      clear hb hi
      go_enter Try.func18, Try.ntmps18
      go_wp2_with fail
      go_at_call 40
      refine HG.out.mono ?_
      rintro e w' ⟨rfl, rfl⟩
      go_wp2_with fail
      go_at_call 41
      refine HF.out.mono ?_
      rintro e w2 ⟨v, rfl, o2, b2⟩
      have B2 := Lib.hid b2
      clear o2 b2
      go_wp2
      go_ret2
      exact ⟨by rw [H0.out.1, H0.out.2, ← HPW.out]; exact rfl, B2.out⟩


end Go.Proofs.Ytkdpjimbhpclaab
