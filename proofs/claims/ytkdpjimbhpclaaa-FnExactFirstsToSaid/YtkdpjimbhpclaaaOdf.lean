/- Chapter 7, the model: odIdle, IdleOrders, CountByNeighbours, CountByWindows. -/
import Derived.Test.YtkdpjimbhpclaaaOde
namespace Go.Proofs.Ytkdpjimbhpclaaa
open Go.ChangeShapes Go.WideShapes Go.ChangeAt Go.RowKit
open Rx Od

namespace Od
def zeroL (n : Nat) : List Bool := Rw.make n 0
def idleB (n : Nat) : Bool := chB (zeroL n) (zeroL n) true
def idleL (n : Nat) : List Int := chL (zeroL n) (zeroL n) true
theorem length_zeroL (n : Nat) : (zeroL n).length = n := Rw.length_make n 0
theorem length_idleL (n : Nat) : (idleL n).length ≤ n + 1 := by
  have := chL_len (zeroL n) (zeroL n) true
  rw [length_zeroL] at this
  exact this
end Od
def outIdleOrders_0 (n : Int) : List Int := if inB n 1 40 && idleB n.toNat then idleL n.toNat else []
def outIdleOrders_1 (n : Int) : Bool := inB n 1 40 && idleB n.toNat
theorem lenIdleOrders_0 (n : Int) : (outIdleOrders_0 n).length ≤ 4611686018427387904 := by
  unfold outIdleOrders_0
  split
  · rename_i h
    rw [Bool.and_eq_true] at h
    have h1 := inB_yes h.1
    have h2 := length_idleL n.toNat
    omega
  · simp
def outCountByNeighbours_0 (n : Int) : Int := if inB n 1 40 then (if idleB n.toNat then (p2w (n.toNat - 1) : Nat) else (p2w n.toNat : Nat)) else 0
def outCountByNeighbours_1 (n : Int) : Bool := inB n 1 40
def cbwB (n wd : Int) : Bool := inB n 1 40 && inB wd 1 n
def outCountByWindows_0 (n wd : Int) : Int := if cbwB n wd then (p2w (n - wd + 1).toNat : Nat) else 0
def outCountByWindows_1 (n wd : Int) : Bool := cbwB n wd




set_option maxHeartbeats 1000000 in
theorem specCountByWindows_any (w : World) (n wd : Int) (_wn : (Lit.int .i64 n).wf = true) (_ww : (Lit.int .i64 wd).wf = true) :
    Calls Try.prog 37 #[.int .i64 n, .int .i64 wd] w fun e w' => e = .returned (.tuple #[.int .i64 (outCountByWindows_0 n wd), .bool (outCountByWindows_1 n wd)]) ∧ Below w.heap.size w w' := by
  have HG := Lib.hid (odSoldiers_q n w)
  have HI := Lib.hid (l1In_any wd 1 n w)
  have hno : cbwB n wd = false → outCountByWindows_0 n wd = 0 ∧ outCountByWindows_1 n wd = false := fun h => by unfold outCountByWindows_0 outCountByWindows_1; rw [h]; exact ⟨rfl, rfl⟩
  clear _wn _ww
  rcases hb : inB n 1 40 with _ | _
  · have H0 := Lib.hid (hno (by unfold cbwB; rw [hb]; rfl))
    rw [hb] at HG
    clear hb hno
    go_enter Try.func37, Try.ntmps37
    go_wp2_with (go_at_call 58; refine HG.out.mono ?_; rintro e w' ⟨rfl, rfl⟩)
    go_ret2
    exact ⟨by rw [H0.out.1, H0.out.2]; exact rfl, Below.refl _ _⟩
  · rw [hb] at HG
    rcases hb2 : inB wd 1 n with _ | _
    · have H0 := Lib.hid (hno (by unfold cbwB; rw [hb, hb2]; rfl))
      rw [hb2] at HI
      clear hb hb2 hno
      go_enter Try.func37, Try.ntmps37
      go_wp2_with (first | (go_at_call 58; refine HG.out.mono ?_; rintro e w' ⟨rfl, rfl⟩) | (go_at_call 40; refine HI.out.mono ?_; rintro e w' ⟨rfl, rfl⟩))
      go_ret2
      exact ⟨by rw [H0.out.1, H0.out.2]; exact rfl, Below.refl _ _⟩
    · rw [hb2] at HI
      obtain ⟨h1, h2⟩ := inB_yes hb
      obtain ⟨h3, h4⟩ := inB_yes hb2
      obtain ⟨K, hK⟩ : ∃ K : Nat, n - wd + 1 = (K : Int) := ⟨(n - wd + 1).toNat, by omega⟩
      have H0 : Hid (outCountByWindows_0 n wd = (p2w K : Nat) ∧ outCountByWindows_1 n wd = true) := Lib.hid (by unfold outCountByWindows_0 outCountByWindows_1 cbwB; rw [hb, hb2, hK, Int.toNat_natCast]; exact ⟨rfl, rfl⟩)
      have hp := p2w_wrap K (by omega)
      have HPW := Lib.hid hp
      clear hp
      have hpl := p2w_le K (by omega)
      clear hb hb2 hno
      go_enter Try.func37, Try.ntmps37
      go_wp2_with fail
      go_at_call 58
      refine HG.out.mono ?_
      rintro e w' ⟨rfl, rfl⟩
      go_wp2_with (go_at_call 40; refine HI.out.mono ?_; rintro e w' ⟨rfl, rfl⟩)
      go_ret2
      exact ⟨by rw [H0.out.1, H0.out.2, ← HPW.out]; exact rfl, Below.refl _ _⟩

end Go.Proofs.Ytkdpjimbhpclaaa
