/- Chapter 7, the program: MostRuns. -/
import Derived.Test.YtkdpjimbhpclaabVe
namespace Go.Proofs.Ytkdpjimbhpclaab
open Go.ChangeShapes Go.WideShapes Go.ChangeAt Go.RowKit
open Rx Od Ed

theorem implMostRuns_any (w : World) (n : Int) (_wn : (Lit.int .i64 n).wf = true) :
    Calls Try.prog 33 #[.int .i64 n] w fun e w' => e = .returned (.tuple #[.int .i64 (outMostRuns_0 n), .bool (outMostRuns_1 n)]) ∧ Below w.heap.size w w' := by
  have HG := Lib.hid (isOrderedCount_p n w)
  clear _wn
  rcases hb : inB n 1 40 with _ | _
  · have H0 : Hid (outMostRuns_0 n = 0 ∧ outMostRuns_1 n = false) := Lib.hid (by unfold outMostRuns_0 outMostRuns_1; rw [hb]; exact ⟨rfl, rfl⟩)
    rw [hb] at HG
    clear hb
    go_enter Try.func33, Try.ntmps33
    go_wp2_with (go_at_call 42; refine HG.out.mono ?_; rintro e w' ⟨rfl, rfl⟩)
    go_ret2
    exact ⟨by rw [H0.out.1, H0.out.2]; exact rfl, Below.refl _ _⟩
  · obtain ⟨h1, h2⟩ := inB_yes hb
    obtain ⟨N, rfl⟩ : ∃ N : Nat, n = (N : Int) := ⟨n.toNat, by omega⟩
    have H0 : Hid (outMostRuns_0 N = ((N : Int) + 1) / 2 ∧ outMostRuns_1 N = true) := Lib.hid (by unfold outMostRuns_0 outMostRuns_1; rw [hb]; exact ⟨rfl, rfl⟩)
    obtain ⟨M, hM⟩ : ∃ M : Nat, M = (N + 1) / 2 := ⟨_, rfl⟩
    have eM : ((N : Int) + 1) / 2 = (M : Int) := by omega
    rw [eM] at H0
    have hm : M ≤ 21 := by omega
    rw [hb] at HG
    clear hb hM
    go_enter Try.func33, Try.ntmps33
    go_wp2_with (go_at_call 42; refine HG.out.mono ?_; rintro e w' ⟨rfl, rfl⟩)
    go_ret2
    exact ⟨by rw [H0.out.1, H0.out.2, ← eM]; exact rfl, Below.refl _ _⟩

end Go.Proofs.Ytkdpjimbhpclaab
