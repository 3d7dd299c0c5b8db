/- Chapter 2, the model: FirstBySeen. -/
import Derived.Test.YtkolkigpppfhcaaPme
namespace Go.Proofs.Ytkolkigpppfhcaa
open Go.ChangeShapes Go.WideShapes Go.ChangeAt Go.RowKit

set_option maxHeartbeats 4000000 in
theorem specFirstBySeen_any (w : World) (n l r : Int) (_wn : (Lit.int .i64 n).wf = true) (_wl : (Lit.int .i64 l).wf = true) (_wr : (Lit.int .i64 r).wf = true) :
    Calls Try.prog 7 #[.int .i64 n, .int .i64 l, .int .i64 r] w fun e w' => ∃ v0, e = .returned (.tuple #[v0, .bool (outFirstBySeen_1 n l r)]) ∧ Own w' w.heap.size v0 (outFirstBySeen_0 n l r) ∧ Below w.heap.size w w' := by
  have HA := Lib.hid (heAsked_q n l r w)
  clear _wn _wl _wr
  rcases hb : askB n l r with _ | _
  · have H0 := Lib.hid (outFBS_no (show firstB n l r = false by unfold firstB; rw [hb]; rfl))
    rw [hb] at HA
    clear hb
    go_enter Try.func7, Try.ntmps7
    go_wp2_with (go_at_call 12; refine HA.out.mono ?_; rintro e w' ⟨rfl, rfl⟩)
    go_ret2
    exact ⟨_, by rw [H0.out.2]; exact rfl, by rw [H0.out.1]; exact own_nil _ _, Below.refl _ _⟩
  by_cases h8 : 8 < n
  · have H0 := Lib.hid (outFBS_no (show firstB n l r = false by unfold firstB; rw [hb, decide_eq_false (by omega)]; rfl))
    rw [hb] at HA
    clear hb
    go_enter Try.func7, Try.ntmps7
    go_wp2_with (go_at_call 12; refine HA.out.mono ?_; rintro e w' ⟨rfl, rfl⟩)
    go_ret2
    exact ⟨_, by rw [H0.out.2]; exact rfl, by rw [H0.out.1]; exact own_nil _ _, Below.refl _ _⟩
  obtain ⟨h1, h2, h3, h4, h5, h6⟩ := ask_yes hb
  have hf : firstB n l r = true := by unfold firstB; rw [hb, decide_eq_true (by omega)]; rfl
  rw [hb] at HA
  obtain ⟨N, rfl⟩ : ∃ N : Nat, n = (N : Int) := ⟨n.toNat, by omega⟩
  obtain ⟨L, rfl⟩ : ∃ L : Nat, l = (L : Int) := ⟨l.toNat, by omega⟩
  obtain ⟨R, rfl⟩ : ∃ R : Nat, r = (R : Int) := ⟨r.toNat, by omega⟩
  have HF := Lib.hid hf
  have HL := Lib.hid (heLook_q N L R (by omega) N [] w w.heap.size (.slice none 0 0) (by simp) (Nat.le_refl _) (own_nil _ _))
  clear hb hf
  go_enter Try.func7, Try.ntmps7
  go_wp2_with (go_at_call 12; refine HA.out.mono ?_; rintro e w' ⟨rfl, rfl⟩)
  go_at_call 16
  refine HL.out.mono ?_
  rintro e w1 ⟨v, rfl, o1, b1⟩
  have O1 := Lib.hid o1
  have B1 := Lib.hid b1
  clear o1 b1 HL
  rcases hlk : Pm.lookL N L R N [] with _ | zs
  · have HQ := Lib.hid (outFBS_none HF.out hlk)
    clear hlk O1
    go_wp2
    go_ret2
    exact ⟨_, by rw [HQ.out.2]; exact rfl, by rw [HQ.out.1]; exact own_nil _ _, B1.out⟩
  · have HQ := Lib.hid (outFBS_some HF.out hlk)
    have O2 := Lib.hid (O1.out zs hlk)
    clear hlk O1
    go_wp2
    go_ret2
    exact ⟨_, by rw [HQ.out.2]; exact rfl, by rw [HQ.out.1]; exact O2.out, B1.out⟩

end Go.Proofs.Ytkolkigpppfhcaa
