/- Chapter 2: CountBySeen, the program's and the model's. -/
import Derived.Test.YtkolkigpppfhcaaSnf
import Derived.Test.YtkolkigpppfhcaaSnc
namespace Go.Proofs.Ytkolkigpppfhcaa
open Go.ChangeShapes Go.WideShapes Go.ChangeAt Go.RowKit
open Go.ChangeMaps (setBlock)
open Sn

theorem ask_of {n l r : Int} (h : 1 ≤ n ∧ n ≤ 15 ∧ 0 ≤ l ∧ l ≤ 15 ∧ 0 ≤ r ∧ r ≤ 15) : askB n l r = true := by
  unfold askB
  rw [inB_of ⟨h.1, h.2.1⟩, inB_of ⟨h.2.2.1, h.2.2.2.1⟩, inB_of ⟨h.2.2.2.2.1, h.2.2.2.2.2⟩]; rfl
theorem ask_yes {n l r : Int} (h : askB n l r = true) : 1 ≤ n ∧ n ≤ 15 ∧ 0 ≤ l ∧ l ≤ 15 ∧ 0 ≤ r ∧ r ≤ 15 := by
  unfold askB at h
  rw [Bool.and_eq_true, Bool.and_eq_true] at h
  have h1 := inB_yes h.1
  have h2 := inB_yes h.2.1
  have h3 := inB_yes h.2.2
  omega
theorem ask_no {n l r : Int} (h : ¬ (1 ≤ n ∧ n ≤ 15 ∧ 0 ≤ l ∧ l ≤ 15 ∧ 0 ≤ r ∧ r ≤ 15)) : askB n l r = false := by
  rcases hb : askB n l r with _ | _
  · rfl
  · exact absurd (ask_yes hb) h

set_option maxHeartbeats 1000000 in
theorem areSeen_p (n l r : Int) (w : World) :
    Calls Try.prog 14 #[.int .i64 n, .int .i64 l, .int .i64 r] w fun e w' => e = .returned (.bool (askB n l r)) ∧ w = w' := by
  by_cases h0 : 1 ≤ n
  · by_cases h1 : n ≤ 15
    · by_cases h2 : 0 ≤ l
      · by_cases h3 : l ≤ 15
        · by_cases h4 : 0 ≤ r
          · by_cases h5 : r ≤ 15
            · have HE : Hid (askB n l r = true) := Lib.hid (by exact ask_of (by omega))
              go_enter Try.func14, Try.ntmps14
              go_wp2
              go_ret
              exact ⟨ret_bool (by rw [HE.out]), rfl⟩
            · have HE : Hid (askB n l r = false) := Lib.hid (by exact ask_no (by omega))
              go_enter Try.func14, Try.ntmps14
              go_wp2
              go_ret
              exact ⟨ret_bool (by rw [HE.out]), rfl⟩
          · have HE : Hid (askB n l r = false) := Lib.hid (by exact ask_no (by omega))
            go_enter Try.func14, Try.ntmps14
            go_wp2
            go_ret
            exact ⟨ret_bool (by rw [HE.out]), rfl⟩
        · have HE : Hid (askB n l r = false) := Lib.hid (by exact ask_no (by omega))
          go_enter Try.func14, Try.ntmps14
          go_wp2
          go_ret
          exact ⟨ret_bool (by rw [HE.out]), rfl⟩
      · have HE : Hid (askB n l r = false) := Lib.hid (by exact ask_no (by omega))
        go_enter Try.func14, Try.ntmps14
        go_wp2
        go_ret
        exact ⟨ret_bool (by rw [HE.out]), rfl⟩
    · have HE : Hid (askB n l r = false) := Lib.hid (by exact ask_no (by omega))
      go_enter Try.func14, Try.ntmps14
      go_wp2
      go_ret
      exact ⟨ret_bool (by rw [HE.out]), rfl⟩
  · have HE : Hid (askB n l r = false) := Lib.hid (by exact ask_no (by omega))
    go_enter Try.func14, Try.ntmps14
    go_wp2
    go_ret
    exact ⟨ret_bool (by rw [HE.out]), rfl⟩

theorem _root_.Go.Proofs.Ytkolkigpppfhcaa.Sn.MapP.look {X : World} {b N n : Nat} {f : Nat → Nat → Nat} (h : MapP X b N n f) (l r : Nat) (hl : l ≤ 20) (hr : r ≤ 20) :
    (Instr.lookup 32 (.map (some b)) (.agg #[.int .i64 (l : Int), .int .i64 (r : Int)]) false).run Try.prog X = .ok (.int .i64 ((f l r : Nat) : Int)) X := by
  obtain ⟨D, ho, hR⟩ := h
  obtain ⟨c', h1, h2, _⟩ := ho.lookup_int lawS Try.underlying32 Try.underlying3 (zeroI X) (keyOf_mk (l := (l : Int)) (r := (r : Int)) (wfN (by omega)) (wfN (by omega)))
  rw [hR.1 l r hl hr] at h2
  injection h2 with h2
  injection h2 with _ h2
  rw [← h2] at h1
  exact h1

def outCountBySeen_0 (n l r : Int) : Int := if askB n l r then ((T n.toNat l.toNat r.toNat : Nat) : Int) else 0
def outCountBySeen_1 (n l r : Int) : Bool := askB n l r
theorem outCBS_no {n l r : Int} (h : askB n l r = false) : outCountBySeen_0 n l r = 0 ∧ outCountBySeen_1 n l r = false := by unfold outCountBySeen_0 outCountBySeen_1; rw [h]; exact ⟨rfl, rfl⟩
theorem outCBS_yes {n l r : Int} (h : askB n l r = true) : outCountBySeen_0 n l r = ((T n.toNat l.toNat r.toNat : Nat) : Int) ∧ outCountBySeen_1 n l r = true := by unfold outCountBySeen_0 outCountBySeen_1; rw [h]; exact ⟨rfl, rfl⟩

set_option maxHeartbeats 2000000 in
theorem specCountBySeen_any (w : World) (n l r : Int) (_wn : (Lit.int .i64 n).wf = true) (_wl : (Lit.int .i64 l).wf = true) (_wr : (Lit.int .i64 r).wf = true) :
    Calls Try.prog 5 #[.int .i64 n, .int .i64 l, .int .i64 r] w fun e w' => e = .returned (.tuple #[.int .i64 (outCountBySeen_0 n l r), .bool (outCountBySeen_1 n l r)]) ∧ Below w.heap.size w w' := by
  have HA := Lib.hid (heAsked_q n l r w)
  clear _wn _wl _wr
  rcases hb : askB n l r with _ | _
  · have H0 := Lib.hid (outCBS_no hb)
    rw [hb] at HA
    clear hb
    go_enter Try.func5, Try.ntmps5
    go_wp2_with (go_at_call 12; refine HA.out.mono ?_; rintro e w' ⟨rfl, rfl⟩)
    go_ret2
    exact ⟨by rw [H0.out.1, H0.out.2]; exact rfl, Below.refl _ _⟩
  · obtain ⟨h1, h2, h3, h4, h5, h6⟩ := ask_yes hb
    have H0 := Lib.hid (outCBS_yes hb)
    rw [hb] at HA
    clear hb
    obtain ⟨N, rfl⟩ : ∃ N : Nat, n = (N : Int) := ⟨n.toNat, by omega⟩
    obtain ⟨L, rfl⟩ : ∃ L : Nat, l = (L : Int) := ⟨l.toNat, by omega⟩
    obtain ⟨R, rfl⟩ : ∃ R : Nat, r = (R : Int) := ⟨r.toNat, by omega⟩
    have hN1 : 1 ≤ N := by omega
    have hN2 : N ≤ 15 := by omega
    have hL16 : L < 16 := by omega
    have hR16 : R < 16 := by omega
    have hLI : (L : Int) < 16 := by omega
    have hRI : (R : Int) < 16 := by omega
    have HC := Lib.hid (heCounts_q w N hN1 hN2)
    go_enter Try.func5, Try.ntmps5
    go_wp2_with (go_at_call 12; refine HA.out.mono ?_; rintro e w' ⟨rfl, rfl⟩)
    go_at_call 13
    refine HC.out.mono ?_
    rintro e w1 ⟨v, rfl, O, B⟩
    obtain ⟨g, cap, G, C, rfl, hG⟩ := Grid.of O
    have c1 := hG.row L hL16
    have c2 := hG.at' L R hL16 hR16
    obtain ⟨a, ha⟩ : ∃ a, a = G L := ⟨_, rfl⟩
    obtain ⟨k, hk⟩ : ∃ a, a = C L := ⟨_, rfl⟩
    rw [← ha] at c1 c2
    rw [← hk] at c1
    have HB := Lib.hid B
    clear ha hk hG O B
    go_wp2
    go_ret2
    exact ⟨by rw [H0.out.1, H0.out.2]; exact rfl, HB.out⟩

set_option maxHeartbeats 2000000 in
theorem implCountBySeen_any (w : World) (n l r : Int) (_wn : (Lit.int .i64 n).wf = true) (_wl : (Lit.int .i64 l).wf = true) (_wr : (Lit.int .i64 r).wf = true) :
    Calls Try.prog 6 #[.int .i64 n, .int .i64 l, .int .i64 r] w fun e w' => e = .returned (.tuple #[.int .i64 (outCountBySeen_0 n l r), .bool (outCountBySeen_1 n l r)]) ∧ Below w.heap.size w w' := by
  have HA := Lib.hid (areSeen_p n l r w)
  clear _wn _wl _wr
  rcases hb : askB n l r with _ | _
  · have H0 := Lib.hid (outCBS_no hb)
    rw [hb] at HA
    clear hb
    go_enter Try.func6, Try.ntmps6
    go_wp2_with (go_at_call 14; refine HA.out.mono ?_; rintro e w' ⟨rfl, rfl⟩)
    go_ret2
    exact ⟨by rw [H0.out.1, H0.out.2]; exact rfl, Below.refl _ _⟩
  · obtain ⟨h1, h2, h3, h4, h5, h6⟩ := ask_yes hb
    have H0 := Lib.hid (outCBS_yes hb)
    rw [hb] at HA
    clear hb
    obtain ⟨N, rfl⟩ : ∃ N : Nat, n = (N : Int) := ⟨n.toNat, by omega⟩
    obtain ⟨L, rfl⟩ : ∃ L : Nat, l = (L : Int) := ⟨l.toNat, by omega⟩
    obtain ⟨R, rfl⟩ : ∃ R : Nat, r = (R : Int) := ⟨r.toNat, by omega⟩
    have hN1 : 1 ≤ N := by omega
    have hN2 : N ≤ 15 := by omega
    have hL16 : L < 16 := by omega
    have hR16 : R < 16 := by omega
    have hLI : (L : Int) < 16 := by omega
    have hRI : (R : Int) < 16 := by omega
    have HC := Lib.hid (ordersBySeen_p w N hN1 hN2)
    go_enter Try.func6, Try.ntmps6
    go_wp2_with (go_at_call 14; refine HA.out.mono ?_; rintro e w' ⟨rfl, rfl⟩)
    go_at_call 15
    refine HC.out.mono ?_
    rintro e w1 ⟨b, rfl, M, B⟩
    have hlk := M.look L R (by omega) (by omega)
    have HB := Lib.hid B
    clear M B
    go_wp2
    go_ret2
    exact ⟨by rw [H0.out.1, H0.out.2]; exact rfl, HB.out⟩

end Go.Proofs.Ytkolkigpppfhcaa
