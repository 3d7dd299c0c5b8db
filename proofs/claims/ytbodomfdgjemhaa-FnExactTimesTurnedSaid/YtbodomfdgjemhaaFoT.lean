/- Chapter 3, formations that are turned: the model's foSides, foTurn, TurnFormation. -/
import Derived.Test.YtbodomfdgjemhaaFo
import Derived.Test.YtbodomfdgjemhaaFoM
import Derived.Test.YtbodomfdgjemhaaUp
namespace Go.Proofs.Ytbodomfdgjemhaa
open Go.ChangeShapes Go.WideShapes Go.ChangeAt Go.RowKit
open Fo

def sidesB (r c : Int) : Bool := inB r 1 200 && (inB c 1 200 && decide (r * c ≤ 200))
theorem sides_nat {r c : Int} (h : sidesB r c = true) : ∃ R C : Nat, r = (R : Int) ∧ c = (C : Int) ∧ 1 ≤ R ∧ R ≤ 200 ∧ 1 ≤ C ∧ C ≤ 200 ∧ R * C ≤ 200 := by
  unfold sidesB at h
  rw [Bool.and_eq_true, Bool.and_eq_true] at h
  have h1 := inB_yes h.1
  have h2 := inB_yes h.2.1
  have h3 := of_decide_eq_true h.2.2
  obtain ⟨R, rfl⟩ : ∃ R : Nat, r = (R : Int) := ⟨r.toNat, by omega⟩
  obtain ⟨C, rfl⟩ : ∃ C : Nat, c = (C : Int) := ⟨c.toNat, by omega⟩
  exact ⟨R, C, rfl, rfl, by omega, by omega, by omega, by omega, by have h4 : ((R * C : Nat) : Int) ≤ 200 := by { rw [Int.natCast_mul]; exact h3 }; omega⟩
/-- who stands at place j of the turned formation -/
def turnAt (R C j : Nat) : Nat := (R - 1 - j % R) * C + j / R
def turnF (R C : Nat) : Nat → Int := fun j => ((turnAt R C j : Nat) : Int)
theorem turnAt_of (R C c d : Nat) (h : d < R) : turnAt R C (c * R + d) = (R - 1 - d) * C + c := by
  unfold turnAt
  rw [Nat.mul_comm c R, Nat.mul_add_mod, Nat.mod_eq_of_lt h, Nat.mul_add_div (by omega), Nat.div_eq_of_lt h, Nat.add_zero]
def turnL (R C : Nat) : List Int := upTo (turnF R C) (C * R)
def outTurnFormation_0 (r c : Int) : List Int := if sidesB r c then turnL r.toNat c.toNat else []
def outTurnFormation_1 (r c : Int) : Bool := sidesB r c
theorem lenTurnFormation_0 (r c : Int) : (outTurnFormation_0 r c).length ≤ 4611686018427387904 := by
  unfold outTurnFormation_0
  split
  · rename_i h
    obtain ⟨R, C, rfl, rfl, _, _, _, _, h5⟩ := sides_nat h
    simp only [Int.toNat_natCast]
    unfold turnL
    rw [length_upTo, Nat.mul_comm]; omega
  · simp

set_option maxHeartbeats 400000 in
theorem foSides_any (r c : Int) (w : World) :
    Calls Try.prog 52 #[.int .i64 r, .int .i64 c] w fun e w' => e = .returned (.bool (sidesB r c)) ∧ w = w' := by
  have HI := Lib.hid (l1In_any r 1 200 w)
  have HJ := Lib.hid (l1In_any c 1 200 w)
  rcases hb : inB r 1 200 with _ | _
  · have HE : Hid (sidesB r c = false) := Lib.hid (by unfold sidesB; rw [hb]; rfl)
    rw [hb] at HI
    go_enter Try.func52, Try.ntmps52
    go_wp2_with (go_at_call 40; refine HI.out.mono ?_; rintro e w' ⟨rfl, rfl⟩)
    go_ret
    exact ⟨ret_bool (by rw [HE.out]), rfl⟩
  · obtain ⟨h1, h2⟩ := inB_yes hb
    rcases hb2 : inB c 1 200 with _ | _
    · have HE : Hid (sidesB r c = false) := Lib.hid (by unfold sidesB; rw [hb, hb2]; rfl)
      rw [hb] at HI
      rw [hb2] at HJ
      clear hb hb2
      go_enter Try.func52, Try.ntmps52
      go_wp2_with fail
      go_at_call 40
      refine HI.out.mono ?_
      rintro e w' ⟨rfl, rfl⟩
      go_wp2_with fail
      go_at_call 40
      refine HJ.out.mono ?_
      rintro e w' ⟨rfl, rfl⟩
      go_wp2
      go_ret
      exact ⟨ret_bool (by rw [HE.out]), rfl⟩
    · have HE : Hid (sidesB r c = decide (r * c ≤ 200)) := Lib.hid (by unfold sidesB; rw [hb, hb2]; rfl)
      obtain ⟨h3, h4⟩ := inB_yes hb2
      have h5 : 0 ≤ r * c := Int.mul_nonneg (by omega) (by omega)
      have h6 : r * c ≤ 200 * 200 := Int.mul_le_mul h2 h4 (by omega) (by omega)
      rw [hb] at HI
      rw [hb2] at HJ
      clear hb hb2
      go_enter Try.func52, Try.ntmps52
      go_wp2_with fail
      go_at_call 40
      refine HI.out.mono ?_
      rintro e w' ⟨rfl, rfl⟩
      go_wp2_with fail
      go_at_call 40
      refine HJ.out.mono ?_
      rintro e w' ⟨rfl, rfl⟩
      go_wp2
      go_ret
      exact ⟨ret_bool (by rw [HE.out]), rfl⟩

set_option maxHeartbeats 1000000 in
theorem foTurn_any (R C : Nat) (h1 : 1 ≤ R) (h2 : R ≤ 200) (_h3 : 1 ≤ C) (h4 : C ≤ 200) (h5 : R * C ≤ 200) (w : World) :
    Calls Try.prog 53 #[.int .i64 R, .int .i64 C] w fun e w' => ∃ v, e = .returned v ∧ Own w' w.heap.size v (turnL R C) ∧ Below w.heap.size w w' := by
  have H5 := Lib.hid h5
  clear h5
  go_enter Try.func53, Try.ntmps53
  go_wp2
  go_loopw [5, 6] (fun v i wr => ∃ c : Nat, c ≤ C ∧ i = .int .i64 (c : Int) ∧ Hid (Own wr w.heap.size v (upTo (turnF R C) (c * R))) ∧ Hid (Below w.heap.size w wr)) (fun _ i _ => C - (intOf i).toNat)
  case atStart => exact ⟨0, Nat.zero_le _, rfl, Lib.hid (by rw [Nat.zero_mul]; exact own_nil _ _), Lib.hid (Below.refl _ _)⟩
  case round =>
    obtain ⟨c, hc, rfl, HO, HB⟩ := hrel
    by_cases hlt : c < C
    · obtain ⟨wo, rfl⟩ : ∃ wo : World, wo = wr := ⟨_, rfl⟩
      go_wp2
      go_loopw [5, 7] (fun v i wr => ∃ k : Nat, k ≤ R ∧ i = .int .i64 ((k : Int) - 1) ∧ Hid (Own wr w.heap.size v (upTo (turnF R C) (c * R + (R - k)))) ∧ Hid (Below w.heap.size w wr)) (fun _ i _ => (intOf i + 1).toNat)
      case atStart => exact ⟨R, Nat.le_refl _, rfl, Lib.hid (by rw [Nat.sub_self, Nat.add_zero]; exact HO.out), HB⟩
      case round =>
        obtain ⟨k, hk, rfl, HO2, HB2⟩ := hrel
        rcases k with _ | k
        · have HO3 : Hid (Own wr w.heap.size _ (upTo (turnF R C) ((c + 1) * R))) := Lib.hid (by rw [Nat.succ_mul]; exact HO2.out)
          clear HO2
          go_wp2
          go_roundw
          case rel => exact ⟨c + 1, by omega, by go_num, HO3, HB2⟩
          case measure => simp [intOf]; omega
        · have ek : ((k + 1 : Nat) : Int) - 1 = (k : Int) := by omega
          rw [ek]
          have hp : k * C ≤ 200 * 200 := Nat.mul_le_mul (by omega) h4
          obtain ⟨p, hpp⟩ : ∃ p, p = k * C := ⟨_, rfl⟩
          have e1 : (k : Int) * (C : Int) = (p : Int) := by rw [hpp]; simp
          rw [← hpp] at hp
          have HS : Hid (upTo (turnF R C) (c * R + (R - k)) = upTo (turnF R C) (c * R + (R - (k + 1))) ++ [(p : Int) + (c : Int)]) := Lib.hid (by
            rw [show c * R + (R - k) = (c * R + (R - (k + 1))) + 1 from by omega, upTo_succ]
            congr 2
            unfold turnF
            rw [turnAt_of R C c (R - (k + 1)) (by omega), show R - 1 - (R - (k + 1)) = k from by omega, ← hpp]
            simp)
          have hbl : (upTo (turnF R C) (c * R + (R - (k + 1)))).length ≤ 1000000000 := by
            rw [length_upTo]; have := Nat.mul_le_mul (show c ≤ 200 by omega) h2; omega
          have hz := HB2.out.size
          clear ek hpp
          go_wp2_with (at_builtin; refine wpList_app rfl _ _ rfl _ _ _ _ _ rfl rfl HO2.out hz hbl ?_; intro v' w5 hO hB5)
          have HO5 : Hid (Own w5 w.heap.size v' (upTo (turnF R C) (c * R + (R - k)))) := Lib.hid (by rw [HS.out]; exact hO)
          have HB5 : Hid (Below w.heap.size w w5) := Lib.hid (HB2.out.trans hB5)
          clear hO hB5 HO2 HB2
          go_wp2
          go_roundw
          case rel => exact ⟨k, by omega, rfl, HO5, HB5⟩
          case measure => first | (simp [intOf]; done) | (simp [intOf]; omega)
    · obtain rfl : c = C := by omega
      have HO3 : Hid (Own wr w.heap.size _ (turnL R c)) := Lib.hid HO.out
      clear HO
      go_wp2
      go_ret
      exact ⟨_, rfl, HO3.out, HB.out⟩

set_option maxHeartbeats 400000 in
theorem specTurnFormation_any (w : World) (r c : Int) (_wr : (Lit.int .i64 r).wf = true) (_wc : (Lit.int .i64 c).wf = true) :
    Calls Try.prog 29 #[.int .i64 r, .int .i64 c] w fun e w' => ∃ v0, e = .returned (.tuple #[v0, .bool (outTurnFormation_1 r c)]) ∧ Own w' w.heap.size v0 (outTurnFormation_0 r c) ∧ Below w.heap.size w w' := by
  have HH := Lib.hid (foSides_any r c w)
  clear _wr _wc
  rcases hb : sidesB r c with _ | _
  · have H0 : Hid (outTurnFormation_0 r c = [] ∧ outTurnFormation_1 r c = false) := Lib.hid (by unfold outTurnFormation_0 outTurnFormation_1; rw [hb]; exact ⟨rfl, rfl⟩)
    rw [hb] at HH
    clear hb
    go_enter Try.func29, Try.ntmps29
    go_wp2_with (go_at_call 52; refine HH.out.mono ?_; rintro e w' ⟨rfl, rfl⟩)
    go_ret2
    exact ⟨_, by rw [H0.out.2]; exact rfl, by rw [H0.out.1]; exact own_nil _ _, Below.refl _ _⟩
  · obtain ⟨R, C, rfl, rfl, h1, h2, h3, h4, h5⟩ := sides_nat hb
    have H0 : Hid (outTurnFormation_0 R C = turnL R C ∧ outTurnFormation_1 R C = true) := Lib.hid (by unfold outTurnFormation_0 outTurnFormation_1; rw [hb]; exact ⟨rfl, rfl⟩)
    rw [hb] at HH
    have HT := Lib.hid (foTurn_any R C h1 h2 h3 h4 h5 w)
    clear hb h5
    go_enter Try.func29, Try.ntmps29
    go_wp2_with fail
    go_at_call 52
    refine HH.out.mono ?_
    rintro e w' ⟨rfl, rfl⟩
    go_wp2_with fail
    go_at_call 53
    refine HT.out.mono ?_
    rintro e w2 ⟨v, rfl, o2, b2⟩
    have O2 := Lib.hid o2
    have B2 := Lib.hid b2
    clear o2 b2
    go_wp2
    go_ret2
    exact ⟨_, by rw [H0.out.2]; exact rfl, by rw [H0.out.1]; exact O2.out, B2.out⟩

end Go.Proofs.Ytbodomfdgjemhaa
