/- Chapter 3, columns: the model's foColumns, foLeft, foCommon, foLeast, RemaindersOf, StepOf, LeastWith, CanBeLeft, CountWith. -/
import Derived.Test.YthnbimfdodfhoaaFo
import Derived.Test.YthnbimfdodfhoaaFoL
import Derived.Deep.QuietTactic
namespace Go.Proofs.Ythnbimfdodfhoaa
open Go.ChangeShapes Go.WideShapes Go.ChangeAt Go.RowKit
open Fo

def colsB (zs : List Int) : Bool := inB zs.length 1 6 && allB zs 1 1000
def leftB (zs ls : List Int) : Bool := colsB zs && (decide (ls.length = zs.length) && (List.range ls.length).all fun i => inB (ls.getD i 0) 0 (zs.getD i 0 - 1))
theorem cols_nat {zs : List Int} (h : colsB zs = true) : ∃ cs : List Nat, zs = asInts cs ∧ 1 ≤ cs.length ∧ cs.length ≤ 6 ∧ ∀ x ∈ cs, 1 ≤ x ∧ x ≤ 1000 := by
  unfold colsB inB allB at h
  simp only [Bool.and_eq_true, decide_eq_true_eq, List.all_eq_true] at h
  obtain ⟨⟨h1, h2⟩, h3⟩ := h
  refine ⟨zs.map Int.toNat, ?_, by simp; omega, by simp; omega, fun x hx => ?_⟩
  · unfold asInts
    rw [List.map_map]
    symm
    refine (List.map_congr_left (fun z hz => ?_)).trans (List.map_id _)
    have := h3 z hz
    unfold inB at this
    simp only [decide_eq_true_eq] at this
    simp only [Function.comp_apply, id]
    omega
  · simp only [List.mem_map] at hx
    obtain ⟨z, hz, rfl⟩ := hx
    have := h3 z hz
    unfold inB at this
    simp only [decide_eq_true_eq] at this
    omega
theorem left_cols {zs ls : List Int} (h : leftB zs ls = true) : colsB zs = true ∧ ls.length = zs.length ∧ ∀ i, i < ls.length → inB (ls.getD i 0) 0 (zs.getD i 0 - 1) = true := by
  unfold leftB at h
  rw [Bool.and_eq_true, Bool.and_eq_true, List.all_eq_true] at h
  exact ⟨h.1, of_decide_eq_true h.2.1, fun i hi => h.2.2 i (List.mem_range.2 hi)⟩
theorem left_nat {zs ls : List Int} (h : leftB zs ls = true) : ∃ l2 : List Nat, ls = asInts l2 := by
  obtain ⟨_, _, h3⟩ := left_cols h
  refine ⟨ls.map Int.toNat, ?_⟩
  unfold asInts
  rw [List.map_map]
  symm
  refine (List.map_congr_left (fun z hz => ?_)).trans (List.map_id _)
  obtain ⟨i, hi, rfl⟩ := List.getElem_of_mem hz
  have := inB_yes (h3 i hi)
  simp only [List.getD_eq_getElem?_getD, List.getElem?_eq_getElem hi, Option.getD_some] at this
  simp only [Function.comp_apply, id]
  omega
theorem col_bd {cs : List Nat} (h : ∀ x ∈ cs, 1 ≤ x ∧ x ≤ 1000) (i : Nat) : 1 ≤ cs.getD i 1 ∧ cs.getD i 1 ≤ 1000 := by
  by_cases hi : i < cs.length
  · simp only [List.getD_eq_getElem?_getD, List.getElem?_eq_getElem hi, Option.getD_some]; exact h _ (List.getElem_mem hi)
  · simp only [List.getD_eq_getElem?_getD, List.getElem?_eq_none (by omega : cs.length ≤ i), Option.getD_none]; omega
theorem getD_in {cs : List Nat} {i : Nat} (h : i < cs.length) : cs.getD i 0 = cs.getD i 1 := by
  simp only [List.getD_eq_getElem?_getD, List.getElem?_eq_getElem h, Option.getD_some]
/-- the least number with what is left over of all columns, if there is one -/
def leastZ (zs ls : List Int) : Option Nat := leastO (zs.map Int.toNat) (ls.map Int.toNat) zs.length
def stepZ (zs : List Int) : Nat := lcmTo (zs.map Int.toNat) zs.length
theorem leastZ_asInts (cs l2 : List Nat) : leastZ (asInts cs) (asInts l2) = leastO cs l2 cs.length := by unfold leastZ; rw [toNat_asInts, toNat_asInts, asInts_len]
theorem stepZ_asInts (cs : List Nat) : stepZ (asInts cs) = lcmTo cs cs.length := by unfold stepZ; rw [toNat_asInts, asInts_len]
def outRemaindersOf_0 (n : Int) (zs : List Int) : List Int := if inB n 1 1000000 && colsB zs then zs.map (fun z => n % z) else []
def outRemaindersOf_1 (n : Int) (zs : List Int) : Bool := inB n 1 1000000 && colsB zs
theorem lenRemaindersOf_0 (n : Int) (zs : List Int) (h : zs.length ≤ 1048576) : (outRemaindersOf_0 n zs).length ≤ 4611686018427387904 := by
  unfold outRemaindersOf_0; split <;> simp; omega
def stepB (zs : List Int) : Bool := colsB zs && decide (stepZ zs ≤ 1000000000000)
def outStepOf_0 (zs : List Int) : Int := if stepB zs then (stepZ zs : Nat) else 0
def outStepOf_1 (zs : List Int) : Bool := stepB zs
def leastOr (o : Option Nat) : Int := match o with | some n => (n : Int) | none => 0
def outLeastWith_0 (zs ls : List Int) : Int := if leftB zs ls then leastOr (leastZ zs ls) else 0
def outLeastWith_1 (zs ls : List Int) : Bool := leftB zs ls && (leastZ zs ls).isSome
def outCanBeLeft_0 (zs ls : List Int) : Bool := leftB zs ls && (leastZ zs ls).isSome
def outCanBeLeft_1 (zs ls : List Int) : Bool := leftB zs ls
def countUp (o : Option Nat) (step : Nat) (most : Int) : Int := match o with | some n => if most < n then 0 else (most - n) / step + 1 | none => 0
def withB (zs ls : List Int) (most : Int) : Bool := leftB zs ls && inB most 0 1000000000
def outCountWith_0 (zs ls : List Int) (most : Int) : Int := if withB zs ls most then countUp (leastZ zs ls) (stepZ zs) most else 0
def outCountWith_1 (zs ls : List Int) (most : Int) : Bool := withB zs ls most



set_option maxHeartbeats 1000000 in
theorem foCommon_any (n d : Nat) (hn : n ≤ 1000000000000000000) (hd : d ≤ 1000000000000000000) (h1 : 1 ≤ n ∨ 1 ≤ d) (w : World) :
    Calls Try.prog 56 #[.int .i64 n, .int .i64 d] w fun e w' => e = .returned (.int .i64 (Nat.gcd n d : Nat)) ∧ Below w.heap.size w w' := by
  go_enter Try.func56, Try.ntmps56
  go_wp2
  go_loopw [0, 1] (fun x y wr => ∃ a b : Nat, a ≤ 1000000000000000000 ∧ b ≤ 1000000000000000000 ∧ x = .int .i64 (a : Int) ∧ y = .int .i64 (b : Int) ∧ Hid (Nat.gcd a b = Nat.gcd n d) ∧ (1 ≤ a ∨ 1 ≤ b) ∧ Hid (Below w.heap.size w wr)) (fun _ y _ => (intOf y).toNat)
  case atStart => exact ⟨n, d, hn, hd, rfl, rfl, rfl, h1, Below.refl _ _⟩
  case round =>
    obtain ⟨a, b, ha2, hb2, rfl, rfl, HG, hab, HB⟩ := hrel
    by_cases hz : 0 < b
    · have HG2 : Hid (Nat.gcd b (a % b) = Nat.gcd n d) := Lib.hid (by rw [← HG.out, Nat.gcd_comm a b, Nat.gcd_rec b a, Nat.gcd_comm])
      have hml := Nat.mod_lt a hz
      have hb0 : ¬ b = 0 := by omega
      go_wp2_with fail
      go_quiet (fail)
      go_wp2
      go_roundw
      case rel => exact ⟨b, a % b, hb2, by omega, rfl, int_eq (by omega), HG2.out, .inl hz, ⟨HB.out.os, HB.out.tape, HB.out.output, HB.out.size, HB.out.block⟩⟩
      case measure => simp [intOf]; omega
    · obtain rfl : b = 0 := by omega
      have HA : Hid (a = Nat.gcd n d) := Lib.hid (by rw [← HG.out, Nat.gcd_zero_right])
      clear hab hz
      go_wp2
      go_ret
      exact ⟨ret_int (by rw [HA.out]), HB.out⟩

end Go.Proofs.Ythnbimfdodfhoaa
