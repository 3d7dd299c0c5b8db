/- Chapter 7, the program, plain: the first one who is left to turn. -/
import Derived.Test.YtkdpjimbhpclaabVf
import Derived.Test.YtkdpjimbhpclaabVb
namespace Go.Proofs.Ytkdpjimbhpclaab
open Go.ChangeShapes Go.WideShapes Go.ChangeAt Go.RowKit
open Rx Od Ed

namespace Ed
def lenV : Value → Nat
  | .slice _ l _ => l
  | _ => 0
theorem first_true (d : List Bool) (h : ∃ q, d.getD q false = true) : ∃ q, d.getD q false = true ∧ ∀ i, i < q → d.getD i false = false := by
  obtain ⟨q, hq⟩ := h
  induction q using Nat.strongRecOn with
  | ind q ih =>
    by_cases hs : ∃ i, i < q ∧ d.getD i false = true
    · obtain ⟨i, h1, h2⟩ := hs; exact ih i h1 h2
    · exact ⟨q, hq, fun i hi => by cases e : d.getD i false; rfl; exact absurd ⟨i, hi, e⟩ hs⟩
/-- the first key is the first soldier who is left to turn -/
theorem first_key (d : List Bool) (n p : Nat) (hd : d.length = n) (hz : ∀ i, i < p → d.getD i false = false) (h : ¬ ∀ x, edS d x = false) :
    ∃ (q : Nat) (t : List Int), p ≤ q ∧ q < n ∧ d.getD q false = true ∧ (∀ i, i < q → d.getD i false = false) ∧ keysS (edS d) (n + 1) = (q : Int) :: t := by
  have h1 : ∃ q, d.getD q false = true := by
    by_cases hn : ∃ q, d.getD q false = true
    · exact hn
    · exfalso
      apply h
      intro x
      have hzz := zeros_of d (fun i => by cases e : d.getD i false; rfl; exact absurd ⟨i, e⟩ hn)
      rw [hzz, edS_zeros]
  obtain ⟨q, hq1, hq2⟩ := first_true d h1
  have hpq : p ≤ q := by
    by_cases e : p ≤ q
    · exact e
    · rw [hz q (by omega)] at hq1; cases hq1
  have hqn : q < n := by
    by_cases e : q < n
    · exact e
    · rw [getD_over _ _ (by omega)] at hq1; cases hq1
  obtain ⟨he1, he2⟩ := edge_first d q hq2
  have hin : ∀ x, edS d x = true → 0 ≤ x ∧ x < ((n + 1 : Nat) : Int) := fun x hx => by have := edS_in d x hx; rw [hd] at this; exact this
  have hm : ((q : Nat) : Int) ∈ keysS (edS d) (n + 1) := (mem_keysS hin _).2 (by rw [edS_nat, he2, hq1])
  have hpw := keysS_lt (edS d) (n + 1)
  have hmem := fun x => mem_keysS hin x
  generalize keysS (edS d) (n + 1) = K at hm hpw hmem
  rcases K with _ | ⟨h0, t⟩
  · simp at hm
  · refine ⟨q, t, hpq, hqn, hq1, hq2, ?_⟩
    have h3 := (hmem h0).1 List.mem_cons_self
    obtain ⟨k, rfl, _, hk⟩ := edS_pos h3
    have h4 : q ≤ k := by
      by_cases e : q ≤ k
      · exact e
      · rw [he1 k (by omega)] at hk; cases hk
    rw [List.mem_cons] at hm
    rcases hm with hm | hm
    · rw [hm]
    · have := (List.pairwise_cons.1 hpw).1 _ hm
      omega
theorem grown_below {w w1 w2 : World} {r : Option Nat} (h : w.grownBy w1 r) (hb : Below w.heap.size w1 w2) : w.grownBy w2 r :=
  ⟨hb.os.trans h.os, hb.tape.trans h.tape, hb.output.trans h.output, Nat.le_trans h.size hb.size, fun k hk hr => (hb.block k hk).trans (h.block k hk hr)⟩
end Ed

end Go.Proofs.Ytkdpjimbhpclaab
