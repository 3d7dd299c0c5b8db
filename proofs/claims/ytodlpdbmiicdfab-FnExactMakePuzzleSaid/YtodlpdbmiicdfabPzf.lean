/- Chapter 9, the model: Solutions, CountSolutions, FirstSolution, IsSolved. -/
import Derived.Test.YtodlpdbmiicdfabPze
namespace Go.Proofs.Ytodlpdbmiicdfab
open Go.ChangeShapes Go.WideShapes Go.ChangeAt Go.RowKit
open Pz

def outSolutions_1 (s : Int) (cs : List RClue) : Bool := goodP s cs
def outSolutions_0 (s : Int) (cs : List RClue) : List ByteArray := if goodP s cs then solL s.toNat cs else []

def outCountSolutions_1 (s : Int) (cs : List RClue) : Bool := goodP s cs
def outCountSolutions_0 (s : Int) (cs : List RClue) : Int := if goodP s cs then ((solL s.toNat cs).length : Nat) else 0

def outFirstSolution_1 (s : Int) (cs : List RClue) : Bool := goodP s cs && decide (0 < (solL s.toNat cs).length)
def outFirstSolution_0 (s : Int) (cs : List RClue) : ByteArray := if outFirstSolution_1 s cs then (solL s.toNat cs).getD 0 ByteArray.empty else ByteArray.empty

set_option maxHeartbeats 1000000 in
theorem pzSolved_any (w : World) (n : Nat) (h1 : 1 ≤ n) (h8 : n ≤ 8) (a : Option Addr) (len cap : Nat) (cs : List RClue) (hl : len ≤ 6) (hcl : ∀ k, k < cs.length → clueB (n : Int) (cs.getD k zClue) = true) (hc : CameClue w a len cs) :
    Calls Try.prog 39 #[.int .i64 (n : Int), .slice a len cap] w fun e w' => e = .returned (.bool (decide ((solL n cs).length = 1))) ∧ Below w.heap.size w w' := by
  have HA := Lib.hid (pzAll_any w n h1 h8 a len cap cs hl hcl hc)
  have hsl := solL_le h8 cs
  clear hc hcl
  go_enter Try.func39, Try.ntmps39
  go_wp2_with fail
  go_at_call 28
  refine HA.out.mono ?_
  rintro e w3 ⟨v, rfl, o3, b3⟩
  have B3 := Lib.hid b3
  obtain ⟨ao, cp, rfl, _⟩ := o3.read
  clear o3 b3
  obtain ⟨m, hm⟩ : ∃ m, m = (solL n cs).length := ⟨_, rfl⟩
  have HD0 : Hid (decide ((solL n cs).length = 1) = decide (m = 1)) := Lib.hid (by rw [hm])
  rw [← hm] at hsl ⊢
  clear hm
  by_cases h : m = 1
  · subst h
    go_wp2
    go_ret
    exact ⟨ret_bool (by rw [HD0.out]; rfl), B3.out⟩
  · have i1 : ((m : Int) == 1) = false := by rw [beq_eq_false_iff_ne]; omega
    have HD : Hid (decide (m = 1) = false) := Lib.hid (decide_eq_false h)
    go_wp2
    go_ret
    exact ⟨ret_bool (by rw [HD0.out, HD.out]), B3.out⟩

def outIsSolved_1 (s : Int) (cs : List RClue) : Bool := goodP s cs
def outIsSolved_0 (s : Int) (cs : List RClue) : Bool := goodP s cs && decide ((solL s.toNat cs).length = 1)

end Go.Proofs.Ytodlpdbmiicdfab
