/- Numbers as texts: the model's l1Num. -/
import Derived.Test.YtamodlmdlaeoiabDr
import Derived.Test.YtamodlmdlaeoiabAny
import Derived.Laws.BytesArg
import Derived.WalkSpells
namespace Go.Proofs.Ytamodlmdlaeoiab
open Go.ChangeShapes Go.WideShapes Go.ChangeAt Go.RowKit
open Dr

/-- the digits of a number -/
def numL (n : Nat) : List UInt8 := if _h : n < 10 then [dg n] else numL (n / 10) ++ [dg (n % 10)]
termination_by n
decreasing_by omega
theorem numL_small {n : Nat} (h : n < 10) : numL n = [dg n] := by rw [numL, dif_pos h]
theorem numL_big {n : Nat} (h : ¬ n < 10) : numL n = numL (n / 10) ++ [dg (n % 10)] := by rw [numL, dif_neg h]
theorem numL_len (n : Nat) : ∀ k, n < 10 ^ k → 1 ≤ k → (numL n).length ≤ k := by
  induction n using Nat.strongRecOn with
  | _ n ih =>
    intro k hk h1
    by_cases h : n < 10
    · rw [numL_small h]; exact h1
    · rw [numL_big h, List.length_append, List.length_singleton]
      rcases k with _ | k
      · omega
      · have hk2 : n / 10 < 10 ^ k := by rw [Nat.pow_succ] at hk; omega
        have hk1 : 1 ≤ k := by
          rcases k with _ | k
          · simp at hk2; omega
          · omega
        have := ih (n / 10) (by omega) k hk2 hk1
        omega
theorem str_one (d : Nat) (_h : d < 10) : strOfNums [48 + (d : Int)] = txt [dg d] := by
  apply ByteArray.ext
  apply Array.ext'
  rw [strOfNums_data]
  show [UInt8.ofNat (48 + (d : Int)).toNat] = [dg d]
  unfold dg
  rw [show (48 + (d : Int)).toNat = 48 + d from by omega]

end Go.Proofs.Ytamodlmdlaeoiab
