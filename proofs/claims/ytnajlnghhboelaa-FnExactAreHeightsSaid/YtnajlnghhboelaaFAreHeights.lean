/- AreHeights: both sides as the law's walk wants them. -/
import Derived.Test.YtnajlnghhboelaaHp1
namespace Go.Proofs.Ytnajlnghhboelaa
open Go.ChangeShapes Go.WideShapes Go.ChangeAt Go.RowKit

def outAreHeights_0 (zs : List Int) : Bool := goodH zs
theorem implAreHeights_any (w : World) (a : Option Addr) (len cap : Nat) (zs : List Int) (hl : len ≤ 1048576) (hc : Came w a len zs) :
    Calls Try.prog 15 #[.slice a len cap] w fun e w' => e = .returned (.bool (outAreHeights_0 zs)) ∧ Below w.heap.size w w' :=
  (areHeights_any w a len cap zs (by omega) hc).mono fun e w' ⟨he, hw⟩ => by subst hw; exact ⟨he, Below.refl _ _⟩
set_option maxHeartbeats 400000 in
theorem specAreHeights_any (w : World) (a : Option Addr) (len cap : Nat) (zs : List Int) (hl : len ≤ 1048576) (hc : Came w a len zs) :
    Calls Try.prog 13 #[.slice a len cap] w fun e w' => e = .returned (.bool (outAreHeights_0 zs)) ∧ Below w.heap.size w w' := by
  have HG := Lib.hid (heGood_any w a len cap zs (by omega) hc)
  clear hc
  go_enter Try.func13, Try.ntmps13
  go_wp2_with (go_at_call 37; refine HG.out.mono ?_; rintro e w' ⟨rfl, rfl⟩)
  go_ret
  exact ⟨rfl, Below.refl _ _⟩

end Go.Proofs.Ytnajlnghhboelaa
