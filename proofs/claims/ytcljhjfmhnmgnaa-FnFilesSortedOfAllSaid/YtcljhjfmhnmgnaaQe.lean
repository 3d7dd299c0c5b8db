/- The walk of FnFilesSortedOfAll as the law's text wants it. -/
import Derived.Test.YtcljhjfmhnmgnaaQc
namespace Go.Proofs.Ytcljhjfmhnmgnaa
open Go.ChangeShapes Go.WideShapes Go.ChangeAt Go.RowKit
open Fi Qb Qs
set_option maxRecDepth 20000 in
set_option maxHeartbeats 1000000 in
theorem walkFnFilesSortedOfAll (a : Option Addr) (len cap : Nat) (zss : List (List Int)) (w : World) (hc : CameSS w a len zss) (_hk : len ≤ 9223372036854775807) :
    Calls Try.prog 3 #[.slice a len cap] w fun e w' => e = .returned (.bool true) ∧ Below w.heap.size w w' := by
  by_cases hl : len ≤ 10000
  case neg =>
    have b0 : decide ((10000 : Int) < (len : Nat)) = true := by simp; omega
    clear hc
    go_enter Try.func3, Try.ntmps3
    go_wp2
    go_ret
    exact ⟨rfl, Below.refl _ _⟩
  have hf : LenSS zss := ⟨by have := hc.1; omega, trivial⟩
  rcases hg : goodF zss with _ | _
  · exact filesSorted_q w a len cap zss false hl hf (Lib.hid hc) (Lib.hid hg) _ (Lib.hid rfl) (Lib.hid hg) (Lib.hid (smallR_of (lenSortBoth_0 zss))) _ (Lib.hid rfl) (Lib.hid hg) (Lib.hid (smallR_of (lenSortFileRows_0 zss))) _ (Lib.hid rfl) (Lib.hid hg) (Lib.hid (smallR_of (lenSortFileColumns_0 zss)))
      _ (Lib.hid rfl) (Lib.hid hg) _ (Lib.hid rfl) (Lib.hid hg) _ (Lib.hid rfl) (Lib.hid hg) (Lib.hid (smallR_of (lenTurnFiles_0 zss))) _ (Lib.hid rfl) (Lib.hid hg) _ (Lib.hid rfl) (Lib.hid hg) _ (Lib.hid rfl) (Lib.hid hg) (Lib.hid (smallR_of (lenSaddlePlaces_0 zss)))
      (Lib.hid (fun h => by cases h)) (Lib.hid (fun h => by cases h))
  · exact filesSorted_q w a len cap zss true hl hf (Lib.hid hc) (Lib.hid hg) _ (Lib.hid rfl) (Lib.hid hg) (Lib.hid (smallR_of (lenSortBoth_0 zss))) _ (Lib.hid rfl) (Lib.hid hg) (Lib.hid (smallR_of (lenSortFileRows_0 zss))) _ (Lib.hid rfl) (Lib.hid hg) (Lib.hid (smallR_of (lenSortFileColumns_0 zss)))
      _ (Lib.hid rfl) (Lib.hid hg) _ (Lib.hid rfl) (Lib.hid hg) _ (Lib.hid rfl) (Lib.hid hg) (Lib.hid (smallR_of (lenTurnFiles_0 zss))) _ (Lib.hid rfl) (Lib.hid hg) _ (Lib.hid rfl) (Lib.hid hg) _ (Lib.hid rfl) (Lib.hid hg) (Lib.hid (smallR_of (lenSaddlePlaces_0 zss)))
      (Lib.hid (fun _ => files_facts hg)) (Lib.hid (fun _ => smallR_of (good_of hg).fits.fits))
end Go.Proofs.Ytcljhjfmhnmgnaa
