/- LongestMountain: asked with the method; the function itself; the model. -/
import Derived.Test.YtnajlnghhboelabMo
namespace Go.Proofs.Ytnajlnghhboelab
open Go.ChangeShapes Go.WideShapes Go.ChangeAt Go.RowKit

def outLongestMountain_0 (zs : List Int) : Int := ofGood 0 (mountL) zs
def outLongestMountain_1 (zs : List Int) : Bool := goodH zs

set_option maxHeartbeats 1000000 in
theorem askedLongestMountain (w : World) (a : Option Addr) (len cap : Nat) (zs : List Int) (hl : len ≤ 1048576) (hcm : Came w a len zs) :
    Calls Try.prog 37 #[.slice a len cap, .func (.func 38) #[] #[]] w fun e w' => e = .returned (.tuple #[.int .i64 (outLongestMountain_0 zs), .bool (outLongestMountain_1 zs)]) ∧ Below w.heap.size w w' := by
  have HG := Lib.hid (areHeights_any w a len cap zs (by omega) hcm)
  have HM := Lib.hid (fun (w : World) (hs : List Nat) (h1 : 1 ≤ hs.length) (h2 : hs.length ≤ 40) (h3 : ∀ x ∈ hs, 1 ≤ x ∧ x ≤ 100) => (show (∀ x ∈ hs, 1 ≤ x ∧ x ≤ 100) → Calls Try.prog 38 #[.agg (hc hs).toArray] w fun e w' => e = .returned (.int .i64 ((mountL) hs)) ∧ Below w.heap.size w w' from fun h3 => longestMountain_any w hs h1 h2) h3)
  rcases hg : goodH zs with _ | _
  · have HE : Hid (outLongestMountain_0 zs = 0) := by unfold outLongestMountain_0 ofGood; rw [hg]; exact rfl
    have HF : Hid (outLongestMountain_1 zs = false) := hg
    rw [HF.out]
    rw [hg] at HG
    clear hg hcm
    go_enter Try.func37, Try.ntmps37
    go_wp2_with (go_at_call 48; refine HG.out.mono ?_; rintro e w' ⟨rfl, rfl⟩)
    go_ret2
    exact ⟨by rw [HE.out]; exact rfl, Below.refl _ _⟩
  · have HF : Hid (outLongestMountain_1 zs = true) := hg
    rw [HF.out]
    obtain ⟨hs, rfl, h1, h2, h3⟩ := goodH_nat hg
    have HE : Hid (outLongestMountain_0 (asInts hs) = (mountL) hs) := by unfold outLongestMountain_0 ofGood heights; rw [hg, toNat_asInts]; exact rfl
    have H3 := Lib.hid h3
    have HO := Lib.hid (heightsOf_any w a len cap hs (by have := hcm.1; rw [asInts_len] at this; omega) hcm)
    rw [hg] at HG
    clear hg hcm h3 HF
    go_enter Try.func37, Try.ntmps37
    go_wp2_with (first | (go_at_call 48; refine HG.out.mono ?_; rintro e w' ⟨rfl, rfl⟩) | (go_at_call 49; refine HO.out.mono ?_; rintro e w1 ⟨rfl, b1⟩; have L1 := Lib.hid b1; clear b1))
    have z1 := L1.out.size
    go_at_call 38
    refine (HM.out w1 hs h1 h2 H3.out).mono ?_
    rintro e w2 ⟨rfl, b2⟩
    have L2 := Lib.hid b2
    clear b2
    go_wp2
    go_ret2
    exact ⟨by rw [HE.out]; exact rfl, L1.out.trans (L2.out.mono z1)⟩
set_option maxHeartbeats 400000 in
theorem implLongestMountain_any (w : World) (a : Option Addr) (len cap : Nat) (zs : List Int) (hl : len ≤ 1048576) (hcm : Came w a len zs) :
    Calls Try.prog 21 #[.slice a len cap] w fun e w' => e = .returned (.tuple #[.int .i64 (outLongestMountain_0 zs), .bool (outLongestMountain_1 zs)]) ∧ Below w.heap.size w w' := by
  have HA := Lib.hid (askedLongestMountain w a len cap zs hl hcm)
  clear hcm
  go_enter Try.func21, Try.ntmps21
  go_wp2_with fail
  go_at_call 37
  refine HA.out.mono ?_
  rintro e w2 ⟨rfl, b2⟩
  have L2 := Lib.hid b2
  clear b2
  go_wp2
  go_ret2
  exact ⟨rfl, L2.out⟩

set_option maxHeartbeats 400000 in
theorem specLongestMountain_any (w : World) (a : Option Addr) (len cap : Nat) (zs : List Int) (hl : len ≤ 1048576) (hc : Came w a len zs) :
    Calls Try.prog 20 #[.slice a len cap] w fun e w' => e = .returned (.tuple #[.int .i64 (outLongestMountain_0 zs), .bool (outLongestMountain_1 zs)]) ∧ Below w.heap.size w w' := by
  have HG := Lib.hid (heGood_any w a len cap zs (by omega) hc)
  rcases hg : goodH zs with _ | _
  · have HE : Hid (outLongestMountain_0 zs = 0) := by unfold outLongestMountain_0 ofGood; rw [hg]; exact rfl
    have HF : Hid (outLongestMountain_1 zs = false) := hg
    rw [HF.out]
    rw [hg] at HG
    clear hg hc
    go_enter Try.func20, Try.ntmps20
    go_wp2_with (go_at_call 28; refine HG.out.mono ?_; rintro e w' ⟨rfl, rfl⟩)
    go_ret2
    exact ⟨by rw [HE.out]; exact rfl, Below.refl _ _⟩
  · have HF : Hid (outLongestMountain_1 zs = true) := hg
    rw [HF.out]
    obtain ⟨hs, rfl, h1, h2, h3⟩ := goodH_nat hg
    have HE : Hid (outLongestMountain_0 (asInts hs) = (mountL) hs) := by unfold outLongestMountain_0 ofGood heights; rw [hg, toNat_asInts]; exact rfl
    have HS := Lib.hid (show Calls Try.prog 36 #[.slice a len cap] w fun e w' => e = .returned (.int .i64 ((mountL) hs)) ∧ Below w.heap.size w w' from (fun _ => heMountain_any w a len cap hs h1 h2 h3 hc) (show len ≤ 1000000 by have := hc.1; rw [asInts_len] at this; omega))
    rw [hg] at HG
    clear hg hc h3 HF
    go_enter Try.func20, Try.ntmps20
    go_wp2_with fail
    go_at_call 28
    refine HG.out.mono ?_
    rintro e w' ⟨rfl, rfl⟩
    go_wp2_with fail
    go_at_call 36
    refine HS.out.mono ?_
    rintro e w2 ⟨rfl, b2⟩
    have L2 := Lib.hid b2
    clear b2
    go_wp2
    go_ret2
    exact ⟨by rw [HE.out]; exact rfl, L2.out⟩

end Go.Proofs.Ytnajlnghhboelab
