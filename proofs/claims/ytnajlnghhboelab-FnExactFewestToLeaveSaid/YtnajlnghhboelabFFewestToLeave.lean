/- FewestToLeave: asked with the method; the function itself. -/
import Derived.Test.YtnajlnghhboelabMo
namespace Go.Proofs.Ytnajlnghhboelab
open Go.ChangeShapes Go.WideShapes Go.ChangeAt Go.RowKit

def outFewestToLeave_0 (zs : List Int) : Int := ofGood 0 (leaveL) zs
def outFewestToLeave_1 (zs : List Int) : Bool := goodH zs

set_option maxHeartbeats 1000000 in
theorem askedFewestToLeave (w : World) (a : Option Addr) (len cap : Nat) (zs : List Int) (hl : len ≤ 1048576) (hcm : Came w a len zs) :
    Calls Try.prog 37 #[.slice a len cap, .func (.func 39) #[] #[]] w fun e w' => e = .returned (.tuple #[.int .i64 (outFewestToLeave_0 zs), .bool (outFewestToLeave_1 zs)]) ∧ Below w.heap.size w w' := by
  have HG := Lib.hid (areHeights_any w a len cap zs (by omega) hcm)
  have HM := Lib.hid (fun (w : World) (hs : List Nat) (h1 : 1 ≤ hs.length) (h2 : hs.length ≤ 40) (h3 : ∀ x ∈ hs, 1 ≤ x ∧ x ≤ 100) => (show (∀ x ∈ hs, 1 ≤ x ∧ x ≤ 100) → Calls Try.prog 39 #[.agg (hc hs).toArray] w fun e w' => e = .returned (.int .i64 ((leaveL) hs)) ∧ Below w.heap.size w w' from fun h3 => fewestToLeave_any w hs h1 h2) h3)
  rcases hg : goodH zs with _ | _
  · have HE : Hid (outFewestToLeave_0 zs = 0) := by unfold outFewestToLeave_0 ofGood; rw [hg]; exact rfl
    have HF : Hid (outFewestToLeave_1 zs = false) := hg
    rw [HF.out]
    rw [hg] at HG
    clear hg hcm
    go_enter Try.func37, Try.ntmps37
    go_wp2_with (go_at_call 48; refine HG.out.mono ?_; rintro e w' ⟨rfl, rfl⟩)
    go_ret2
    exact ⟨by rw [HE.out]; exact rfl, Below.refl _ _⟩
  · have HF : Hid (outFewestToLeave_1 zs = true) := hg
    rw [HF.out]
    obtain ⟨hs, rfl, h1, h2, h3⟩ := goodH_nat hg
    have HE : Hid (outFewestToLeave_0 (asInts hs) = (leaveL) hs) := by unfold outFewestToLeave_0 ofGood heights; rw [hg, toNat_asInts]; exact rfl
    have H3 := Lib.hid h3
    have HO := Lib.hid (heightsOf_any w a len cap hs (by have := hcm.1; rw [asInts_len] at this; omega) hcm)
    rw [hg] at HG
    clear hg hcm h3 HF
    go_enter Try.func37, Try.ntmps37
    go_wp2_with (first | (go_at_call 48; refine HG.out.mono ?_; rintro e w' ⟨rfl, rfl⟩) | (go_at_call 49; refine HO.out.mono ?_; rintro e w1 ⟨rfl, b1⟩; have L1 := Lib.hid b1; clear b1))
    have z1 := L1.out.size
    go_at_call 39
    refine (HM.out w1 hs h1 h2 H3.out).mono ?_
    rintro e w2 ⟨rfl, b2⟩
    have L2 := Lib.hid b2
    clear b2
    go_wp2
    go_ret2
    exact ⟨by rw [HE.out]; exact rfl, L1.out.trans (L2.out.mono z1)⟩
set_option maxHeartbeats 400000 in
theorem implFewestToLeave_any (w : World) (a : Option Addr) (len cap : Nat) (zs : List Int) (hl : len ≤ 1048576) (hcm : Came w a len zs) :
    Calls Try.prog 23 #[.slice a len cap] w fun e w' => e = .returned (.tuple #[.int .i64 (outFewestToLeave_0 zs), .bool (outFewestToLeave_1 zs)]) ∧ Below w.heap.size w w' := by
  have HA := Lib.hid (askedFewestToLeave w a len cap zs hl hcm)
  clear hcm
  go_enter Try.func23, Try.ntmps23
  go_wp2_with fail
  go_at_call 37
  refine HA.out.mono ?_
  rintro e w2 ⟨rfl, b2⟩
  have L2 := Lib.hid b2
  clear b2
  go_wp2
  go_ret2
  exact ⟨rfl, L2.out⟩

set_option maxHeartbeats 400000 in
theorem specFewestToLeave_any (w : World) (a : Option Addr) (len cap : Nat) (zs : List Int) (hl : len ≤ 1048576) (hc : Came w a len zs) :
    Calls Try.prog 22 #[.slice a len cap] w fun e w' => e = .returned (.tuple #[.int .i64 (outFewestToLeave_0 zs), .bool (outFewestToLeave_1 zs)]) ∧ Below w.heap.size w w' := by
  have HG := Lib.hid (heGood_any w a len cap zs (by omega) hc)
  rcases hg : goodH zs with _ | _
  · have HE : Hid (outFewestToLeave_0 zs = 0) := by unfold outFewestToLeave_0 ofGood; rw [hg]; exact rfl
    have HF : Hid (outFewestToLeave_1 zs = false) := hg
    rw [HF.out]
    rw [hg] at HG
    clear hg hc
    go_enter Try.func22, Try.ntmps22
    go_wp2_with (go_at_call 28; refine HG.out.mono ?_; rintro e w' ⟨rfl, rfl⟩)
    go_ret2
    exact ⟨by rw [HE.out]; exact rfl, Below.refl _ _⟩
  · have hF : outFewestToLeave_1 zs = true := hg
    rw [hF]
    obtain ⟨hs, rfl, h1, h2, h3⟩ := goodH_nat hg
    have hE : outFewestToLeave_0 (asInts hs) = (leaveL) hs := by unfold outFewestToLeave_0 ofGood heights; rw [hg, toNat_asInts]; exact rfl
    rw [hE]
    exact specLeaveIn w a len cap hs h1 h2 h3 hg hc

end Go.Proofs.Ytnajlnghhboelab
