/- CountDisorder: asked with the method; the function itself. -/
import Derived.Test.YtnajlnghhboelaaDs
namespace Go.Proofs.Ytnajlnghhboelaa
open Go.ChangeShapes Go.WideShapes Go.ChangeAt Go.RowKit

def outCountDisorder_0 (zs : List Int) : Int := ofGood 0 (disL) zs
def outCountDisorder_1 (zs : List Int) : Bool := goodH zs

set_option maxHeartbeats 1000000 in
theorem askedCountDisorder (w : World) (a : Option Addr) (len cap : Nat) (zs : List Int) (hl : len ≤ 1048576) (hcm : Came w a len zs) :
    Calls Try.prog 49 #[.slice a len cap, .func (.func 50) #[] #[]] w fun e w' => e = .returned (.tuple #[.int .i64 (outCountDisorder_0 zs), .bool (outCountDisorder_1 zs)]) ∧ Below w.heap.size w w' := by
  have HG := Lib.hid (areHeights_any w a len cap zs (by omega) hcm)
  have HM := Lib.hid (fun (w : World) (hs : List Nat) (h1 : 1 ≤ hs.length) (h2 : hs.length ≤ 40) (h3 : ∀ x ∈ hs, 1 ≤ x ∧ x ≤ 100) => (show (∀ x ∈ hs, 1 ≤ x ∧ x ≤ 100) → Calls Try.prog 50 #[.agg (hc hs).toArray] w fun e w' => e = .returned (.int .i64 ((disL) hs)) ∧ Below w.heap.size w w' from fun h3 => disorder_any w hs h1 h2) h3)
  rcases hg : goodH zs with _ | _
  · have HE : Hid (outCountDisorder_0 zs = 0) := by unfold outCountDisorder_0 ofGood; rw [hg]; exact rfl
    have HF : Hid (outCountDisorder_1 zs = false) := hg
    rw [HF.out]
    rw [hg] at HG
    clear hg hcm
    go_enter Try.func49, Try.ntmps49
    go_wp2_with (go_at_call 15; refine HG.out.mono ?_; rintro e w' ⟨rfl, rfl⟩)
    go_ret2
    exact ⟨by rw [HE.out]; exact rfl, Below.refl _ _⟩
  · have HF : Hid (outCountDisorder_1 zs = true) := hg
    rw [HF.out]
    obtain ⟨hs, rfl, h1, h2, h3⟩ := goodH_nat hg
    have HE : Hid (outCountDisorder_0 (asInts hs) = (disL) hs) := by unfold outCountDisorder_0 ofGood heights; rw [hg, toNat_asInts]; exact rfl
    have H3 := Lib.hid h3
    have HO := Lib.hid (heightsOf_any w a len cap hs (by have := hcm.1; rw [asInts_len] at this; omega) hcm)
    rw [hg] at HG
    clear hg hcm h3 HF
    go_enter Try.func49, Try.ntmps49
    go_wp2_with (first | (go_at_call 15; refine HG.out.mono ?_; rintro e w' ⟨rfl, rfl⟩) | (go_at_call 56; refine HO.out.mono ?_; rintro e w1 ⟨rfl, b1⟩; have L1 := Lib.hid b1; clear b1))
    have z1 := L1.out.size
    go_at_call 50
    refine (HM.out w1 hs h1 h2 H3.out).mono ?_
    rintro e w2 ⟨rfl, b2⟩
    have L2 := Lib.hid b2
    clear b2
    go_wp2
    go_ret2
    exact ⟨by rw [HE.out]; exact rfl, L1.out.trans (L2.out.mono z1)⟩
set_option maxHeartbeats 400000 in
theorem implCountDisorder_any (w : World) (a : Option Addr) (len cap : Nat) (zs : List Int) (hl : len ≤ 1048576) (hcm : Came w a len zs) :
    Calls Try.prog 30 #[.slice a len cap] w fun e w' => e = .returned (.tuple #[.int .i64 (outCountDisorder_0 zs), .bool (outCountDisorder_1 zs)]) ∧ Below w.heap.size w w' := by
  have HA := Lib.hid (askedCountDisorder w a len cap zs hl hcm)
  clear hcm
  go_enter Try.func30, Try.ntmps30
  go_wp2_with fail
  go_at_call 49
  refine HA.out.mono ?_
  rintro e w2 ⟨rfl, b2⟩
  have L2 := Lib.hid b2
  clear b2
  go_wp2
  go_ret2
  exact ⟨rfl, L2.out⟩

set_option maxHeartbeats 400000 in
theorem specCountDisorder_any (w : World) (a : Option Addr) (len cap : Nat) (zs : List Int) (hl : len ≤ 1048576) (hc : Came w a len zs) (hk : len ≤ cap ∧ cap ≤ 9223372036854775807) :
    Calls Try.prog 29 #[.slice a len cap] w fun e w' => e = .returned (.tuple #[.int .i64 (outCountDisorder_0 zs), .bool (outCountDisorder_1 zs)]) ∧ Below w.heap.size w w' := by
  have HG := Lib.hid (heGood_any w a len cap zs (by omega) hc)
  rcases hg : goodH zs with _ | _
  · have HE : Hid (outCountDisorder_0 zs = 0) := by unfold outCountDisorder_0 ofGood; rw [hg]; exact rfl
    have HF : Hid (outCountDisorder_1 zs = false) := hg
    rw [HF.out]
    rw [hg] at HG
    clear hg hc
    go_enter Try.func29, Try.ntmps29
    go_wp2_with (go_at_call 37; refine HG.out.mono ?_; rintro e w' ⟨rfl, rfl⟩)
    go_ret2
    exact ⟨by rw [HE.out]; exact rfl, Below.refl _ _⟩
  · have hF : outCountDisorder_1 zs = true := hg
    rw [hF]
    obtain ⟨hs, rfl, h1, h2, h3⟩ := goodH_nat hg
    have hE : outCountDisorder_0 (asInts hs) = (disL) hs := by unfold outCountDisorder_0 ofGood heights; rw [hg, toNat_asInts]; exact rfl
    rw [hE]
    exact specDisIn w a len cap hs h1 h2 hg hc hk

end Go.Proofs.Ytnajlnghhboelaa
