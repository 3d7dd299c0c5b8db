/- PairsSeeing: asked with the method; the function itself. -/
import Derived.Test.YtnajlnghhboelabPs
import Derived.Test.YtnajlnghhboelabHp4
namespace Go.Proofs.Ytnajlnghhboelab
open Go.ChangeShapes Go.WideShapes Go.ChangeAt Go.RowKit

def outPairsSeeing_0 (zs : List Int) : List (List Int) := ofGood [] (pairsL) zs
def outPairsSeeing_1 (zs : List Int) : Bool := goodH zs
theorem lenPairsSeeing_0 (zs : List Int) (_h : zs.length ≤ 1048576) : (outPairsSeeing_0 zs).length ≤ 1000000000 ∧ total (outPairsSeeing_0 zs) ≤ 1000000000 := by
  unfold outPairsSeeing_0 ofGood
  split
  · rename_i hg
    obtain ⟨hs, rfl, h1, h, h3⟩ := goodH_nat hg
    unfold heights
    rw [toNat_asInts]
    have := (show ((pairsL) hs).length ≤ 1000000000 ∧ total ((pairsL) hs) ≤ 1000000000 from by have := fits_pairsL hs h; omega)
    exact this
  · exact ⟨by simp, by simp [total, tot]⟩

set_option maxHeartbeats 1000000 in
theorem askedPairsSeeing (w : World) (a : Option Addr) (len cap : Nat) (zs : List Int) (hl : len ≤ 1048576) (hcm : Came w a len zs) :
    Calls Try.prog 31 #[.slice a len cap, .func (.func 32) #[] #[]] w fun e w' => ∃ v0, e = .returned (.tuple #[v0, .bool (outPairsSeeing_1 zs)]) ∧ OwnSS w' w.heap.size v0 (outPairsSeeing_0 zs) ∧ Below w.heap.size w w' := by
  have HG := Lib.hid (areHeights_any w a len cap zs (by omega) hcm)
  have HM := Lib.hid (fun (w : World) (hs : List Nat) (h1 : 1 ≤ hs.length) (h2 : hs.length ≤ 40) (h3 : ∀ x ∈ hs, 1 ≤ x ∧ x ≤ 100) => (show (∀ x ∈ hs, 1 ≤ x ∧ x ≤ 100) → Calls Try.prog 32 #[.agg (hc hs).toArray] w fun e w' => ∃ v0, e = .returned v0 ∧ OwnSS w' w.heap.size v0 ((pairsL) hs) ∧ Below w.heap.size w w' from fun h3 => pairsSeeing_any w hs h1 h2 h3) h3)
  rcases hg : goodH zs with _ | _
  · have HE : Hid (outPairsSeeing_0 zs = []) := by unfold outPairsSeeing_0 ofGood; rw [hg]; exact rfl
    have HF : Hid (outPairsSeeing_1 zs = false) := hg
    rw [HF.out]
    rw [hg] at HG
    clear hg hcm
    go_enter Try.func31, Try.ntmps31
    go_wp2_with (go_at_call 48; refine HG.out.mono ?_; rintro e w' ⟨rfl, rfl⟩)
    go_ret2
    exact ⟨_, rfl, by rw [HE.out]; exact ownSS_nil _ _, Below.refl _ _⟩
  · have HF : Hid (outPairsSeeing_1 zs = true) := hg
    rw [HF.out]
    obtain ⟨hs, rfl, h1, h2, h3⟩ := goodH_nat hg
    have HE : Hid (outPairsSeeing_0 (asInts hs) = (pairsL) hs) := by unfold outPairsSeeing_0 ofGood heights; rw [hg, toNat_asInts]; exact rfl
    have H3 := Lib.hid h3
    have HO := Lib.hid (heightsOf_any w a len cap hs (by have := hcm.1; rw [asInts_len] at this; omega) hcm)
    rw [hg] at HG
    clear hg hcm h3 HF
    go_enter Try.func31, Try.ntmps31
    go_wp2_with (first | (go_at_call 48; refine HG.out.mono ?_; rintro e w' ⟨rfl, rfl⟩) | (go_at_call 49; refine HO.out.mono ?_; rintro e w1 ⟨rfl, b1⟩; have L1 := Lib.hid b1; clear b1))
    have z1 := L1.out.size
    go_at_call 32
    refine (HM.out w1 hs h1 h2 H3.out).mono ?_
    rintro e w2 ⟨v, rfl, o2, b2⟩
    have O2 := Lib.hid o2
    have L2 := Lib.hid b2
    clear o2 b2
    go_wp2
    go_ret2
    exact ⟨_, rfl, by rw [HE.out]; exact O2.out.mono z1, L1.out.trans (L2.out.mono z1)⟩
set_option maxHeartbeats 400000 in
theorem implPairsSeeing_any (w : World) (a : Option Addr) (len cap : Nat) (zs : List Int) (hl : len ≤ 1048576) (hcm : Came w a len zs) :
    Calls Try.prog 11 #[.slice a len cap] w fun e w' => ∃ v0, e = .returned (.tuple #[v0, .bool (outPairsSeeing_1 zs)]) ∧ OwnSS w' w.heap.size v0 (outPairsSeeing_0 zs) ∧ Below w.heap.size w w' := by
  have HA := Lib.hid (askedPairsSeeing w a len cap zs hl hcm)
  clear hcm
  go_enter Try.func11, Try.ntmps11
  go_wp2_with fail
  go_at_call 31
  refine HA.out.mono ?_
  rintro e w2 ⟨v, rfl, o2, b2⟩
  have O2 := Lib.hid o2
  have L2 := Lib.hid b2
  clear o2 b2
  go_wp2
  go_ret2
  exact ⟨_, rfl, O2.out, L2.out⟩

set_option maxHeartbeats 400000 in
theorem specPairsSeeing_any (w : World) (a : Option Addr) (len cap : Nat) (zs : List Int) (hl : len ≤ 1048576) (hc : Came w a len zs) :
    Calls Try.prog 9 #[.slice a len cap] w fun e w' => ∃ v0, e = .returned (.tuple #[v0, .bool (outPairsSeeing_1 zs)]) ∧ OwnSS w' w.heap.size v0 (outPairsSeeing_0 zs) ∧ Below w.heap.size w w' := by
  have HG := Lib.hid (heGood_any w a len cap zs (by omega) hc)
  rcases hg : goodH zs with _ | _
  · have HE : Hid (outPairsSeeing_0 zs = []) := by unfold outPairsSeeing_0 ofGood; rw [hg]; exact rfl
    have HF : Hid (outPairsSeeing_1 zs = false) := hg
    rw [HF.out]
    rw [hg] at HG
    clear hg hc
    go_enter Try.func9, Try.ntmps9
    go_wp2_with (go_at_call 28; refine HG.out.mono ?_; rintro e w' ⟨rfl, rfl⟩)
    go_ret2
    exact ⟨_, rfl, by rw [HE.out]; exact ownSS_nil _ _, Below.refl _ _⟩
  · have hF : outPairsSeeing_1 zs = true := hg
    rw [hF]
    obtain ⟨hs, rfl, h1, h2, h3⟩ := goodH_nat hg
    have hE : outPairsSeeing_0 (asInts hs) = (pairsL) hs := by unfold outPairsSeeing_0 ofGood heights; rw [hg, toNat_asInts]; exact rfl
    rw [hE]
    exact specPairsIn w a len cap hs h1 h2 h3 hg hc

end Go.Proofs.Ytnajlnghhboelab
