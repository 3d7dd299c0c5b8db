/- Chapter 6, the model: PlacesSearched, fiAll, CountUpTo, HeightOfRank, FileDisorder, ExchangeFiles. -/
import Derived.Test.YtpoceonmlpnhlabFm
import Derived.Test.YtpoceonmlpnhlabClone
namespace Go.Proofs.Ytpoceonmlpnhlab
open Go.ChangeShapes Go.WideShapes Go.ChangeAt Go.RowKit
open Fi

namespace Fi
/-- the places a search goes over, from row i and the column before kk on -/
def srch (zss : List (List Int)) (h : Int) (R : Nat) : Nat → Nat → Nat → List (List Int)
  | 0, _, _ => []
  | f + 1, i, kk =>
    if i < R ∧ 0 < kk then
      [(i : Int), ((kk - 1 : Nat) : Int)] :: (if (row zss i).getD (kk - 1) 0 = h then [] else if h < (row zss i).getD (kk - 1) 0 then srch zss h R f i (kk - 1) else srch zss h R f (i + 1) kk)
    else []
def searchL (zss : List (List Int)) (h : Int) : List (List Int) := srch zss h zss.length (zss.length + (row zss 0).length) 0 (row zss 0).length
theorem srch_mem (zss : List (List Int)) (h : Int) (R : Nat) : ∀ f i kk, (srch zss h R f i kk).length ≤ f ∧ ∀ x ∈ srch zss h R f i kk, x.length = 2
  | 0, _, _ => ⟨by simp [srch], by simp [srch]⟩
  | f + 1, i, kk => by
    have h1 := srch_mem zss h R f i (kk - 1)
    have h2 := srch_mem zss h R f (i + 1) kk
    rw [srch]
    split
    · split
      · exact ⟨by simp, by simp⟩
      · split
        · exact ⟨by simp; exact h1.1, by simp; exact h1.2⟩
        · exact ⟨by simp; exact h2.1, by simp; exact h2.2⟩
    · exact ⟨by simp, by simp⟩
/-- all heights, row by row -/
def flatTo (zss : List (List Int)) : Nat → List Int
  | 0 => []
  | k + 1 => flatTo zss k ++ row zss k
def allL (zss : List (List Int)) : List Int := sortL (flatTo zss zss.length)
theorem length_flatTo {zss : List (List Int)} {R C : Nat} (g : Fi.Good zss R C) : ∀ k, k ≤ R → (flatTo zss k).length = k * C
  | 0, _ => by simp [flatTo]
  | k + 1, hk => by rw [flatTo, List.length_append, length_flatTo g k (by omega), g.cols k (by omega), Nat.succ_mul]
theorem length_allL {zss : List (List Int)} {R C : Nat} (g : Fi.Good zss R C) : (allL zss).length = R * C := by
  unfold allL
  rw [length_sortL, g.rows, length_flatTo g R (Nat.le_refl _)]
/-- how many of the first j are at most so great -/
def leTo (zs : List Int) (h : Int) : Nat → Nat
  | 0 => 0
  | j + 1 => if zs.getD j 0 ≤ h then leTo zs h j + 1 else leTo zs h j
theorem leTo_le (zs : List Int) (h : Int) : ∀ j, leTo zs h j ≤ j
  | 0 => Nat.le_refl _
  | j + 1 => by
    have := leTo_le zs h j
    rw [leTo]; split <;> omega
/-- how many of the first m pairs of neighbours are in disorder -/
def disTo (r : List Int) : Nat → Nat
  | 0 => 0
  | m + 1 => if r.getD (m + 1) 0 < r.getD m 0 then disTo r m + 1 else disTo r m
def disRow (r : List Int) : Nat := disTo r (r.length - 1)
def disAll (zss : List (List Int)) : Nat → Nat
  | 0 => 0
  | i + 1 => disAll zss i + disRow (row zss i)
def disL (zss : List (List Int)) : Nat := disAll zss zss.length
theorem disTo_le (r : List Int) : ∀ m, disTo r m ≤ m
  | 0 => Nat.le_refl _
  | m + 1 => by
    have := disTo_le r m
    rw [disTo]; split <;> omega
theorem disAll_le {zss : List (List Int)} {c : Nat} (h : ∀ i, (row zss i).length ≤ c) : ∀ i, disAll zss i ≤ i * c
  | 0 => by simp [disAll]
  | i + 1 => by
    have h1 := disAll_le h i
    have h2 := disTo_le (row zss i) ((row zss i).length - 1)
    have h3 := h i
    rw [disAll, Nat.succ_mul]
    unfold disRow
    omega
/-- the rows up to i, two exchanged -/
def exRow (zss : List (List Int)) (a b i : Nat) : List Int := if i = a then row zss b else if i = b then row zss a else row zss i
def exTo (zss : List (List Int)) (a b k : Nat) : List (List Int) := (List.range k).map (exRow zss a b)
theorem exTo_succ (zss : List (List Int)) (a b k : Nat) : exTo zss a b (k + 1) = exTo zss a b k ++ [exRow zss a b k] := by unfold exTo; rw [List.range_succ, List.map_append]; rfl
theorem length_exTo (zss : List (List Int)) (a b k : Nat) : (exTo zss a b k).length = k := by simp [exTo]
theorem good_ex {zss : List (List Int)} {R C : Nat} (g : Fi.Good zss R C) {a b : Nat} (ha : a < R) (hb : b < R) : Fi.Good (exTo zss a b R) R C := by
  have hr : ∀ i, i < R → row (exTo zss a b R) i = exRow zss a b i := fun i hi => by
    unfold exTo
    show ((List.range _).map _).getD i [] = _
    rw [getD_range _ _ _ hi]
  refine ⟨length_exTo _ _ _ _, g.r1, g.r8, g.c1, g.c8, fun i hi => ?_, fun i hi => ?_⟩
  · rw [hr i hi]
    unfold exRow
    split
    · exact g.cols b hb
    · split
      · exact g.cols a ha
      · exact g.cols i hi
  · rw [hr i hi]
    unfold exRow
    split
    · exact g.all b hb
    · split
      · exact g.all a ha
      · exact g.all i hi
def serB (zss : List (List Int)) (h : Int) : Bool := goodF zss && (inB h 0 1000 && (sortedB zss && sortedB (turnL zss)))
def rankB (zss : List (List Int)) (k : Int) : Bool := goodF zss && inB k 0 ((zss.length : Int) * ((row zss 0).length : Int) - 1)
def exB (zss : List (List Int)) (a b : Int) : Bool := goodF zss && (inB a 0 ((zss.length : Int) - 1) && (inB b 0 ((zss.length : Int) - 1) && decide (a ≠ b)))
end Fi
def outPlacesSearched_0 (zss : List (List Int)) (h : Int) : List (List Int) := if serB zss h then searchL zss h else []
def outPlacesSearched_1 (zss : List (List Int)) (h : Int) : Bool := serB zss h
theorem lenPlacesSearched_0 (zss : List (List Int)) (h : Int) : (outPlacesSearched_0 zss h).length ≤ 1000000000 ∧ total (outPlacesSearched_0 zss h) ≤ 1000000000 := by
  unfold outPlacesSearched_0
  split
  · rename_i hb
    unfold serB at hb
    simp only [Bool.and_eq_true] at hb
    have g := good_of hb.1
    have h1 := srch_mem zss h zss.length (zss.length + (row zss 0).length) 0 (row zss 0).length
    exact fits_twos (Nat.le_trans h1.1 (by have := g.r8; have := g.c8; omega)) h1.2
  · exact fits_nilF
def outCountUpTo_0 (zss : List (List Int)) (h : Int) : Int := if goodF zss && inB h 0 1000 then (leTo (allL zss) h (allL zss).length : Nat) else 0
def outCountUpTo_1 (zss : List (List Int)) (h : Int) : Bool := goodF zss && inB h 0 1000
def outHeightOfRank_0 (zss : List (List Int)) (k : Int) : Int := if rankB zss k then (allL zss).getD k.toNat 0 else 0
def outHeightOfRank_1 (zss : List (List Int)) (k : Int) : Bool := rankB zss k
def outFileDisorder_0 (zss : List (List Int)) : Int := if goodF zss then (disL zss + disL (turnL zss) : Nat) else 0
def outFileDisorder_1 (zss : List (List Int)) : Bool := goodF zss
def outExchangeFiles_0 (zss : List (List Int)) (a b : Int) : List (List Int) := if exB zss a b then exTo zss a.toNat b.toNat zss.length else []
def outExchangeFiles_1 (zss : List (List Int)) (a b : Int) : Bool := exB zss a b
theorem lenExchangeFiles_0 (zss : List (List Int)) (a b : Int) : (outExchangeFiles_0 zss a b).length ≤ 1000000000 ∧ total (outExchangeFiles_0 zss a b) ≤ 1000000000 := by
  unfold outExchangeFiles_0
  split
  · rename_i h
    unfold exB at h
    simp only [Bool.and_eq_true] at h
    have h1 := inB_yes h.2.1
    have h2 := inB_yes h.2.2.1
    exact fits_good (good_ex (good_of h.1) (by omega) (by omega))
  · exact fits_nilF

set_option maxHeartbeats 1000000 in
theorem fiAll_any (w : World) (a : Option Addr) (len cap : Nat) (zss : List (List Int)) (R C : Nat) (g : Fi.Good zss R C) (hc : CameSS w a len zss) :
    Calls Try.prog 41 #[.slice a len cap] w fun e w' => ∃ v, e = .returned v ∧ Own w' w.heap.size v (allL zss) ∧ Below w.heap.size w w' := by
  have hln : len = R := hc.1.symm.trans g.rows
  subst hln
  have HE : Hid (allL zss = sortL (flatTo zss len)) := Lib.hid (by unfold allL; rw [hc.1])
  have HC := Lib.hid hc
  have HL := Lib.hid (fun i hi => g.cols i hi)
  have hc1 := g.c1
  have hc8 := g.c8
  have hr8 := g.r8
  have HFL := Lib.hid (fun k hk => length_flatTo g k hk)
  clear hc g
  go_enter Try.func41, Try.ntmps41
  go_wp2
  go_loopw [3, 8] (fun v i wr => ∃ k : Nat, k ≤ len ∧ i = .int .i64 k ∧ Hid (Own wr w.heap.size v (flatTo zss k)) ∧ Hid (Below w.heap.size w wr)) (fun _ i _ => len - (intOf i).toNat)
  case atStart => exact ⟨0, Nat.zero_le _, rfl, Lib.hid (own_nil _ _), Lib.hid (Below.refl _ _)⟩
  case round =>
    obtain ⟨k, hk, rfl, HO, HB⟩ := hrel
    by_cases hlt : k < len
    · obtain ⟨b, off, ak, ck, rfl, e1, hrow, _, _⟩ := (HC.out.below HB.out).at k hlt
      have hq : (zss.getD k []).length = C := HL.out k hlt
      rw [hq] at e1 hrow
      obtain ⟨b2, o2, rfl, _⟩ := hrow.2 (by omega)
      have HR := Lib.hid hrow
      have hbl : (flatTo zss k).length + C ≤ 1000000000 := by rw [HFL.out k hk]; have := Nat.mul_le_mul (show k ≤ 8 by omega) hc8; omega
      have hz := HB.out.size
      have i3 : (0 : Int) ≤ (k : Int) := by omega
      have i4 : (k : Int) < (len : Int) := by omega
      clear hq hrow
      go_wp2_with (at_builtin; refine wpList_appAll rfl _ _ rfl w.heap.size _ _ (zss.getD k []) _ _ _ rfl rfl HO.out HR.out hz hbl ?_; intro v6 w6 O6 B6; refine ⟨?_⟩)
      have HO6 : Hid (Own w6 w.heap.size v6 (flatTo zss (k + 1))) := O6
      have HB6 : Hid (Below w.heap.size w w6) := Lib.hid (HB.out.trans B6.out)
      clear O6 B6 HO HB
      go_roundw
      case rel => exact ⟨k + 1, by omega, by go_num, HO6, HB6⟩
      case measure => simp [intOf]; omega
    · obtain rfl : k = len := by omega
      have hfl := HFL.out k (Nat.le_refl _)
      have hkc := Nat.mul_le_mul hr8 hc8
      obtain ⟨ao, c, rfl, hcm⟩ := HO.out.came
      have HF := Lib.hid (fiOrder_any wr ao _ c (flatTo zss k) (by omega) hcm)
      clear hcm hfl hkc
      go_wp2_with fail
      go_at_call 55
      refine HF.out.mono ?_
      rintro e w2 ⟨v, rfl, o2, b2⟩
      have O2 : Hid (Own w2 w.heap.size v (allL zss)) := Lib.hid (by rw [HE.out]; exact o2.mono HB.out.size)
      have B2 : Hid (Below w.heap.size w w2) := Lib.hid (HB.out.trans (b2.mono HB.out.size))
      clear o2 b2 HF
      go_wp2
      go_ret
      exact ⟨_, rfl, O2.out, B2.out⟩

set_option maxHeartbeats 1000000 in
theorem specCountUpTo_any (w : World) (a : Option Addr) (len cap : Nat) (zss : List (List Int)) (h : Int) (_wh : (Lit.int .i64 h).wf = true) (hf : FitsSS zss) (hc : CameSS w a len zss) :
    Calls Try.prog 16 #[.slice a len cap, .int .i64 h] w fun e w' => e = .returned (.tuple #[.int .i64 (outCountUpTo_0 zss h), .bool (outCountUpTo_1 zss h)]) ∧ Below w.heap.size w w' := by
  have HG := Lib.hid (fiGood_any w a len cap zss hf hc)
  have HI := Lib.hid (fiHeight_any h w)
  clear _wh
  rcases hb : goodF zss with _ | _
  · have H0 : Hid (outCountUpTo_0 zss h = 0 ∧ outCountUpTo_1 zss h = false) := Lib.hid (by unfold outCountUpTo_0 outCountUpTo_1; rw [hb]; exact ⟨rfl, rfl⟩)
    rw [hb] at HG
    clear hb hc hf
    go_enter Try.func16, Try.ntmps16
    go_wp2_with (go_at_call 27; refine HG.out.mono ?_; rintro e w' ⟨rfl, rfl⟩)
    go_ret2
    exact ⟨by rw [H0.out.1, H0.out.2]; exact rfl, Below.refl _ _⟩
  · rw [hb] at HG
    rcases hb2 : inB h 0 1000 with _ | _
    · have H0 : Hid (outCountUpTo_0 zss h = 0 ∧ outCountUpTo_1 zss h = false) := Lib.hid (by unfold outCountUpTo_0 outCountUpTo_1; rw [hb, hb2]; exact ⟨rfl, rfl⟩)
      rw [hb2] at HI
      clear hb hb2 hc hf
      go_enter Try.func16, Try.ntmps16
      go_wp2_with (first | (go_at_call 27; refine HG.out.mono ?_; rintro e w' ⟨rfl, rfl⟩) | (go_at_call 28; refine HI.out.mono ?_; rintro e w' ⟨rfl, rfl⟩))
      go_ret2
      exact ⟨by rw [H0.out.1, H0.out.2]; exact rfl, Below.refl _ _⟩
    · have H0 : Hid (outCountUpTo_0 zss h = (leTo (allL zss) h (allL zss).length : Nat) ∧ outCountUpTo_1 zss h = true) := Lib.hid (by unfold outCountUpTo_0 outCountUpTo_1; rw [hb, hb2]; exact ⟨rfl, rfl⟩)
      have g := good_of hb
      have HA := Lib.hid (fiAll_any w a len cap zss _ _ g hc)
      have hn64 : (allL zss).length ≤ 64 := by rw [length_allL g]; have := Nat.mul_le_mul g.r8 g.c8; omega
      have HLE := Lib.hid (leTo_le (allL zss) h)
      have HST : Hid (∀ j, leTo (allL zss) h (j + 1) = if (allL zss).getD j 0 ≤ h then leTo (allL zss) h j + 1 else leTo (allL zss) h j) := Lib.hid (fun j => rfl)
      obtain ⟨zs, hzs⟩ : ∃ zs, zs = allL zss := ⟨_, rfl⟩
      rw [← hzs] at H0 HA hn64 HLE HST
      rw [hb2] at HI
      clear hb hb2 hc hf g hzs
      go_enter Try.func16, Try.ntmps16
      go_wp2_with fail
      go_at_call 27
      refine HG.out.mono ?_
      rintro e w' ⟨rfl, rfl⟩
      go_wp2_with fail
      go_at_call 28
      refine HI.out.mono ?_
      rintro e w' ⟨rfl, rfl⟩
      go_wp2_with fail
      go_at_call 41
      refine HA.out.mono ?_
      rintro e w2 ⟨v, rfl, o2, b2⟩
      have B2 := Lib.hid b2
      obtain ⟨ao, c, rfl, hcm⟩ := o2.came
      have HM := Lib.hid hcm
      obtain ⟨n, hn⟩ : ∃ n, n = zs.length := ⟨_, rfl⟩
      rw [← hn] at HM hn64 H0 ⊢
      clear o2 b2 hcm HA hn
      go_wp2
      go_loop [6, 20] (fun c i => ∃ k : Nat, k ≤ n ∧ i = .int .i64 k ∧ c = .int .i64 (leTo zs h k : Nat)) (fun _ i => n - (intOf i).toNat)
      case atStart => exact ⟨0, Nat.zero_le _, rfl, rfl⟩
      case round =>
        obtain ⟨k, hk, rfl, rfl⟩ := hrel
        by_cases hlt : k < n
        · obtain ⟨b, off, rfl, hcell⟩ := HM.out.2 (by omega)
          have e1 := hcell k hlt
          have hst := HST.out k
          have hle := HLE.out k
          obtain ⟨z, hz⟩ : ∃ z, z = zs.getD k 0 := ⟨_, rfl⟩
          rw [← hz] at e1 hst
          obtain ⟨m, hm⟩ : ∃ m, m = leTo zs h k := ⟨_, rfl⟩
          rw [← hm] at hst hle ⊢
          have i3 : (0 : Int) ≤ (k : Int) := by omega
          have i4 : (k : Int) < (n : Int) := by omega
          clear hcell hz hm
          by_cases hzh : z ≤ h
          · rw [if_pos hzh] at hst
            have HS := Lib.hid hst
            clear hst
            go_wp2
            go_round
            case rel => exact ⟨k + 1, by omega, by go_num, int_eq (by rw [HS.out]; simp)⟩
            case measure => simp [intOf]; omega
          · rw [if_neg hzh] at hst
            have HS := Lib.hid hst
            clear hst
            go_wp2
            go_round
            case rel => exact ⟨k + 1, by omega, by go_num, int_eq (by rw [HS.out])⟩
            case measure => simp [intOf]; omega
        · obtain rfl : k = n := by omega
          go_wp2
          go_ret2
          exact ⟨by rw [H0.out.1, H0.out.2]; exact rfl, B2.out⟩

set_option maxHeartbeats 1000000 in
theorem specHeightOfRank_any (w : World) (a : Option Addr) (len cap : Nat) (zss : List (List Int)) (k : Int) (_wk : (Lit.int .i64 k).wf = true) (hf : FitsSS zss) (hc : CameSS w a len zss) :
    Calls Try.prog 18 #[.slice a len cap, .int .i64 k] w fun e w' => e = .returned (.tuple #[.int .i64 (outHeightOfRank_0 zss k), .bool (outHeightOfRank_1 zss k)]) ∧ Below w.heap.size w w' := by
  have HG := Lib.hid (fiGood_any w a len cap zss hf hc)
  clear _wk
  rcases hb : goodF zss with _ | _
  · have H0 : Hid (outHeightOfRank_0 zss k = 0 ∧ outHeightOfRank_1 zss k = false) := Lib.hid (by unfold outHeightOfRank_0 outHeightOfRank_1 rankB; rw [hb]; exact ⟨rfl, rfl⟩)
    rw [hb] at HG
    clear hb hc hf
    go_enter Try.func18, Try.ntmps18
    go_wp2_with (go_at_call 27; refine HG.out.mono ?_; rintro e w' ⟨rfl, rfl⟩)
    go_ret2
    exact ⟨by rw [H0.out.1, H0.out.2]; exact rfl, Below.refl _ _⟩
  · rw [hb] at HG
    have g := good_of hb
    have hlen : len = zss.length := hc.1.symm
    obtain ⟨b, off, a0, c0, rfl, e0, _, _, _⟩ := hc.at 0 (by rw [hlen]; exact g.r1)
    rw [Nat.add_zero] at e0
    obtain ⟨C, hC⟩ : ∃ C, C = (row zss 0).length := ⟨_, rfl⟩
    have e0' : w.cell? ⟨b, off, none⟩ = some (.slice a0 C c0) := by rw [hC]; exact e0
    have hRC := Nat.mul_le_mul g.r8 g.c8
    obtain ⟨p, hp⟩ : ∃ p, p = len * C := ⟨_, rfl⟩
    have ep : (len : Int) * (C : Int) = (p : Int) := by rw [hp]; simp
    have hp64 : p ≤ 64 := by rw [hp, hlen, hC]; exact hRC
    have HI := Lib.hid (fun w2 => l1In_any k 0 ((p : Int) - 1) w2)
    have HRB : Hid (rankB zss k = inB k 0 ((p : Int) - 1)) := Lib.hid (by unfold rankB; rw [hb, ← hC, hc.1, ep]; rfl)
    have hl8 : len ≤ 8 := by rw [hlen]; exact g.r8
    have hl1 : 1 ≤ len := by rw [hlen]; exact g.r1
    have hc8 : C ≤ 8 := by rw [hC]; exact g.c8
    have i0 : (0 : Int) < (len : Int) := by omega
    clear e0
    rcases hb2 : inB k 0 ((p : Int) - 1) with _ | _
    · have H0 : Hid (outHeightOfRank_0 zss k = 0 ∧ outHeightOfRank_1 zss k = false) := Lib.hid (by unfold outHeightOfRank_0 outHeightOfRank_1; rw [HRB.out, hb2]; exact ⟨rfl, rfl⟩)
      rw [hb2] at HI
      clear hb hb2 hc hf g hC hp hlen hRC
      go_enter Try.func18, Try.ntmps18
      go_wp2_with fail
      go_at_call 27
      refine HG.out.mono ?_
      rintro e w' ⟨rfl, rfl⟩
      go_wp2_with (go_at_call 44; refine (HI.out _).mono ?_; rintro e w' ⟨rfl, rfl⟩)
      go_ret2
      exact ⟨by rw [H0.out.1, H0.out.2]; exact rfl, Below.refl _ _⟩
    · obtain ⟨hk0, hk1⟩ := inB_yes hb2
      obtain ⟨K, rfl⟩ : ∃ K : Nat, k = (K : Int) := ⟨k.toNat, by omega⟩
      have H0 : Hid (outHeightOfRank_0 zss K = (allL zss).getD K 0 ∧ outHeightOfRank_1 zss K = true) := Lib.hid (by unfold outHeightOfRank_0 outHeightOfRank_1; rw [HRB.out, hb2, Int.toNat_natCast]; exact ⟨rfl, rfl⟩)
      have HA := Lib.hid (fiAll_any w _ len cap zss _ _ g hc)
      have HLA : Hid ((allL zss).length = p) := Lib.hid (by rw [length_allL g, hp, hlen, hC])
      obtain ⟨zs, hzs⟩ : ∃ zs, zs = allL zss := ⟨_, rfl⟩
      rw [← hzs] at H0 HA HLA
      rw [hb2] at HI
      have i1 : (0 : Int) ≤ (K : Int) := by omega
      have i2 : (K : Int) < (p : Int) := by omega
      clear hb hb2 hc hf g hC hp hlen hRC hzs
      go_enter Try.func18, Try.ntmps18
      go_wp2_with fail
      go_at_call 27
      refine HG.out.mono ?_
      rintro e w' ⟨rfl, rfl⟩
      go_wp2_with fail
      go_at_call 44
      refine (HI.out _).mono ?_
      rintro e w' ⟨rfl, rfl⟩
      go_wp2_with fail
      go_at_call 41
      refine HA.out.mono ?_
      rintro e w2 ⟨v, rfl, o2, b2⟩
      have B2 := Lib.hid b2
      obtain ⟨ao, c, rfl, hcm⟩ := o2.came
      rw [HLA.out] at hcm ⊢
      obtain ⟨b2', o2', rfl, hcell⟩ := hcm.2 (by omega)
      have e2 := hcell K (by omega)
      obtain ⟨z, hz⟩ : ∃ z, z = zs.getD K 0 := ⟨_, rfl⟩
      rw [← hz] at e2 H0
      clear o2 b2 hcm hcell HA hz
      go_wp2
      go_ret2
      exact ⟨by rw [H0.out.1, H0.out.2]; exact rfl, B2.out⟩

end Go.Proofs.Ytpoceonmlpnhlab
