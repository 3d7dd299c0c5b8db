/- Chapter 6, the model: TurnFiles, AreRowsSorted, AreColumnsSorted, ShortestOfTallest, TallestOfShortest, SaddlePlaces. -/
import Derived.Test.YtcljhjfmhnmgnaaFj
namespace Go.Proofs.Ytcljhjfmhnmgnaa
open Go.ChangeShapes Go.WideShapes Go.ChangeAt Go.RowKit
open Fi

theorem fits_nilF : ([] : List (List Int)).length ≤ 1000000000 ∧ total [] ≤ 1000000000 := ⟨by simp, by simp [total, tot]⟩
def outTurnFiles_0 (zss : List (List Int)) : List (List Int) := if goodF zss then turnL zss else []
def outTurnFiles_1 (zss : List (List Int)) : Bool := goodF zss
theorem lenTurnFiles_0 (zss : List (List Int)) : (outTurnFiles_0 zss).length ≤ 1000000000 ∧ total (outTurnFiles_0 zss) ≤ 1000000000 := by
  unfold outTurnFiles_0
  split
  · rename_i h
    exact fits_good (good_turn (good_of h))
  · exact fits_nilF
def outAreRowsSorted_0 (zss : List (List Int)) : Bool := goodF zss && sortedB zss
def outAreRowsSorted_1 (zss : List (List Int)) : Bool := goodF zss
def outAreColumnsSorted_0 (zss : List (List Int)) : Bool := goodF zss && sortedB (turnL zss)
def outAreColumnsSorted_1 (zss : List (List Int)) : Bool := goodF zss
def outShortestOfTallest_0 (zss : List (List Int)) : Int := if goodF zss then shortTo zss (row zss 0).length else 0
def outShortestOfTallest_1 (zss : List (List Int)) : Bool := goodF zss
def outTallestOfShortest_0 (zss : List (List Int)) : Int := if goodF zss then tallTo zss zss.length else 0
def outTallestOfShortest_1 (zss : List (List Int)) : Bool := goodF zss
namespace Fi
def sadB (zss : List (List Int)) (i k : Nat) : Bool := decide ((row zss i).getD k 0 = leastL (row zss i)) && decide ((row zss i).getD k 0 = mostL (row (turnL zss) k))
/-- the saddles of row i in its first k places -/
def sadRow (zss : List (List Int)) (i : Nat) : Nat → List (List Int)
  | 0 => []
  | k + 1 => if sadB zss i k then sadRow zss i k ++ [[(i : Int), (k : Int)]] else sadRow zss i k
/-- the saddles of the first i rows -/
def sadTo (zss : List (List Int)) : Nat → List (List Int)
  | 0 => []
  | i + 1 => sadTo zss i ++ sadRow zss i (row zss 0).length
theorem sadRow_mem (zss : List (List Int)) (i : Nat) : ∀ k, (sadRow zss i k).length ≤ k ∧ ∀ x ∈ sadRow zss i k, x.length = 2
  | 0 => ⟨by simp [sadRow], by simp [sadRow]⟩
  | k + 1 => by
    have h := sadRow_mem zss i k
    rw [sadRow]
    split
    · refine ⟨by rw [List.length_append]; simp; omega, fun x hx => ?_⟩
      rw [List.mem_append] at hx
      rcases hx with hx | hx
      · exact h.2 x hx
      · simp at hx; rw [hx]; rfl
    · exact ⟨by omega, h.2⟩
theorem sadTo_mem (zss : List (List Int)) : ∀ i, (sadTo zss i).length ≤ i * (row zss 0).length ∧ ∀ x ∈ sadTo zss i, x.length = 2
  | 0 => ⟨by simp [sadTo], by simp [sadTo]⟩
  | i + 1 => by
    have h := sadTo_mem zss i
    have h2 := sadRow_mem zss i (row zss 0).length
    rw [sadTo]
    refine ⟨by rw [List.length_append, Nat.succ_mul]; omega, fun x hx => ?_⟩
    rw [List.mem_append] at hx
    rcases hx with hx | hx
    · exact h.2 x hx
    · exact h2.2 x hx
end Fi
def outSaddlePlaces_0 (zss : List (List Int)) : List (List Int) := if goodF zss then sadTo zss zss.length else []
def outSaddlePlaces_1 (zss : List (List Int)) : Bool := goodF zss
theorem lenSaddlePlaces_0 (zss : List (List Int)) : (outSaddlePlaces_0 zss).length ≤ 1000000000 ∧ total (outSaddlePlaces_0 zss) ≤ 1000000000 := by
  unfold outSaddlePlaces_0
  split
  · rename_i h
    have g := good_of h
    have h1 := sadTo_mem zss zss.length
    have h2 : zss.length * (row zss 0).length ≤ 8 * 8 := Nat.mul_le_mul g.r8 g.c8
    exact fits_twos (by omega) h1.2
  · exact fits_nilF

set_option maxRecDepth 20000 in
set_option maxHeartbeats 400000 in
theorem specTurnFiles_any (w : World) (a : Option Addr) (len cap : Nat) (zss : List (List Int)) (hf : LenSS zss) (hc : CameSS w a len zss) :
    Calls Try.prog 16 #[.slice a len cap] w fun e w' => ∃ v0, e = .returned (.tuple #[v0, .bool (outTurnFiles_1 zss)]) ∧ OwnSS w' w.heap.size v0 (outTurnFiles_0 zss) ∧ Below w.heap.size w w' := by
  have HG := Lib.hid (fiGood_any w a len cap zss hf hc)
  rcases hb : goodF zss with _ | _
  · have H0 : Hid (outTurnFiles_0 zss = [] ∧ outTurnFiles_1 zss = false) := Lib.hid (by unfold outTurnFiles_0 outTurnFiles_1; rw [hb]; exact ⟨rfl, rfl⟩)
    rw [hb] at HG
    clear hb hc hf
    go_enter Try.func16, Try.ntmps16
    go_wp2_with (go_at_call 31; refine HG.out.mono ?_; rintro e w' ⟨rfl, rfl⟩)
    go_ret2
    exact ⟨_, by rw [H0.out.2]; exact rfl, by rw [H0.out.1]; exact ownSS_nil _ _, Below.refl _ _⟩
  · have H0 : Hid (outTurnFiles_0 zss = turnL zss ∧ outTurnFiles_1 zss = true) := Lib.hid (by unfold outTurnFiles_0 outTurnFiles_1; rw [hb]; exact ⟨rfl, rfl⟩)
    have g := good_of hb
    have HT := Lib.hid (fiTurn_any w a len cap zss _ (by have := g.r1; have := hc.1; omega) (by have := g.r8; have := hc.1; omega) (by have := g.c8; omega) (fun i hi => g.cols i (by have := hc.1; omega)) hc)
    rw [hb] at HG
    clear hb hc hf g
    go_enter Try.func16, Try.ntmps16
    go_wp2_with fail
    go_at_call 31
    refine HG.out.mono ?_
    rintro e w' ⟨rfl, rfl⟩
    go_wp2_with fail
    go_at_call 40
    refine HT.out.mono ?_
    rintro e w2 ⟨v, rfl, o2, b2⟩
    have O2 := Lib.hid o2
    have B2 := Lib.hid b2
    clear o2 b2
    go_wp2
    go_ret2
    exact ⟨_, by rw [H0.out.2]; exact rfl, by rw [H0.out.1]; exact O2.out, B2.out⟩

set_option maxRecDepth 20000 in
set_option maxHeartbeats 400000 in
theorem specAreRowsSorted_any (w : World) (a : Option Addr) (len cap : Nat) (zss : List (List Int)) (hf : LenSS zss) (hc : CameSS w a len zss) :
    Calls Try.prog 12 #[.slice a len cap] w fun e w' => e = .returned (.tuple #[.bool (outAreRowsSorted_0 zss), .bool (outAreRowsSorted_1 zss)]) ∧ Below w.heap.size w w' := by
  have HG := Lib.hid (fiGood_any w a len cap zss hf hc)
  rcases hb : goodF zss with _ | _
  · have H0 : Hid (outAreRowsSorted_0 zss = false ∧ outAreRowsSorted_1 zss = false) := Lib.hid (by unfold outAreRowsSorted_0 outAreRowsSorted_1; rw [hb]; exact ⟨rfl, rfl⟩)
    rw [hb] at HG
    clear hb hc hf
    go_enter Try.func12, Try.ntmps12
    go_wp2_with (go_at_call 31; refine HG.out.mono ?_; rintro e w' ⟨rfl, rfl⟩)
    go_ret2
    exact ⟨by rw [H0.out.1, H0.out.2]; exact rfl, Below.refl _ _⟩
  · have H0 : Hid (outAreRowsSorted_0 zss = sortedB zss ∧ outAreRowsSorted_1 zss = true) := Lib.hid (by unfold outAreRowsSorted_0 outAreRowsSorted_1; rw [hb]; exact ⟨rfl, rfl⟩)
    have g := good_of hb
    have HS := Lib.hid (fiSorted_any w a len cap zss (by have := g.r8; have := hc.1; omega) (fun i hi => by rw [g.cols i (by have := hc.1; omega)]; have := g.c8; omega) hc)
    rw [hb] at HG
    clear hb hc hf g
    go_enter Try.func12, Try.ntmps12
    go_wp2_with fail
    go_at_call 31
    refine HG.out.mono ?_
    rintro e w' ⟨rfl, rfl⟩
    go_wp2_with fail
    go_at_call 38
    refine HS.out.mono ?_
    rintro e w2 ⟨rfl, b2⟩
    have B2 := Lib.hid b2
    clear b2
    go_wp2
    go_ret2
    exact ⟨by rw [H0.out.1, H0.out.2]; exact rfl, B2.out⟩

set_option maxRecDepth 20000 in
set_option maxHeartbeats 400000 in
theorem specAreColumnsSorted_any (w : World) (a : Option Addr) (len cap : Nat) (zss : List (List Int)) (hf : LenSS zss) (hc : CameSS w a len zss) :
    Calls Try.prog 14 #[.slice a len cap] w fun e w' => e = .returned (.tuple #[.bool (outAreColumnsSorted_0 zss), .bool (outAreColumnsSorted_1 zss)]) ∧ Below w.heap.size w w' := by
  have HG := Lib.hid (fiGood_any w a len cap zss hf hc)
  rcases hb : goodF zss with _ | _
  · have H0 : Hid (outAreColumnsSorted_0 zss = false ∧ outAreColumnsSorted_1 zss = false) := Lib.hid (by unfold outAreColumnsSorted_0 outAreColumnsSorted_1; rw [hb]; exact ⟨rfl, rfl⟩)
    rw [hb] at HG
    clear hb hc hf
    go_enter Try.func14, Try.ntmps14
    go_wp2_with (go_at_call 31; refine HG.out.mono ?_; rintro e w' ⟨rfl, rfl⟩)
    go_ret2
    exact ⟨by rw [H0.out.1, H0.out.2]; exact rfl, Below.refl _ _⟩
  · have H0 : Hid (outAreColumnsSorted_0 zss = sortedB (turnL zss) ∧ outAreColumnsSorted_1 zss = true) := Lib.hid (by unfold outAreColumnsSorted_0 outAreColumnsSorted_1; rw [hb]; exact ⟨rfl, rfl⟩)
    have g := good_of hb
    have G2 := Lib.hid (good_turn g)
    have HT := Lib.hid (fiTurn_any w a len cap zss _ (by have := g.r1; have := hc.1; omega) (by have := g.r8; have := hc.1; omega) (by have := g.c8; omega) (fun i hi => g.cols i (by have := hc.1; omega)) hc)
    rw [hb] at HG
    clear hb hc hf g
    go_enter Try.func14, Try.ntmps14
    go_wp2_with fail
    go_at_call 31
    refine HG.out.mono ?_
    rintro e w' ⟨rfl, rfl⟩
    go_wp2_with fail
    go_at_call 40
    refine HT.out.mono ?_
    rintro e w2 ⟨v, rfl, o2, b2⟩
    have B2 := Lib.hid b2
    obtain ⟨at2, ct2, rfl, hc2, _⟩ := o2.cameC
    have HS := Lib.hid (fiSorted_any w2 at2 _ ct2 (turnL zss) (by rw [G2.out.rows]; have := G2.out.r8; omega) (fun i hi => by rw [G2.out.cols i (by rw [← G2.out.rows]; exact hi)]; have := G2.out.c8; omega) hc2)
    clear o2 b2 hc2
    go_wp2_with fail
    go_at_call 38
    refine HS.out.mono ?_
    rintro e w3 ⟨rfl, b3⟩
    have B3 := Lib.hid b3
    clear b3
    go_wp2
    go_ret2
    exact ⟨by rw [H0.out.1, H0.out.2]; exact rfl, B2.out.trans (B3.out.mono B2.out.size)⟩

set_option maxRecDepth 20000 in
set_option maxHeartbeats 1000000 in
theorem specShortestOfTallest_any (w : World) (a : Option Addr) (len cap : Nat) (zss : List (List Int)) (hf : LenSS zss) (hc : CameSS w a len zss) :
    Calls Try.prog 20 #[.slice a len cap] w fun e w' => e = .returned (.tuple #[.int .i64 (outShortestOfTallest_0 zss), .bool (outShortestOfTallest_1 zss)]) ∧ Below w.heap.size w w' := by
  have HG := Lib.hid (fiGood_any w a len cap zss hf hc)
  rcases hb : goodF zss with _ | _
  · have H0 : Hid (outShortestOfTallest_0 zss = 0 ∧ outShortestOfTallest_1 zss = false) := Lib.hid (by unfold outShortestOfTallest_0 outShortestOfTallest_1; rw [hb]; exact ⟨rfl, rfl⟩)
    rw [hb] at HG
    clear hb hc hf
    go_enter Try.func20, Try.ntmps20
    go_wp2_with (go_at_call 31; refine HG.out.mono ?_; rintro e w' ⟨rfl, rfl⟩)
    go_ret2
    exact ⟨by rw [H0.out.1, H0.out.2]; exact rfl, Below.refl _ _⟩
  · have g := good_of hb
    have H0 : Hid (outShortestOfTallest_0 zss = shortTo zss (turnL zss).length ∧ outShortestOfTallest_1 zss = true) := Lib.hid (by unfold outShortestOfTallest_0 outShortestOfTallest_1; rw [hb, length_turnL]; exact ⟨rfl, rfl⟩)
    have G2 := Lib.hid (good_turn g)
    have HT := Lib.hid (fiTurn_any w a len cap zss _ (by have := g.r1; have := hc.1; omega) (by have := g.r8; have := hc.1; omega) (by have := g.c8; omega) (fun i hi => g.cols i (by have := hc.1; omega)) hc)
    rw [hb] at HG
    clear hb hc hf g
    go_enter Try.func20, Try.ntmps20
    go_wp2_with fail
    go_at_call 31
    refine HG.out.mono ?_
    rintro e w' ⟨rfl, rfl⟩
    go_wp2_with fail
    go_at_call 40
    refine HT.out.mono ?_
    rintro e w2 ⟨v, rfl, o2, b2⟩
    have B2 := Lib.hid b2
    obtain ⟨at2, ct2, rfl, hc2, _⟩ := o2.cameC
    have HC2 := Lib.hid hc2
    have hn8 : (turnL zss).length ≤ 8 := by rw [G2.out.rows]; exact G2.out.r8
    have HRC : Hid (∀ k, k < (turnL zss).length → ((turnL zss).getD k []).length = zss.length) := Lib.hid (fun k hk => G2.out.cols k (by rw [← G2.out.rows]; exact hk))
    have hr1 : 1 ≤ zss.length := G2.out.c1
    have hr8 : zss.length ≤ 8 := G2.out.c8
    obtain ⟨n, hn⟩ : ∃ n, n = (turnL zss).length := ⟨_, rfl⟩
    rw [← hn] at HC2 hn8 HRC H0 ⊢
    clear o2 b2 hc2 hn G2
    go_wp2
    go_loopw [4, 15] (fun s i wr => ∃ k : Nat, k ≤ n ∧ i = .int .i64 k ∧ s = .int .i64 (shortTo zss k) ∧ Hid (Below w.heap.size w wr) ∧ Hid (Below w2.heap.size w2 wr)) (fun _ i _ => n - (intOf i).toNat)
    case atStart => exact ⟨0, Nat.zero_le _, rfl, rfl, B2, Lib.hid (Below.refl _ _)⟩
    case round =>
      obtain ⟨k, hk, rfl, rfl, HB, HB2⟩ := hrel
      by_cases hlt : k < n
      · obtain ⟨b, off, ak, ck, rfl, e1, hrow, _, _⟩ := (HC2.out.below HB2.out).at k hlt
        rw [HRC.out k hlt] at e1 hrow
        have HE := Lib.hid (fiEnd_any wr ak zss.length ck _ hr1 (by omega) hrow)
        have HS : Hid (shortTo zss (k + 1) = min (shortTo zss k) (mostL ((turnL zss).getD k []))) := Lib.hid rfl
        obtain ⟨x, hx⟩ : ∃ x, x = mostL ((turnL zss).getD k []) := ⟨_, rfl⟩
        obtain ⟨y, hy⟩ : ∃ x, x = leastL ((turnL zss).getD k []) := ⟨_, rfl⟩
        rw [← hx, ← hy] at HE
        rw [← hx] at HS
        obtain ⟨z, hz⟩ : ∃ x, x = shortTo zss k := ⟨_, rfl⟩
        rw [← hz] at HS ⊢
        have HL := Lib.hid (fun w2 => l1Least_any z x w2)
        have i3 : (0 : Int) ≤ (k : Int) := by omega
        have i4 : (k : Int) < (n : Int) := by omega
        clear hx hy hz hrow
        go_wp2_with fail
        go_at_call 44
        refine HE.out.mono ?_
        rintro e w3 ⟨rfl, b3⟩
        have HB3 : Hid (Below w.heap.size w w3) := Lib.hid (HB.out.trans (b3.mono HB.out.size))
        have HB4 : Hid (Below w2.heap.size w2 w3) := Lib.hid (HB2.out.trans (b3.mono HB2.out.size))
        clear b3
        go_wp2_with (go_at_call 47; refine (HL.out _).mono ?_; rintro e w' ⟨rfl, rfl⟩)
        go_roundw
        case rel => exact ⟨k + 1, by omega, by go_num, int_eq HS.out.symm, HB3, HB4⟩
        case measure => simp [intOf]; omega
      · obtain rfl : k = n := by omega
        go_wp2
        go_ret2
        exact ⟨by rw [H0.out.1, H0.out.2]; exact rfl, HB.out⟩

set_option maxRecDepth 20000 in
set_option maxHeartbeats 1000000 in
theorem specTallestOfShortest_any (w : World) (a : Option Addr) (len cap : Nat) (zss : List (List Int)) (hf : LenSS zss) (hc : CameSS w a len zss) :
    Calls Try.prog 18 #[.slice a len cap] w fun e w' => e = .returned (.tuple #[.int .i64 (outTallestOfShortest_0 zss), .bool (outTallestOfShortest_1 zss)]) ∧ Below w.heap.size w w' := by
  have HG := Lib.hid (fiGood_any w a len cap zss hf hc)
  rcases hb : goodF zss with _ | _
  · have H0 : Hid (outTallestOfShortest_0 zss = 0 ∧ outTallestOfShortest_1 zss = false) := Lib.hid (by unfold outTallestOfShortest_0 outTallestOfShortest_1; rw [hb]; exact ⟨rfl, rfl⟩)
    rw [hb] at HG
    clear hb hc hf
    go_enter Try.func18, Try.ntmps18
    go_wp2_with (go_at_call 31; refine HG.out.mono ?_; rintro e w' ⟨rfl, rfl⟩)
    go_ret2
    exact ⟨by rw [H0.out.1, H0.out.2]; exact rfl, Below.refl _ _⟩
  · have g := good_of hb
    have H0 : Hid (outTallestOfShortest_0 zss = tallTo zss len ∧ outTallestOfShortest_1 zss = true) := Lib.hid (by unfold outTallestOfShortest_0 outTallestOfShortest_1; rw [hb, hc.1]; exact ⟨rfl, rfl⟩)
    have HC2 := Lib.hid hc
    have hn8 : len ≤ 8 := by rw [← hc.1]; exact g.r8
    have HRC : Hid (∀ k, k < len → (zss.getD k []).length = (row zss 0).length) := Lib.hid (fun k hk => g.cols k (by rw [hc.1]; exact hk))
    have hr1 : 1 ≤ (row zss 0).length := g.c1
    have hr8 : (row zss 0).length ≤ 8 := g.c8
    obtain ⟨c, hcc⟩ : ∃ c, c = (row zss 0).length := ⟨_, rfl⟩
    rw [← hcc] at HRC hr1 hr8
    rw [hb] at HG
    clear hb hc hf g hcc
    go_enter Try.func18, Try.ntmps18
    go_wp2_with fail
    go_at_call 31
    refine HG.out.mono ?_
    rintro e w' ⟨rfl, rfl⟩
    go_wp2
    go_loopw [4, 14] (fun s i wr => ∃ k : Nat, k ≤ len ∧ i = .int .i64 k ∧ s = .int .i64 (tallTo zss k) ∧ Hid (Below w.heap.size w wr)) (fun _ i _ => len - (intOf i).toNat)
    case atStart => exact ⟨0, Nat.zero_le _, rfl, rfl, Lib.hid (Below.refl _ _)⟩
    case round =>
      obtain ⟨k, hk, rfl, rfl, HB⟩ := hrel
      by_cases hlt : k < len
      · obtain ⟨b, off, ak, ck, rfl, e1, hrow, _, _⟩ := (HC2.out.below HB.out).at k hlt
        rw [HRC.out k hlt] at e1 hrow
        have HE := Lib.hid (fiEnd_any wr ak c ck _ hr1 (by omega) hrow)
        have HS : Hid (tallTo zss (k + 1) = max (tallTo zss k) (leastL (zss.getD k []))) := Lib.hid rfl
        obtain ⟨x, hx⟩ : ∃ x, x = mostL (zss.getD k []) := ⟨_, rfl⟩
        obtain ⟨y, hy⟩ : ∃ x, x = leastL (zss.getD k []) := ⟨_, rfl⟩
        rw [← hx, ← hy] at HE
        rw [← hy] at HS
        obtain ⟨z, hz⟩ : ∃ x, x = tallTo zss k := ⟨_, rfl⟩
        rw [← hz] at HS ⊢
        have HL := Lib.hid (fun w2 => l1Most_q z y w2)
        have i3 : (0 : Int) ≤ (k : Int) := by omega
        have i4 : (k : Int) < (len : Int) := by omega
        clear hx hy hz hrow
        go_wp2_with fail
        go_at_call 44
        refine HE.out.mono ?_
        rintro e w3 ⟨rfl, b3⟩
        have HB3 : Hid (Below w.heap.size w w3) := Lib.hid (HB.out.trans (b3.mono HB.out.size))
        clear b3
        go_wp2_with (go_at_call 45; refine (HL.out _).mono ?_; rintro e w' ⟨rfl, rfl⟩)
        go_roundw
        case rel => exact ⟨k + 1, by omega, by go_num, int_eq HS.out.symm, HB3⟩
        case measure => simp [intOf]; omega
      · obtain rfl : k = len := by omega
        go_wp2
        go_ret2
        exact ⟨by rw [H0.out.1, H0.out.2]; exact rfl, HB.out⟩

set_option maxRecDepth 20000 in
set_option maxHeartbeats 2000000 in
theorem specSaddlePlaces_any (w : World) (a : Option Addr) (len cap : Nat) (zss : List (List Int)) (hf : LenSS zss) (hc : CameSS w a len zss) :
    Calls Try.prog 22 #[.slice a len cap] w fun e w' => ∃ v0, e = .returned (.tuple #[v0, .bool (outSaddlePlaces_1 zss)]) ∧ OwnSS w' w.heap.size v0 (outSaddlePlaces_0 zss) ∧ Below w.heap.size w w' := by
  have HG := Lib.hid (fiGood_any w a len cap zss hf hc)
  rcases hb : goodF zss with _ | _
  · have H0 : Hid (outSaddlePlaces_0 zss = [] ∧ outSaddlePlaces_1 zss = false) := Lib.hid (by unfold outSaddlePlaces_0 outSaddlePlaces_1; rw [hb]; exact ⟨rfl, rfl⟩)
    rw [hb] at HG
    clear hb hc hf
    go_enter Try.func22, Try.ntmps22
    go_wp2_with (go_at_call 31; refine HG.out.mono ?_; rintro e w' ⟨rfl, rfl⟩)
    go_ret2
    exact ⟨_, by rw [H0.out.2]; exact rfl, by rw [H0.out.1]; exact ownSS_nil _ _, Below.refl _ _⟩
  · have g := good_of hb
    have H0 : Hid (outSaddlePlaces_0 zss = sadTo zss len ∧ outSaddlePlaces_1 zss = true) := Lib.hid (by unfold outSaddlePlaces_0 outSaddlePlaces_1; rw [hb, hc.1]; exact ⟨rfl, rfl⟩)
    have HC := Lib.hid hc
    have HZ : Hid (zss.length = len) := Lib.hid hc.1
    have G2 := Lib.hid (good_turn g)
    have HT := Lib.hid (fiTurn_any w a len cap zss _ (by have := g.r1; have := hc.1; omega) (by have := g.r8; have := hc.1; omega) (by have := g.c8; omega) (fun i hi => g.cols i (by have := hc.1; omega)) hc)
    have hn1 : 1 ≤ len := by rw [← hc.1]; exact g.r1
    have hn8 : len ≤ 8 := by rw [← hc.1]; exact g.r8
    have HRC : Hid (∀ k, k < len → (zss.getD k []).length = (row zss 0).length) := Lib.hid (fun k hk => g.cols k (by rw [hc.1]; exact hk))
    have HTC : Hid (∀ k, k < (row zss 0).length → ((turnL zss).getD k []).length = len) := Lib.hid (fun k hk => by rw [← hc.1]; exact (good_turn g).cols k hk)
    have HTL : Hid ((turnL zss).length = (row zss 0).length) := Lib.hid (length_turnL zss)
    have hr1 : 1 ≤ (row zss 0).length := g.c1
    have hr8 : (row zss 0).length ≤ 8 := g.c8
    have HSR : Hid (∀ i, sadTo zss (i + 1) = sadTo zss i ++ sadRow zss i (row zss 0).length) := Lib.hid (fun i => rfl)
    have HSM : Hid (∀ i, (sadTo zss i).length ≤ i * (row zss 0).length) := Lib.hid (fun i => (sadTo_mem zss i).1)
    obtain ⟨c, hcc⟩ : ∃ c, c = (row zss 0).length := ⟨_, rfl⟩
    rw [← hcc] at HRC HTC HTL hr1 hr8 HSR HSM
    rw [hb] at HG
    clear hb hc hf g hcc G2
    go_enter Try.func22, Try.ntmps22
    go_wp2_with fail
    go_at_call 31
    refine HG.out.mono ?_
    rintro e w' ⟨rfl, rfl⟩
    go_wp2_with fail
    go_at_call 40
    refine HT.out.mono ?_
    rintro e w1 ⟨v, rfl, o1, b1⟩
    obtain ⟨at1, ct1, rfl, hc1, _⟩ := o1.cameC
    rw [HTL.out] at hc1 ⊢
    have HC1 := Lib.hid hc1
    have B1 := Lib.hid b1
    clear o1 b1 hc1
    go_wp2
    go_loopw [5, 21] (fun v i wr => ∃ k : Nat, k ≤ len ∧ i = .int .i64 k ∧ Hid (OwnSS wr w1.heap.size v (sadTo zss k)) ∧ Hid (Below w1.heap.size w1 wr)) (fun _ i _ => len - (intOf i).toNat)
    case atStart => exact ⟨0, Nat.zero_le _, rfl, Lib.hid (ownSS_nil _ _), Lib.hid (Below.refl _ _)⟩
    case round =>
      obtain ⟨k, hk, rfl, HO, HB⟩ := hrel
      by_cases hlt : k < len
      · obtain ⟨b, off, ak, ck, rfl, e0, hrow, _, _⟩ := HC.out.at k hlt
        rw [HRC.out k hlt] at e0 hrow
        have hbw := B1.out.trans (HB.out.mono B1.out.size)
        have e1 := (hbw.cell (World.block_lt_of_cell? w _ e0)).trans e0
        have HE := Lib.hid (fiEnd_any wr ak c ck _ hr1 (by omega) (hrow.below hbw))
        have HW := Lib.hid hrow
        obtain ⟨x, hx⟩ : ∃ x, x = mostL (zss.getD k []) := ⟨_, rfl⟩
        obtain ⟨y, hy⟩ : ∃ x, x = leastL (zss.getD k []) := ⟨_, rfl⟩
        rw [← hx, ← hy] at HE
        have HY : Hid (y = leastL (row zss k)) := Lib.hid hy
        have i3 : (0 : Int) ≤ (k : Int) := by omega
        have i4 : (k : Int) < (len : Int) := by omega
        have hbm : (sadTo zss k).length ≤ 64 := by have := HSM.out k; have := Nat.mul_le_mul (show k ≤ 8 by omega) hr8; omega
        clear hx hy hrow hbw e0
        go_wp2_with fail
        go_at_call 44
        refine HE.out.mono ?_
        rintro e w3 ⟨rfl, b3⟩
        have HB3 : Hid (Below w1.heap.size w1 w3) := Lib.hid (HB.out.trans (b3.mono HB.out.size))
        have HO3 := Lib.hid (HO.out.below b3 (Nat.le_refl _))
        clear b3 HB HO HE e1
        go_wp2
        go_loopw [5, 33] (fun v i wr => ∃ j : Nat, j ≤ c ∧ i = .int .i64 j ∧ Hid (OwnSS wr w1.heap.size v (sadTo zss k ++ sadRow zss k j)) ∧ Hid (Below w1.heap.size w1 wr)) (fun _ i _ => c - (intOf i).toNat)
        case atStart => exact ⟨0, Nat.zero_le _, rfl, Lib.hid (by rw [sadRow, List.append_nil]; exact HO3.out), HB3⟩
        case round =>
          obtain ⟨j, hj, rfl, HO, HB⟩ := hrel
          clear HO3 HB3
          by_cases hlt2 : j < c
          · obtain ⟨bk, ok, rfl, hcell⟩ := (HW.out.below (B1.out.trans (HB.out.mono B1.out.size))).2 (by omega)
            have c1 := hcell j hlt2
            obtain ⟨bt, ot, aj, cj, rfl, e2, hcol, _, _⟩ := (HC1.out.below HB.out).at j hlt2
            rw [HTC.out j hlt2] at e2 hcol
            have HE2 := Lib.hid (fiEnd_any wr aj len cj _ hn1 (by omega) hcol)
            obtain ⟨p, hp⟩ : ∃ x, x = mostL ((turnL zss).getD j []) := ⟨_, rfl⟩
            obtain ⟨q, hq⟩ : ∃ x, x = leastL ((turnL zss).getD j []) := ⟨_, rfl⟩
            rw [← hp, ← hq] at HE2
            have HSB : Hid (sadB zss k j = (decide ((zss.getD k []).getD j 0 = y) && decide ((zss.getD k []).getD j 0 = p))) := Lib.hid (by unfold sadB; rw [HY.out, hp]; rfl)
            have HRS : Hid (sadRow zss k (j + 1) = if sadB zss k j then sadRow zss k j ++ [[(k : Int), (j : Int)]] else sadRow zss k j) := Lib.hid rfl
            obtain ⟨z, hz⟩ : ∃ z, z = (zss.getD k []).getD j 0 := ⟨_, rfl⟩
            rw [← hz] at c1 HSB
            have i5 : (0 : Int) ≤ (j : Int) := by omega
            have i6 : (j : Int) < (c : Int) := by omega
            have hbl : (sadTo zss k ++ sadRow zss k j).length ≤ 1000000000 := by have := (sadRow_mem zss k j).1; rw [List.length_append]; omega
            clear hcell hcol hp hq hz
            go_wp2_with fail
            go_at_call 44
            refine HE2.out.mono ?_
            rintro e w4 ⟨rfl, b4⟩
            have HB4 : Hid (Below w1.heap.size w1 w4) := Lib.hid (HB.out.trans (b4.mono HB.out.size))
            have HO4 := Lib.hid (HO.out.below b4 (Nat.le_refl _))
            clear b4 HB HO HE2 e2 c1
            have hz4 := HB4.out.size
            by_cases h1 : z = y
            · have g1 : (z == y) = true := by rw [beq_iff_eq]; exact h1
              by_cases h2 : z = p
              · have g2 : (z == p) = true := by rw [beq_iff_eq]; exact h2
                have HS : Hid (sadTo zss k ++ sadRow zss k (j + 1) = (sadTo zss k ++ sadRow zss k j) ++ [[(k : Int), (j : Int)]]) := Lib.hid (by rw [HRS.out, HSB.out, decide_eq_true h1, decide_eq_true h2, List.append_assoc]; rfl)
                clear h1 h2
                go_wp2_with (at_builtin; refine wpList_appRow rfl _ _ rfl _ w4 _ _ _ _ _ _ rfl rfl (by simp) HO4.out ((Below.refl _ _).alloc (Nat.le_refl _) _) (own_two w4 _ _) hz4 hbl ?_; intro v' w5 hO hB5)
                have HO5 : Hid (OwnSS w5 w1.heap.size v' (sadTo zss k ++ sadRow zss k (j + 1))) := Lib.hid (by rw [HS.out]; exact hO)
                have HB5 : Hid (Below w1.heap.size w1 w5) := Lib.hid ((HB4.out.alloc hz4 _).trans hB5)
                clear hO hB5
                go_wp2
                go_roundw
                case rel => exact ⟨j + 1, by omega, by go_num, HO5, HB5⟩
                case measure => simp [intOf]; omega
              · have g2 : (z == p) = false := by rw [beq_eq_false_iff_ne]; exact h2
                have HS : Hid (sadTo zss k ++ sadRow zss k (j + 1) = (sadTo zss k ++ sadRow zss k j)) := Lib.hid (by rw [HRS.out, HSB.out, decide_eq_false h2, Bool.and_false]; rfl)
                clear h1 h2
                go_wp2
                go_roundw
                case rel => exact ⟨j + 1, by omega, by go_num, Lib.hid (by rw [HS.out]; exact HO4.out), HB4⟩
                case measure => simp [intOf]; omega
            · have g1 : (z == y) = false := by rw [beq_eq_false_iff_ne]; exact h1
              have HS : Hid (sadTo zss k ++ sadRow zss k (j + 1) = (sadTo zss k ++ sadRow zss k j)) := Lib.hid (by rw [HRS.out, HSB.out, decide_eq_false h1, Bool.false_and]; rfl)
              clear h1
              go_wp2
              go_roundw
              case rel => exact ⟨j + 1, by omega, by go_num, Lib.hid (by rw [HS.out]; exact HO4.out), HB4⟩
              case measure => simp [intOf]; omega
          · obtain rfl : j = c := by omega
            have HO5 : Hid (OwnSS wr w1.heap.size _ (sadTo zss (k + 1))) := Lib.hid (by rw [HSR.out]; exact HO.out)
            clear HO
            go_wp2
            go_roundw
            case rel => exact ⟨k + 1, by omega, by go_num, HO5, HB⟩
            case measure => simp [intOf]; omega
      · obtain rfl : k = len := by omega
        go_wp2
        go_ret2
        exact ⟨_, by rw [H0.out.2]; exact rfl, by rw [H0.out.1]; exact HO.out.mono B1.out.size, B1.out.trans (HB.out.mono B1.out.size)⟩

end Go.Proofs.Ytcljhjfmhnmgnaa
