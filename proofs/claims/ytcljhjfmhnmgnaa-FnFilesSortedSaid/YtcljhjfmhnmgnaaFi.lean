/- Chapter 6, the model: files, AreFiles, fiHeight. -/
import Derived.Test.YtcljhjfmhnmgnaaCa
import Derived.Test.YtcljhjfmhnmgnaaIn
import Derived.Test.YtcljhjfmhnmgnaaUp
namespace Go.Proofs.Ytcljhjfmhnmgnaa
open Go.ChangeShapes Go.WideShapes Go.ChangeAt Go.RowKit

namespace Fi
def row (zss : List (List Int)) (k : Nat) : List Int := zss.getD k []
/-- a row that files with such a first row have -/
def rowB (c : Nat) (r : List Int) : Bool := decide (r.length = c) && allB r 1 999
def goodF (zss : List (List Int)) : Bool := inB zss.length 1 8 && (inB (row zss 0).length 1 8 && zss.all (rowB (row zss 0).length))
structure Good (zss : List (List Int)) (R C : Nat) : Prop where
  rows : zss.length = R
  r1 : 1 ≤ R
  r8 : R ≤ 8
  c1 : 1 ≤ C
  c8 : C ≤ 8
  cols : ∀ i, i < R → (row zss i).length = C
  all : ∀ i, i < R → allB (row zss i) 1 999 = true
theorem row_mem {zss : List (List Int)} {i : Nat} (h : i < zss.length) : row zss i ∈ zss := by
  unfold row
  simp only [List.getD_eq_getElem?_getD, List.getElem?_eq_getElem h, Option.getD_some]
  exact List.getElem_mem h
theorem good_of {zss : List (List Int)} (h : goodF zss = true) : Good zss zss.length (row zss 0).length := by
  unfold goodF at h
  simp only [Bool.and_eq_true, List.all_eq_true] at h
  obtain ⟨h1, h2, h3⟩ := h
  have h1' := inB_yes h1
  have h2' := inB_yes h2
  refine ⟨rfl, by omega, by omega, by omega, by omega, fun i hi => ?_, fun i hi => ?_⟩
  · have := h3 _ (row_mem hi)
    unfold rowB at this
    simp only [Bool.and_eq_true, decide_eq_true_eq] at this
    exact this.1
  · have := h3 _ (row_mem hi)
    unfold rowB at this
    simp only [Bool.and_eq_true, decide_eq_true_eq] at this
    exact this.2
theorem of_good {zss : List (List Int)} {R C : Nat} (h : Good zss R C) : goodF zss = true := by
  unfold goodF
  rw [h.rows, h.cols 0 (by have := h.r1; omega)]
  rw [inB_of ⟨by have := h.r1; omega, by have := h.r8; omega⟩, inB_of ⟨by have := h.c1; omega, by have := h.c8; omega⟩, Bool.true_and, Bool.true_and, List.all_eq_true]
  intro r hr
  obtain ⟨i, hi, rfl⟩ := List.getElem_of_mem hr
  have e : zss[i] = row zss i := by unfold row; simp [List.getD_eq_getElem?_getD, hi]
  rw [e]
  unfold rowB
  rw [h.cols i (by rw [← h.rows]; exact hi), h.all i (by rw [← h.rows]; exact hi)]
  simp
theorem allB_get {zs : List Int} {lo hi : Int} (h : allB zs lo hi = true) (j : Nat) (hj : j < zs.length) : lo ≤ zs.getD j 0 ∧ zs.getD j 0 ≤ hi := by
  unfold allB at h
  rw [List.all_eq_true] at h
  refine inB_yes (h _ ?_)
  simp only [List.getD_eq_getElem?_getD, List.getElem?_eq_getElem hj, Option.getD_some]
  exact List.getElem_mem hj
theorem Good.get {zss : List (List Int)} {R C : Nat} (h : Good zss R C) (i j : Nat) (hi : i < R) (hj : j < C) : 1 ≤ (row zss i).getD j 0 ∧ (row zss i).getD j 0 ≤ 999 :=
  allB_get (h.all i hi) j (by rw [h.cols i hi]; exact hj)
def goodTo (zss : List (List Int)) (k : Nat) : Prop := ∀ i, i < k → rowB (row zss 0).length (row zss i) = true
theorem goodTo_all {zss : List (List Int)} (h : goodTo zss zss.length) : zss.all (rowB (row zss 0).length) = true := by
  rw [List.all_eq_true]
  intro r hr
  obtain ⟨i, hi, rfl⟩ := List.getElem_of_mem hr
  have := h i hi
  unfold row at this ⊢
  simpa [List.getD_eq_getElem?_getD, hi] using this
theorem good_not {zss : List (List Int)} {k : Nat} (hk : k < zss.length) (h : rowB (row zss 0).length (row zss k) = false) : zss.all (rowB (row zss 0).length) = false := by
  rw [List.all_eq_false]
  exact ⟨row zss k, row_mem hk, by rw [h]; simp⟩
end Fi
open Fi

set_option maxRecDepth 20000 in
set_option maxHeartbeats 1000000 in
theorem fiGood_any (w : World) (a : Option Addr) (len cap : Nat) (zss : List (List Int)) (hf : LenSS zss) (hc : CameSS w a len zss) :
    Calls Try.prog 31 #[.slice a len cap] w fun e w' => e = .returned (.bool (goodF zss)) ∧ w = w' := by
  have HI := Lib.hid (fun (n : Int) => l1In_any n 1 8 w)
  have hl : len ≤ 1048576 := by have := hc.1; have := hf.1; omega
  have HZ : Hid (zss.length = len) := Lib.hid hc.1
  have HC := Lib.hid hc
  rcases hb : inB (len : Int) 1 8 with _ | _
  · have H0 : Hid (goodF zss = false) := Lib.hid (by unfold goodF; rw [hc.1, hb]; rfl)
    have HI1 := Lib.hid (HI.out (len : Int))
    rw [hb] at HI1
    clear hc hf hb
    go_enter Try.func31, Try.ntmps31
    go_wp2_with (go_at_call 56; refine HI1.out.mono ?_; rintro e w' ⟨rfl, rfl⟩)
    go_ret
    exact ⟨ret_bool H0.out.symm, rfl⟩
  · have hlen := inB_yes hb
    obtain ⟨b, off, a0, c0, rfl, e0, _, _, _⟩ := hc.at 0 (by omega)
    rw [Nat.add_zero] at e0
    have HI1 := Lib.hid (HI.out (len : Int))
    rw [hb] at HI1
    obtain ⟨c, hcc⟩ : ∃ c, c = (row zss 0).length := ⟨_, rfl⟩
    have e0' : w.cell? ⟨b, off, none⟩ = some (.slice a0 c c0) := by rw [hcc]; exact e0
    have HI2 := Lib.hid (HI.out (c : Int))
    clear e0
    rcases hb2 : inB (c : Int) 1 8 with _ | _
    · have H0 : Hid (goodF zss = false) := Lib.hid (by unfold goodF; rw [← hcc, hb2, Bool.false_and, Bool.and_false])
      rw [hb2] at HI2
      clear hc hf hb hb2 hcc
      have i1 : (0 : Int) < (len : Int) := by omega
      clear hlen
      go_enter Try.func31, Try.ntmps31
      go_wp2_with fail
      go_at_call 56
      refine HI1.out.mono ?_
      rintro e w' ⟨rfl, rfl⟩
      go_wp2_with (go_at_call 56; refine HI2.out.mono ?_; rintro e w' ⟨rfl, rfl⟩)
      go_ret
      exact ⟨ret_bool H0.out.symm, rfl⟩
    · have HG : Hid (goodF zss = zss.all (rowB c)) := Lib.hid (by unfold goodF; rw [← hcc, hc.1, hb, hb2]; rfl)
      have HGA := Lib.hid (@goodTo_all zss)
      have HGN := Lib.hid (fun k => @good_not zss k)
      unfold goodTo at HGA
      rw [← hcc] at HGA HGN
      rw [hb2] at HI2
      have HC8 : Hid (c ≤ 8) := Lib.hid (by have := inB_yes hb2; omega)
      clear hc hf hb hb2 hcc
      have i1 : (0 : Int) < (len : Int) := by omega
      clear hlen
      go_enter Try.func31, Try.ntmps31
      go_wp2_with fail
      go_at_call 56
      refine HI1.out.mono ?_
      rintro e w' ⟨rfl, rfl⟩
      go_wp2_with fail
      go_at_call 56
      refine HI2.out.mono ?_
      rintro e w' ⟨rfl, rfl⟩
      go_wp2
      go_loop [19] (fun i => ∃ k : Nat, k ≤ len ∧ i = .int .i64 k ∧ Hid (∀ j, j < k → rowB c (row zss j) = true)) (fun i => len - (intOf i).toNat)
      case atStart => exact ⟨0, Nat.zero_le _, rfl, Lib.hid fun j hj => absurd hj (Nat.not_lt_zero _)⟩
      case round =>
        obtain ⟨k, hk, rfl, HT⟩ := hrel
        by_cases hlt : k < len
        · obtain ⟨b', off', ak, ck, he, e1, hrow, _, _⟩ := HC.out.at k hlt
          cases he
          have HA := Lib.hid (fun h => l1All_any w ak _ ck _ 1 999 h hrow)
          have HRB : Hid (rowB c (row zss k) = (decide ((zss.getD k []).length = c) && allB (zss.getD k []) 1 999)) := Lib.hid rfl
          obtain ⟨q, hq⟩ : ∃ q, q = (zss.getD k []).length := ⟨_, rfl⟩
          rw [← hq] at e1 HA HRB
          have i2 : (0 : Int) ≤ (k : Int) := by omega
          have i3 : (k : Int) < (len : Int) := by omega
          clear hq hrow
          by_cases hqc : q = c
          · have hne : ((q : Int) != (c : Int)) = false := by rw [bne_eq_false_iff_eq, hqc]
            have HA := Lib.hid (HA.out (by have := HC8.out; omega))
            rcases hall : allB (zss.getD k []) 1 999 with _ | _
            · have H0 : Hid (goodF zss = false) := Lib.hid (by rw [HG.out]; exact HGN.out k (by have := HZ.out; omega) (by rw [HRB.out, hall, Bool.and_false]))
              rw [hall] at HA
              clear hqc hall
              go_wp2_with (go_at_call 57; refine HA.out.mono ?_; rintro e w' ⟨rfl, rfl⟩)
              go_ret
              exact ⟨ret_bool H0.out.symm, rfl⟩
            · have HT2 : Hid (∀ j, j < k + 1 → rowB c (row zss j) = true) := Lib.hid (fun j hj => by
                by_cases e : j = k
                · subst e; rw [HRB.out, hall, decide_eq_true hqc]; rfl
                · exact HT.out j (by omega))
              rw [hall] at HA
              clear hqc hall
              go_wp2_with (go_at_call 57; refine HA.out.mono ?_; rintro e w' ⟨rfl, rfl⟩)
              go_round
              case rel => exact ⟨k + 1, by omega, by go_num, HT2⟩
              case measure => simp [intOf]; omega
          · have hne : ((q : Int) != (c : Int)) = true := by rw [bne_iff_ne]; omega
            have H0 : Hid (goodF zss = false) := Lib.hid (by rw [HG.out]; exact HGN.out k (by have := HZ.out; omega) (by rw [HRB.out, decide_eq_false hqc, Bool.false_and]))
            clear hqc HA
            go_wp2
            go_ret
            exact ⟨ret_bool H0.out.symm, rfl⟩
        · have H0 : Hid (goodF zss = true) := Lib.hid (by rw [HG.out]; exact HGA.out (fun j hj => HT.out j (by have := HZ.out; omega)))
          go_wp2
          go_ret
          exact ⟨ret_bool H0.out.symm, rfl⟩

def outAreFiles_0 (zss : List (List Int)) : Bool := goodF zss
set_option maxRecDepth 20000 in
set_option maxHeartbeats 400000 in
theorem specAreFiles_any (w : World) (a : Option Addr) (len cap : Nat) (zss : List (List Int)) (hf : LenSS zss) (hc : CameSS w a len zss) :
    Calls Try.prog 25 #[.slice a len cap] w fun e w' => e = .returned (.bool (outAreFiles_0 zss)) ∧ Below w.heap.size w w' := by
  have HG := Lib.hid (fiGood_any w a len cap zss hf hc)
  clear hc hf
  go_enter Try.func25, Try.ntmps25
  go_wp2_with (go_at_call 31; refine HG.out.mono ?_; rintro e w' ⟨rfl, rfl⟩)
  go_ret
  exact ⟨rfl, Below.refl _ _⟩


end Go.Proofs.Ytcljhjfmhnmgnaa
