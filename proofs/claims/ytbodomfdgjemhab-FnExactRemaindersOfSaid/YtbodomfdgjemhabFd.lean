/- Chapter 3, the program's RemaindersOf. -/
import Derived.Test.YtbodomfdgjemhabFc
namespace Go.Proofs.Ytbodomfdgjemhab
open Go.ChangeShapes Go.WideShapes Go.ChangeAt Go.RowKit
open Fo

theorem over_take (m : Nat) (cs : List Nat)  : (first6 (overF m cs) cs.length).take cs.length = (asInts cs).map (fun z => (m : Int) % z) := by
  unfold first6 fillTo
  rw [List.take_append_of_le_length (by rw [length_upTo]; exact Nat.le_refl _), List.take_of_length_le (by rw [length_upTo]; exact Nat.le_refl _)]
  refine ext_getD 0 (by rw [length_upTo, List.length_map, asInts_len]) fun i hi => ?_
  rw [length_upTo] at hi
  rw [getD_upTo _ _ _ hi]
  unfold overF
  simp only [List.getD_eq_getElem?_getD, List.getElem?_map, asInts, List.getElem?_eq_getElem hi, Option.map_some, Option.getD_some]
  rw [Int.natCast_emod]
set_option maxHeartbeats 1000000 in
theorem implRemaindersOf_any (w : World) (n : Int) (a : Option Addr) (len cap : Nat) (zs : List Int) (_wn : (Lit.int .i64 n).wf = true) (hl : len ≤ 1048576) (hc : Came w a len zs) :
    Calls Try.prog 28 #[.int .i64 n, .slice a len cap] w fun e w' => ∃ v0, e = .returned (.tuple #[v0, .bool (outRemaindersOf_1 n zs)]) ∧ Own w' w.heap.size v0 (outRemaindersOf_0 n zs) ∧ Below w.heap.size w w' := by
  have HH := Lib.hid (areSoldiers_any n w)
  have HF := Lib.hid (areColumns_any w a len cap zs (by omega) hc)
  clear _wn
  rcases hb : inB n 1 1000000 with _ | _
  · have H0 : Hid (outRemaindersOf_0 n zs = [] ∧ outRemaindersOf_1 n zs = false) := Lib.hid (by unfold outRemaindersOf_0 outRemaindersOf_1; rw [hb]; exact ⟨rfl, rfl⟩)
    rw [hb] at HH
    clear hb hc
    go_enter Try.func28, Try.ntmps28
    go_wp2_with (go_at_call 38; refine HH.out.mono ?_; rintro e w' ⟨rfl, rfl⟩)
    go_ret2
    exact ⟨_, by rw [H0.out.2]; exact rfl, by rw [H0.out.1]; exact own_nil _ _, Below.refl _ _⟩
  · rcases hb2 : colsB zs with _ | _
    · have H0 : Hid (outRemaindersOf_0 n zs = [] ∧ outRemaindersOf_1 n zs = false) := Lib.hid (by unfold outRemaindersOf_0 outRemaindersOf_1; rw [hb, hb2]; exact ⟨rfl, rfl⟩)
      rw [hb] at HH
      rw [hb2] at HF
      clear hb hb2 hc
      go_enter Try.func28, Try.ntmps28
      go_wp2_with (first | (go_at_call 38; refine HH.out.mono ?_; rintro e w' ⟨rfl, rfl⟩) | (go_at_call 48; refine HF.out.mono ?_; rintro e w' ⟨rfl, rfl⟩))
      go_ret2
      exact ⟨_, by rw [H0.out.2]; exact rfl, by rw [H0.out.1]; exact own_nil _ _, Below.refl _ _⟩
    · have H0 : Hid (outRemaindersOf_0 n zs = zs.map (fun z => n % z) ∧ outRemaindersOf_1 n zs = true) := Lib.hid (by unfold outRemaindersOf_0 outRemaindersOf_1; rw [hb, hb2]; exact ⟨rfl, rfl⟩)
      obtain ⟨m, rfl, hm1, hm2⟩ := sold_nat hb
      obtain ⟨cs, rfl, h1, h2, h3⟩ := cols_nat hb2
      have hL : cs.length = len := by rw [← asInts_len]; exact hc.1
      have HT := Lib.hid (over_take m cs)
      have hcol := Lib.hid (col_bd h3)
      have HC := Lib.hid (CameN.of hc)
      rw [hb] at HH
      rw [hb2] at HF
      obtain ⟨rs, hrs⟩ : ∃ rs, rs = (asInts cs).map (fun z => (m : Int) % z) := ⟨_, rfl⟩
      rw [← hrs] at HT H0
      rw [hL] at HT h1 h2
      have HLN : Hid ((first6 (overF m cs) len).length = 6) := Lib.hid (length_first6 _ _ h2)
      have HX : Hid (∀ (w2 : World) (g : Nat), Below w.heap.size w w2 → w2.cell? ⟨g, 0, none⟩ = some (.int .i64 (m : Int)) → Calls Try.prog 61 #[.slice a len cap, .pointer (some ⟨g, 0, none⟩)] w2 fun e w' => e = .returned (.agg (cellsI (first6 (overF m cs) len)).toArray) ∧ Below w2.heap.size w2 w') := Lib.hid (fun w2 g hb hg => overOf_any w2 m (by omega) g hg a len cap cs h2 hcol.out (HC.out.below hb))
      have HV := Lib.hid (leftOver_any (m : Int) w)
      obtain ⟨f1, hf1⟩ : ∃ f, f = first6 (overF m cs) len := ⟨_, rfl⟩
      rw [← hf1] at HT HLN HX
      clear hb hb2 hc hrs h3 hL hf1 HC hcol
      go_enter Try.func28, Try.ntmps28
      go_wp2_with fail
      go_at_call 38
      refine HH.out.mono ?_
      rintro e w' ⟨rfl, rfl⟩
      go_wp2_with fail
      go_at_call 48
      refine HF.out.mono ?_
      rintro e w' ⟨rfl, rfl⟩
      go_wp2_with fail
      go_at_call 49
      refine HV.out.mono ?_
      rintro e w2 ⟨g0, rfl, hg0, b2⟩
      have HX2 := Lib.hid (HX.out w2 g0 b2 hg0)
      have B2 := Lib.hid b2
      clear b2 hg0
      go_wp2_with fail
      go_at_call 61
      refine HX2.out.mono ?_
      rintro e w3 ⟨rfl, b3⟩
      have B3 : Hid (Below w.heap.size w w3) := Lib.hid (B2.out.trans (b3.mono B2.out.size))
      clear b3
      go_wp2_with (refine wpList_new 51 rfl rfl _ _ Try.info_per ?_; intro w4 g G4 K4 L4)
      refine ⟨?_⟩
      have B4 : Hid (Below w.heap.size w w4) := Lib.hid (B3.out.trans (L4.out.mono B3.out.size))
      have g4 : Hid (w.heap.size ≤ g) := Lib.hid (by have := G4.out; have := B3.out.size; omega)
      go_wp2_with (refine wpList_storeAll 51 _ _ rfl rfl g _ (cellsI zer6) (cellsI f1) 6 Try.size_per rfl rfl K4 (by rw [length_cellsI, HLN.out]) (by rw [length_cellsI, length_zer6]) (cellsI_one _) ?_; intro w5 K5 L5)
      refine ⟨?_⟩
      have B5 : Hid (Below w.heap.size w w5) := Lib.hid (grownBy_below B4.out L5.out (Nat.le_refl _) g4.out)
      have HK := Lib.hid (clone_any w5 ⟨g, 0, none⟩ len 6 rs (by omega) (by have := K5.out.cameI len (by rw [HLN.out]; omega); rw [HT.out] at this; exact this))
      have i1 : (0 : Int) ≤ (len : Int) := by omega
      have i2 : (len : Int) ≤ 6 := by omega
      go_wp2_with fail
      go_at_call 50
      refine HK.out.mono ?_
      rintro e w6 ⟨v, rfl, o6, b6⟩
      have O6 : Hid (Own w6 w.heap.size v rs) := Lib.hid (o6.mono B5.out.size)
      have B6 : Hid (Below w.heap.size w w6) := Lib.hid (B5.out.trans (b6.mono B5.out.size))
      clear o6 b6
      go_wp2
      go_ret2
      exact ⟨_, by rw [H0.out.2]; exact rfl, by rw [H0.out.1]; exact O6.out, B6.out⟩

end Go.Proofs.Ytbodomfdgjemhab
