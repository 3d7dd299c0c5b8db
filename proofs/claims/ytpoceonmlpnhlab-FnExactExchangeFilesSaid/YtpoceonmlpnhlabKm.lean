/- Chapter 6, the program: ExchangeFiles. -/
import Derived.Test.YtpoceonmlpnhlabKd
import Derived.Test.YtpoceonmlpnhlabFia
import Derived.RegionTactic
import Derived.BigRegion
namespace Go.Proofs.Ytpoceonmlpnhlab
open Go.ChangeShapes Go.WideShapes Go.ChangeAt Go.RowKit
open Fi

theorem getD_set2 {α : Type} (l : List α) (i j k : Nat) (a b d : α) (hi : i < l.length) (hj : j < l.length) : ((l.set i a).set j b).getD k d = if k = j then b else if k = i then a else l.getD k d := by
  simp only [List.getD_eq_getElem?_getD, List.getElem?_set, List.length_set]
  by_cases h1 : k = j
  · subst h1; simp [hj]
  · rw [if_neg (fun e => h1 e.symm), if_neg h1]
    by_cases h2 : k = i
    · subst h2; simp [hi]
    · rw [if_neg (fun e => h2 e.symm), if_neg h2]
theorem SS.swap {w : World} {lo hi g n cap : Nat} {vs : List Value} {zss : List (List Int)} (h : SS w lo hi (.slice (some ⟨g, 0, none⟩) n cap) vs zss) (hn : n = vs.length) (i j : Nat) (hi' : i < vs.length) (hj : j < vs.length) :
    SS ((w.setCell ⟨g, i, none⟩ (vs.getD j undef)).setCell ⟨g, j, none⟩ (vs.getD i undef)) lo hi (.slice (some ⟨g, 0, none⟩) n cap) ((vs.set i (vs.getD j undef)).set j (vs.getD i undef)) ((zss.set i (zss.getD j [])).set j (zss.getD i [])) := by
  subst hn
  have hl := h.len
  have hk : ∀ k, k ≠ g → ((w.setCell ⟨g, i, none⟩ (vs.getD j undef)).setCell ⟨g, j, none⟩ (vs.getD i undef)).heap[k]? = w.heap[k]? := fun k hk => by
    rw [Below.heap_setCell _ _ _ _ (fun e => hk (by rw [e])), Below.heap_setCell _ _ _ _ (fun e => hk (by rw [e]))]
  obtain ⟨σ, hσ⟩ : ∃ σ : Nat → Nat, σ = fun k => if k = j then i else if k = i then j else k := ⟨_, rfl⟩
  have hlt : ∀ k, k < vs.length → σ k < vs.length := fun k hk => by rw [hσ]; simp only; split; exact hi'; split; exact hj; exact hk
  have hinj : ∀ k1 k2, k1 ≠ k2 → σ k1 ≠ σ k2 := fun k1 k2 hne => by rw [hσ]; simp only; split <;> split <;> (try split) <;> (try split) <;> omega
  have hv : ∀ k, ((vs.set i (vs.getD j undef)).set j (vs.getD i undef)).getD k undef = vs.getD (σ k) undef := fun k => by
    rw [getD_set2 _ _ _ _ _ _ _ hi' hj, hσ]; simp only
    split
    · rfl
    · split <;> rfl
  have hz : ∀ k, ((zss.set i (zss.getD j [])).set j (zss.getD i [])).getD k [] = zss.getD (σ k) [] := fun k => by
    rw [getD_set2 _ _ _ _ _ _ _ (by omega) (by omega), hσ]; simp only
    split
    · rfl
    · split <;> rfl
  have h1 := (h.own.stored i (vs.getD j undef)).1
  have h2 := (h1.stored j (vs.getD i undef)).1
  refine ⟨by rw [List.length_set, List.length_set]; exact h2, by rw [List.length_set, List.length_set, List.length_set, List.length_set]; exact hl, fun k hkl => ?_, fun k ek => h.lid k ek, fun k1 k2 hk1 hk2 hne k ek => ?_⟩
  · rw [List.length_set, List.length_set] at hkl
    rw [hv, hz]
    exact ⟨(h.row _ (hlt k hkl)).1.same fun b eb => hk b (fun e2 => h.outer rfl _ (hlt k hkl) (e2 ▸ eb)), (h.row _ (hlt k hkl)).2⟩
  · rw [List.length_set, List.length_set] at hk1 hk2
    rw [hv] at ek ⊢
    exact h.apart _ _ (hlt k1 hk1) (hlt k2 hk2) (hinj k1 k2 hne) k ek
theorem OwnSS.swap {w : World} {B g n cap : Nat} {zss : List (List Int)} (h : OwnSS w B (.slice (some ⟨g, 0, none⟩) n cap) zss) (hn : n = zss.length) (i j : Nat) (hi : i < n) (hj : j < n) :
    ∃ xi ci xj cj, w.cell? ⟨g, i, none⟩ = some (.slice xi (zss.getD i []).length ci) ∧ w.cell? ⟨g, j, none⟩ = some (.slice xj (zss.getD j []).length cj) ∧
      OwnSS ((w.setCell ⟨g, i, none⟩ (.slice xj (zss.getD j []).length cj)).setCell ⟨g, j, none⟩ (.slice xi (zss.getD i []).length ci)) B (.slice (some ⟨g, 0, none⟩) n cap) ((zss.set i (zss.getD j [])).set j (zss.getD i [])) := by
  obtain ⟨vs, S⟩ := h
  have hl := S.len
  have c1 := S.cell i (by omega)
  have c2 := S.cell j (by omega)
  obtain ⟨xi, ci, e1⟩ := (S.row i (by omega)).1.any
  obtain ⟨xj, cj, e2⟩ := (S.row j (by omega)).1.any
  have hs := S.swap (hn.trans hl.symm) i j (by omega) (by omega)
  rw [e1] at c1
  rw [e2] at c2
  rw [e1, e2] at hs
  exact ⟨xi, ci, xj, cj, c1, c2, _, by simpa [World.setCell] using hs⟩

theorem ex_swap {zss : List (List Int)} {R C : Nat} (g : Fi.Good zss R C) {i j : Nat} (hi : i < R) (hj : j < R) : (zss.set i (zss.getD j [])).set j (zss.getD i []) = exTo zss i j R := by
  have hR := g.rows
  refine ext_getD [] (by rw [List.length_set, List.length_set, length_exTo]; exact hR) fun k hk => ?_
  rw [List.length_set, List.length_set, hR] at hk
  rw [getD_set2 _ _ _ _ _ _ _ (by omega) (by omega)]
  unfold exTo
  rw [getD_range _ _ _ hk]
  unfold exRow row
  by_cases h1 : k = j
  · rw [if_pos h1]
    by_cases h2 : k = i
    · rw [if_pos h2, ← h1, h2]
    · rw [if_neg h2, if_pos h1]
  · rw [if_neg h1]
    by_cases h2 : k = i
    · rw [if_pos h2, if_pos h2]
    · rw [if_neg h2, if_neg h2, if_neg h1]
set_option maxHeartbeats 4000000 in
theorem implExchangeFiles_any (w : World) (ad : Option Addr) (len cap : Nat) (zss : List (List Int)) (a b : Int) (_wa : (Lit.int .i64 a).wf = true) (_wb : (Lit.int .i64 b).wf = true) (hf : FitsSS zss) (hc : CameSS w ad len zss) :
    Calls Try.prog 23 #[.slice ad len cap, .int .i64 a, .int .i64 b] w fun e w' => ∃ v0, e = .returned (.tuple #[v0, .bool (outExchangeFiles_1 zss a b)]) ∧ OwnSS w' w.heap.size v0 (outExchangeFiles_0 zss a b) ∧ Below w.heap.size w w' := by
  have HG := Lib.hid (areFiles_any w ad len cap zss hf hc)
  have HNO : Hid (exB zss a b = false → outExchangeFiles_0 zss a b = [] ∧ outExchangeFiles_1 zss a b = false) := Lib.hid (fun e => by unfold outExchangeFiles_0 outExchangeFiles_1; rw [e]; exact ⟨rfl, rfl⟩)
  have hl8 : len ≤ 1048576 := by have := hc.1; have := hf.1; omega
  have hzl := hc.1
  clear _wa _wb
  rcases hb : goodF zss with _ | _
  · have H0 := Lib.hid (HNO.out (by unfold exB; rw [hb]; rfl))
    rw [hb] at HG
    clear hb hc hf HNO hzl
    go_enter Try.func23, Try.ntmps23
    go_wp2_with (go_at_call 32; refine HG.out.mono ?_; rintro e w' ⟨rfl, rfl⟩)
    go_ret2
    exact ⟨_, by rw [H0.out.2]; exact rfl, by rw [H0.out.1]; exact ownSS_nil _ _, Below.refl _ _⟩
  rw [hb] at HG
  by_cases h1 : a < 0
  · have H0 := Lib.hid (HNO.out (by unfold exB; rw [inB_no (n := a) (by omega)]; simp))
    clear hb hc hf HNO hzl
    go_enter Try.func23, Try.ntmps23
    go_wp2_with (go_at_call 32; refine HG.out.mono ?_; rintro e w' ⟨rfl, rfl⟩)
    go_ret2
    exact ⟨_, by rw [H0.out.2]; exact rfl, by rw [H0.out.1]; exact ownSS_nil _ _, Below.refl _ _⟩
  by_cases h2 : (len : Int) ≤ a
  · have H0 := Lib.hid (HNO.out (by unfold exB; rw [inB_no (n := a) (by omega)]; simp))
    clear hb hc hf HNO hzl
    go_enter Try.func23, Try.ntmps23
    go_wp2_with (go_at_call 32; refine HG.out.mono ?_; rintro e w' ⟨rfl, rfl⟩)
    go_ret2
    exact ⟨_, by rw [H0.out.2]; exact rfl, by rw [H0.out.1]; exact ownSS_nil _ _, Below.refl _ _⟩
  by_cases h3 : b < 0
  · have H0 := Lib.hid (HNO.out (by unfold exB; rw [inB_no (n := b) (by omega)]; simp))
    clear hb hc hf HNO hzl
    go_enter Try.func23, Try.ntmps23
    go_wp2_with (go_at_call 32; refine HG.out.mono ?_; rintro e w' ⟨rfl, rfl⟩)
    go_ret2
    exact ⟨_, by rw [H0.out.2]; exact rfl, by rw [H0.out.1]; exact ownSS_nil _ _, Below.refl _ _⟩
  by_cases h4 : (len : Int) ≤ b
  · have H0 := Lib.hid (HNO.out (by unfold exB; rw [inB_no (n := b) (by omega)]; simp))
    clear hb hc hf HNO hzl
    go_enter Try.func23, Try.ntmps23
    go_wp2_with (go_at_call 32; refine HG.out.mono ?_; rintro e w' ⟨rfl, rfl⟩)
    go_ret2
    exact ⟨_, by rw [H0.out.2]; exact rfl, by rw [H0.out.1]; exact ownSS_nil _ _, Below.refl _ _⟩
  by_cases hq : a = b
  · have H0 := Lib.hid (HNO.out (by unfold exB; rw [decide_eq_false (fun e => e hq)]; simp))
    have hbe : (a == b) = true := by rw [beq_iff_eq]; exact hq
    clear hq
    clear hb hc hf HNO hzl
    go_enter Try.func23, Try.ntmps23
    go_wp2_with (go_at_call 32; refine HG.out.mono ?_; rintro e w' ⟨rfl, rfl⟩)
    go_ret2
    exact ⟨_, by rw [H0.out.2]; exact rfl, by rw [H0.out.1]; exact ownSS_nil _ _, Below.refl _ _⟩
  have hbe : (a == b) = false := by rw [beq_eq_false_iff_ne]; exact hq
  obtain ⟨i, rfl⟩ : ∃ i : Nat, a = (i : Int) := ⟨a.toNat, by omega⟩
  obtain ⟨j, rfl⟩ : ∃ j : Nat, b = (j : Int) := ⟨b.toNat, by omega⟩
  have g := good_of hb
  have hi : i < len := by omega
  have hj : j < len := by omega
  have HYE : Hid (outExchangeFiles_0 zss (i : Int) (j : Int) = exTo zss i j len ∧ outExchangeFiles_1 zss (i : Int) (j : Int) = true) := Lib.hid (by
    have e : exB zss (i : Int) (j : Int) = true := by unfold exB; rw [hb, inB_of ⟨by omega, by omega⟩, inB_of ⟨by omega, by omega⟩, decide_eq_true hq]; rfl
    unfold outExchangeFiles_0 outExchangeFiles_1; rw [e, Int.toNat_natCast, Int.toNat_natCast, hzl]; exact ⟨rfl, rfl⟩)
  have HEX : Hid ((zss.set i (zss.getD j [])).set j (zss.getD i []) = exTo zss i j len) := Lib.hid (by rw [← hzl]; exact ex_swap g (by omega) (by omega))
  have HBL := Lib.hid (blockOf_any w ad len cap zss _ _ g hc)
  have HZ := Lib.hid hzl
  have HCO : Hid ((zss.getD i []).length = (row zss 0).length ∧ (zss.getD j []).length = (row zss 0).length) := Lib.hid ⟨g.cols i (by omega), g.cols j (by omega)⟩
  have i1 : (0 : Int) ≤ (i : Int) := by omega
  have i2 : (i : Int) < (len : Int) := by omega
  have i3 : (0 : Int) ≤ (j : Int) := by omega
  have i4 : (j : Int) < (len : Int) := by omega
  have hij : i ≠ j := by omega
  have HIJ := Lib.hid hij
  clear hb hc hf HNO g hzl hq h1 h2 h3 h4 hij
  go_enter Try.func23, Try.ntmps23
  have h1 : ¬ (i : Int) < 0 := by omega
  have h2 : ¬ (len : Int) ≤ (i : Int) := by omega
  have h3 : ¬ (j : Int) < 0 := by omega
  have h4 : ¬ (len : Int) ≤ (j : Int) := by omega
  go_wp2_with fail
  go_at_call 32
  refine HG.out.mono ?_
  rintro e w' ⟨rfl, rfl⟩
  go_wp2_with fail
  go_at_call 34
  refine HBL.out.mono ?_
  rintro e w2 ⟨bs, rfl, hi2, b2⟩
  have HI2 := Lib.hid hi2
  have L2 := Lib.hid b2
  clear hi2 b2 HBL
  go_wp2_with fail
  go_at_call 49
  refine (lists_any w2 bs _ _ _ HI2.out).mono ?_
  rintro e w3 ⟨v, rfl, o3, b3⟩
  have L3 : Hid (Below w.heap.size w w3) := Lib.hid (L2.out.trans (b3.mono L2.out.size))
  obtain ⟨gs, cp, rfl, hgl⟩ : ∃ gs cp, v = .slice (some ⟨gs, 0, none⟩) len cp ∧ w.heap.size ≤ gs := by
    have hw := L2.out.size
    obtain ⟨vs, S⟩ := o3
    have hl := S.len
    have hz := HZ.out
    rcases S.own.2 with ⟨_, h0⟩ | ⟨g, cap, cur, e, hB, _⟩
    · omega
    · exact ⟨g, cap, by rw [e, hl, hz], by omega⟩
  obtain ⟨xi, ci, xj, cj, e1, e2, o4⟩ := o3.swap HZ.out.symm i j hi hj
  have f1 := o3.free HZ.out.symm i
  have f2 := o3.free HZ.out.symm j
  rw [HCO.out.1] at e1 o4
  rw [HCO.out.2] at e2 o4
  rw [HEX.out] at o4
  obtain ⟨C, hC⟩ : ∃ C, C = (row zss 0).length := ⟨_, rfl⟩
  rw [← hC] at e1 e2 o4
  have O4 := Lib.hid (o4.mono L2.out.size)
  have L4 : Hid (Below w.heap.size w ((w3.setCell ⟨gs, i, none⟩ (.slice xj C cj)).setCell ⟨gs, j, none⟩ (.slice xi C ci))) := Lib.hid ((L3.out.setCell (p := ⟨gs, i, none⟩) hgl _).setCell (p := ⟨gs, j, none⟩) hgl _)
  have hne : (⟨gs, i, none⟩ : Addr) ≠ ⟨gs, j, none⟩ := fun e => by injection e with _ e; exact HIJ.out e
  have hne2 : (⟨gs, j, none⟩ : Addr) ≠ ⟨gs, i, none⟩ := fun e => hne e.symm
  clear o3 b3 o4 hC L3 hgl
  go_wp2_with fail
  go_region
  go_wp2
  go_ret2
  exact ⟨_, by rw [HYE.out.2]; exact rfl, by rw [HYE.out.1]; exact O4.out.below (C := w3.heap.size) ⟨rfl, rfl, rfl, Nat.le_refl _, fun _ _ => rfl⟩ (by simp [World.setCell]), ⟨L4.out.os, L4.out.tape, L4.out.output, L4.out.size, L4.out.block⟩⟩

end Go.Proofs.Ytpoceonmlpnhlab
