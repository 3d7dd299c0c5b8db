/- Chapter 7, the program: runs; RunsTo, FewestRuns, FirstsTo, FewestFirst. -/
import Derived.Test.YtkdpjimbhpclaaaVf
import Derived.Test.YtkdpjimbhpclaaaAppS
namespace Go.Proofs.Ytkdpjimbhpclaaa
open Go.ChangeShapes Go.WideShapes Go.ChangeAt Go.RowKit
open Rx Od Ed

theorem getD_cast (E : List Nat) (k : Nat) : (E.map fun k : Nat => (k : Int)).getD k 0 = ((E.getD k 0 : Nat) : Int) := by
  simp only [List.getD_eq_getElem?_getD, List.getElem?_map]
  cases E[k]? <;> rfl
set_option maxRecDepth 20000 in
set_option maxHeartbeats 2000000 in
theorem runs_p (w : World) (b N : Nat) (d : List Bool) (q : Nat) (hF : Fst w b N (edS d)) (hN : N ≤ 1000) (hd : d.length ≤ 40) (hq : (edges d (d.length + 1)).length = 2 * q) :
    Calls Try.prog 50 #[.map (some b)] w fun e w' => ∃ v, e = .returned v ∧ OwnSS w' w.heap.size v (pr (edges d (d.length + 1)) q) ∧ Below w.heap.size w w' := by
  have HI := Lib.hid (inOrder_p w b N (d.length + 1) (edS d) hF hN (edS_in d))
  rw [keysS_ed] at HI
  have HLT : Hid (∀ k, k < 2 * q → (edges d (d.length + 1)).getD k 0 ≤ 41) := Lib.hid (fun k hk => by
    have hi : k < (edges d (d.length + 1)).length := by omega
    rw [List.getD_eq_getElem?_getD, List.getElem?_eq_getElem hi]
    have := edges_lt (List.getElem_mem hi)
    show (edges d (d.length + 1))[k] ≤ 41
    omega)
  have hql := edges_len d (d.length + 1)
  have hq20 : q ≤ 20 := by omega
  obtain ⟨E, hE⟩ : ∃ E, E = edges d (d.length + 1) := ⟨_, rfl⟩
  rw [← hE] at HI HLT hq ⊢
  have HQ := Lib.hid hq
  clear hE hq hql hF
  go_enter Try.func50, Try.ntmps50
  go_wp2_with fail
  go_at_call 52
  refine HI.out.mono ?_
  rintro e w2 ⟨v, rfl, O2, B2⟩
  obtain ⟨ao, cap, rfl⟩ := O2.any
  have HO2 := Lib.hid O2
  have HB2 := Lib.hid B2
  have hlen : (E.map fun k : Nat => (k : Int)).length = 2 * q := by rw [List.length_map]; exact HQ.out
  rw [hlen] at HO2 ⊢
  have HLN := Lib.hid hlen
  clear O2 B2 hlen
  go_wp2
  go_loopw [3, 5] (fun v i wr => ∃ j : Nat, j ≤ q ∧ i = .int .i64 ((2 * j : Nat) : Int) ∧ Hid (OwnSS wr w2.heap.size v (pr E j)) ∧ Hid (Below w2.heap.size w2 wr)) (fun _ i _ => 2 * q - (intOf i).toNat)
  case atStart => exact ⟨0, Nat.zero_le _, rfl, Lib.hid (ownSS_nil _ _), Lib.hid (Below.refl _ _)⟩
  case round =>
    obtain ⟨j, hj, rfl, HO, HB⟩ := hrel
    have hz := HB.out.size
    obtain ⟨J, hJ⟩ : ∃ J, J = 2 * j := ⟨_, rfl⟩
    rw [← hJ]
    by_cases hlt : j < q
    · obtain ⟨g, cap2, hgv, _, hgl⟩ := HO2.out.point (by rw [HLN.out]; omega)
      injection hgv with hg1 hg2 hg3
      subst hg1 hg3
      clear hg2
      have e1 := (HB.out.cell (World.block_lt_of_cell? w2 _ (HO2.out.cell HLN.out.symm J (by rw [HLN.out]; omega)))).trans (HO2.out.cell HLN.out.symm J (by rw [HLN.out]; omega))
      have e2 := (HB.out.cell (World.block_lt_of_cell? w2 _ (HO2.out.cell HLN.out.symm (J + 1) (by rw [HLN.out]; omega)))).trans (HO2.out.cell HLN.out.symm (J + 1) (by rw [HLN.out]; omega))
      rw [getD_cast] at e1 e2
      have hx1 := HLT.out J (by omega)
      have hx2 := HLT.out (J + 1) (by omega)
      have HS := Lib.hid (pr_succ E j)
      rw [← hJ] at HS
      obtain ⟨x, hx⟩ : ∃ x, x = E.getD J 0 := ⟨_, rfl⟩
      obtain ⟨y, hy⟩ : ∃ y, y = E.getD (J + 1) 0 := ⟨_, rfl⟩
      rw [← hx] at e1 hx1 HS
      rw [← hy] at e2 hx2 HS
      have HSC : Hid (∀ w5, Below wr.heap.size wr w5 → w5.cell? ⟨g, J, none⟩ = some (.int .i64 (x : Int)) ∧ w5.cell? ⟨g, J + 1, none⟩ = some (.int .i64 (y : Int))) := Lib.hid (fun w5 h5 => ⟨(h5.cell (World.block_lt_of_cell? wr _ e1)).trans e1, (h5.cell (World.block_lt_of_cell? wr _ e2)).trans e2⟩)
      have HSD : Hid (∀ wx w5, Below wr.heap.size wr wx → Below w2.heap.size wx w5 → w5.cell? ⟨g, J, none⟩ = some (.int .i64 (x : Int)) ∧ w5.cell? ⟨g, J + 1, none⟩ = some (.int .i64 (y : Int))) := Lib.hid (fun wx w5 hx h5 => ⟨(h5.cell hgl).trans (HSC.out wx hx).1, (h5.cell hgl).trans (HSC.out wx hx).2⟩)
      have ew : IntKind.i64.wrap ((y : Int) - 1) = (y : Int) - 1 := IntWalk.i64_in _ (by omega)
      have ew2 : IntKind.i64.wrap ((J : Int) + 1) = (J : Int) + 1 := IntWalk.i64_in _ (by omega)
      have i1 : (0 : Int) ≤ (J : Int) := by omega
      have i2 : (J : Int) < ((2 * q : Nat) : Int) := by omega
      have i3 : (J : Int) + 1 < ((2 * q : Nat) : Int) := by omega
      have i4 : ((J : Int) + 1).toNat = J + 1 := by omega
      have i5 : (0 : Int) ≤ (J : Int) + 1 := by omega
      have hbl : (pr E j).length ≤ 1000000000 := by rw [length_pr]; omega
      have HJ := Lib.hid hJ
      clear hx hy hgl hJ
      go_wp2_with fail
      go_region_held_law (fun w' => w'.cell? ⟨g, J, none⟩ = some (.int .i64 (x : Int)) ∧ w'.cell? ⟨g, J + 1, none⟩ = some (.int .i64 (y : Int))) (first | go_keep | (exact HSD.out _ _ (((drewN_down wr _)).alloc (Nat.le_refl _) _) hB5))
        ((refine step_appRow rfl _ _ rfl _ wr _ _ _ _ _ _ rfl rfl (by simp) HO.out (((drewN_down wr 1)).alloc (Nat.le_refl _) _) (own_two wr.drew _ _) hz hbl ?_; intro v' w5 hO hB5))
      try rw [ew] at hO
      have HO5 : Hid (OwnSS w5 w2.heap.size v' (pr E (j + 1))) := Lib.hid (by rw [HS.out]; exact hO)
      have HB5 : Hid (Below w2.heap.size w2 w5) := Lib.hid (HB.out.trans (((((drewN_down wr _)).alloc (Nat.le_refl _) _).mono HB.out.size).trans hB5))
      clear hO hB5 ew ew2
      go_wp2
      go_roundw
      case rel => exact ⟨j + 1, by omega, by have := HJ.out; go_num, HO5, HB5⟩
      case measure => have := HJ.out; simp [intOf]; omega
    · have HE : Hid (pr E j = pr E q) := Lib.hid (by rw [show j = q by omega])
      have i2 : ¬ (J : Int) < ((2 * q : Nat) : Int) := by omega
      clear hJ
      go_wp2
      go_ret
      exact ⟨_, rfl, by rw [← HE.out]; exact HO.out.mono HB2.out.size, HB2.out.trans (HB.out.mono HB2.out.size)⟩

set_option maxHeartbeats 1000000 in
theorem implRunsTo_any (w : World) (a b : ByteArray) (_wa : a.size ≤ maxLen) (_wb : b.size ≤ maxLen) (hla : a.size ≤ 1048576) (hlb : b.size ≤ 1048576) :
    Calls Try.prog 22 #[.string a, .string b] w fun e w' => ∃ v, e = .returned (.tuple #[v, .bool (outRunsTo_1 a b)]) ∧ OwnSS w' w.heap.size v (outRunsTo_0 a b) ∧ Below w.heap.size w w' := by
  have HG := Lib.hid (areOrdered_p a b w hla hlb)
  clear _wa _wb
  rcases h1 : twoB a b with _ | _
  · have H0 : Hid (outRunsTo_0 a b = [] ∧ outRunsTo_1 a b = false) := Lib.hid (by unfold outRunsTo_0 outRunsTo_1; rw [h1]; exact ⟨rfl, rfl⟩)
    rw [h1] at HG
    clear h1
    go_enter Try.func22, Try.ntmps22
    go_wp2_with (go_at_call 48; refine HG.out.mono ?_; rintro e w' ⟨rfl, rfl⟩)
    go_ret2
    exact ⟨_, by rw [H0.out.2]; exact rfl, by rw [H0.out.1]; exact ownSS_nil _ _, Below.refl _ _⟩
  · obtain ⟨l, m, rfl, rfl, l1, l2, hm⟩ := two_rows h1
    obtain ⟨q, hq, hr⟩ := runs_all l m
    have H0 : Hid (outRunsTo_0 (Rw.str l) (Rw.str m) = pr (edges (dif l m) (l.length + 1)) q ∧ outRunsTo_1 (Rw.str l) (Rw.str m) = true) := Lib.hid (by unfold outRunsTo_0 outRunsTo_1; rw [h1, rowOf_str, rowOf_str, if_pos rfl, hr]; exact ⟨rfl, rfl⟩)
    rw [h1] at HG
    have HD := Lib.hid (differences_p w l m l2 hm)
    have HR := Lib.hid (fun w2 (h : Fst w2 w.heap.size 100 (edS (dif l m))) => runs_p w2 w.heap.size 100 (dif l m) q h (by omega) (by rw [length_dif]; exact l2) (by rw [length_dif]; exact hq))
    rw [length_dif] at HR
    obtain ⟨s, hs⟩ : ∃ s, s = Rw.str l := ⟨_, rfl⟩
    obtain ⟨t, ht⟩ : ∃ t, t = Rw.str m := ⟨_, rfl⟩
    rw [← hs, ← ht] at HG H0 HD ⊢
    clear h1 hs ht hq hr hm
    go_enter Try.func22, Try.ntmps22
    go_wp2_with fail
    go_at_call 48
    refine HG.out.mono ?_
    rintro e w' ⟨rfl, rfl⟩
    go_wp2_with fail
    go_at_call 49
    refine HD.out.mono ?_
    rintro e w2 ⟨rfl, F2, B2⟩
    have HB2 := Lib.hid B2
    have HC := Lib.hid (HR.out w2 F2)
    clear B2 F2
    go_wp2_with fail
    go_at_call 50
    refine HC.out.mono ?_
    rintro e w3 ⟨v, rfl, O3, B3⟩
    have HO3 := Lib.hid (O3.mono HB2.out.size)
    have HB3 := Lib.hid (HB2.out.trans (B3.mono HB2.out.size))
    clear O3 B3
    go_wp2
    go_ret2
    exact ⟨_, by rw [H0.out.2]; exact rfl, by rw [H0.out.1]; exact HO3.out, HB3.out⟩

set_option maxHeartbeats 1000000 in
theorem implFewestRuns_any (w : World) (a b : ByteArray) (_wa : a.size ≤ maxLen) (_wb : b.size ≤ maxLen) (hla : a.size ≤ 1048576) (hlb : b.size ≤ 1048576) :
    Calls Try.prog 20 #[.string a, .string b] w fun e w' => e = .returned (.tuple #[.int .i64 (outFewestRuns_0 a b), .bool (outFewestRuns_1 a b)]) ∧ Below w.heap.size w w' := by
  have HR := Lib.hid (implRunsTo_any w a b _wa _wb hla hlb)
  have H0 : Hid (outFewestRuns_0 a b = (((outRunsTo_0 a b).length : Nat) : Int) ∧ outFewestRuns_1 a b = outRunsTo_1 a b) := Lib.hid (by
    unfold outFewestRuns_0 outFewestRuns_1 outRunsTo_0 outRunsTo_1
    cases twoB a b <;> exact ⟨rfl, rfl⟩)
  obtain ⟨zss, hz⟩ : ∃ z, z = outRunsTo_0 a b := ⟨_, rfl⟩
  obtain ⟨o, ho⟩ : ∃ z, z = outRunsTo_1 a b := ⟨_, rfl⟩
  rw [← hz, ← ho] at HR H0
  clear _wa _wb hz ho
  go_enter Try.func20, Try.ntmps20
  go_wp2_with fail
  go_at_call 22
  refine HR.out.mono ?_
  rintro e w2 ⟨v, rfl, O2, B2⟩
  obtain ⟨ao, cap, rfl, _⟩ := O2.cameC
  have HB2 := Lib.hid B2
  clear O2 B2
  go_wp2
  go_ret2
  exact ⟨by rw [H0.out.1, H0.out.2]; exact rfl, HB2.out⟩

theorem firsts_keys (l m : List Bool) : keysS (fun x => edS (dif l m) x && decide (x ≠ 0)) (l.length + 1) = firTo l m l.length := by
  rw [fir_edges l m l.length (Nat.le_refl _)]
  unfold keysS edges
  rw [List.filter_filter]
  congr 1
  refine List.filter_congr fun k _ => ?_
  show (edS (dif l m) (k : Int) && decide ((k : Int) ≠ 0)) = _
  rw [edS_nat, Bool.and_comm, show decide ((k : Int) ≠ 0) = decide (k ≠ 0) from decide_eq_decide.2 (by omega)]
set_option maxHeartbeats 1000000 in
theorem implFirstsTo_any (w : World) (a b : ByteArray) (_wa : a.size ≤ maxLen) (_wb : b.size ≤ maxLen) (hla : a.size ≤ 1048576) (hlb : b.size ≤ 1048576) :
    Calls Try.prog 29 #[.string a, .string b] w fun e w' => ∃ v, e = .returned (.tuple #[v, .bool (outFirstsTo_1 a b)]) ∧ Own w' w.heap.size v (outFirstsTo_0 a b) ∧ Below w.heap.size w w' := by
  have HG := Lib.hid (areOrdered_p a b w hla hlb)
  clear _wa _wb
  rcases h1 : twoB a b with _ | _
  · have H0 : Hid (outFirstsTo_0 a b = [] ∧ outFirstsTo_1 a b = false) := Lib.hid (by unfold outFirstsTo_0 outFirstsTo_1; rw [h1]; exact ⟨rfl, rfl⟩)
    rw [h1] at HG
    clear h1
    go_enter Try.func29, Try.ntmps29
    go_wp2_with (go_at_call 48; refine HG.out.mono ?_; rintro e w' ⟨rfl, rfl⟩)
    go_ret2
    exact ⟨_, by rw [H0.out.2]; exact rfl, by rw [H0.out.1]; exact own_nil _ _, Below.refl _ _⟩
  · obtain ⟨l, m, rfl, rfl, l1, l2, hm⟩ := two_rows h1
    have H0 : Hid (outFirstsTo_0 (Rw.str l) (Rw.str m) = keysS (fun x => edS (dif l m) x && decide (x ≠ 0)) (l.length + 1) ∧ outFirstsTo_1 (Rw.str l) (Rw.str m) = true) := Lib.hid (by unfold outFirstsTo_0 outFirstsTo_1; rw [h1, rowOf_str, rowOf_str, if_pos rfl, firsts_keys]; exact ⟨rfl, rfl⟩)
    rw [h1] at HG
    have HD := Lib.hid (differences_p w l m l2 hm)
    have HR := Lib.hid (fun w2 (h : Fst w2 w.heap.size 100 (fun x => edS (dif l m) x && decide (x ≠ 0))) => inOrder_p w2 w.heap.size 100 (l.length + 1) _ h (by omega) (fun x hx => by
      rw [Bool.and_eq_true] at hx
      have := edS_in _ _ hx.1
      rw [length_dif] at this
      exact this))
    obtain ⟨s, hs⟩ : ∃ s, s = Rw.str l := ⟨_, rfl⟩
    obtain ⟨t, ht⟩ : ∃ t, t = Rw.str m := ⟨_, rfl⟩
    rw [← hs, ← ht] at HG H0 HD ⊢
    have hw0 : (Lit.int .i64 0).wf = true := rfl
    clear h1 hs ht hm
    go_enter Try.func29, Try.ntmps29
    go_wp2_with fail
    go_at_call 48
    refine HG.out.mono ?_
    rintro e w' ⟨rfl, rfl⟩
    go_wp2_with fail
    go_at_call 49
    refine HD.out.mono ?_
    rintro e w2 ⟨rfl, F2, B2⟩
    have HB2 := Lib.hid B2
    have HF2 := Lib.hid F2
    have hgl := F2.lt
    clear B2 F2
    go_wp2_with (at_delete; refine wpList_del _ rfl _ _ _ _ rfl rfl Try.underlying55 rfl HF2.out 0 rfl hw0 ?_; intro w3 hF3 hG3; refine Stop.on ?_)
    have HC := Lib.hid (HR.out w3 hF3)
    have HB3 : Hid (Below w.heap.size w w3) := Lib.hid (grownBy_below HB2.out hG3 (Nat.le_refl _) (Nat.le_refl _))
    clear hF3 hG3
    refine ⟨?_⟩
    go_wp2_with fail
    go_at_call 52
    refine HC.out.mono ?_
    rintro e w4 ⟨v, rfl, O4, B4⟩
    have HO4 := Lib.hid (O4.mono HB3.out.size)
    have HB4 := Lib.hid (HB3.out.trans (B4.mono HB3.out.size))
    clear O4 B4
    go_wp2
    go_ret2
    exact ⟨_, by rw [H0.out.2]; exact rfl, by rw [H0.out.1]; exact HO4.out, HB4.out⟩

set_option maxHeartbeats 1000000 in
theorem implFewestFirst_any (w : World) (a b : ByteArray) (_wa : a.size ≤ maxLen) (_wb : b.size ≤ maxLen) (hla : a.size ≤ 1048576) (hlb : b.size ≤ 1048576) :
    Calls Try.prog 27 #[.string a, .string b] w fun e w' => e = .returned (.tuple #[.int .i64 (outFewestFirst_0 a b), .bool (outFewestFirst_1 a b)]) ∧ Below w.heap.size w w' := by
  have HR := Lib.hid (implFirstsTo_any w a b _wa _wb hla hlb)
  have H0 : Hid (outFewestFirst_0 a b = (((outFirstsTo_0 a b).length : Nat) : Int) ∧ outFewestFirst_1 a b = outFirstsTo_1 a b) := Lib.hid (by
    unfold outFewestFirst_0 outFewestFirst_1 outFirstsTo_0 outFirstsTo_1
    cases twoB a b <;> exact ⟨rfl, rfl⟩)
  obtain ⟨zss, hz⟩ : ∃ z, z = outFirstsTo_0 a b := ⟨_, rfl⟩
  obtain ⟨o, ho⟩ : ∃ z, z = outFirstsTo_1 a b := ⟨_, rfl⟩
  rw [← hz, ← ho] at HR H0
  clear _wa _wb hz ho
  go_enter Try.func27, Try.ntmps27
  go_wp2_with fail
  go_at_call 29
  refine HR.out.mono ?_
  rintro e w2 ⟨v, rfl, O2, B2⟩
  obtain ⟨ao, cap, rfl⟩ := O2.any
  have HB2 := Lib.hid B2
  clear O2 B2
  go_wp2
  go_ret2
  exact ⟨by rw [H0.out.1, H0.out.2]; exact rfl, HB2.out⟩

end Go.Proofs.Ytkdpjimbhpclaaa
