/- Chapter 7, the model: odRuns; FewestRuns, RunsTo. -/
import Derived.Test.YtkdpjimbhpclaaaOdb
import Derived.Test.YtkdpjimbhpclaaaOwnSS
namespace Go.Proofs.Ytkdpjimbhpclaaa
open Go.ChangeShapes Go.WideShapes Go.ChangeAt Go.RowKit
open Rx Od

namespace Od
def rd (zss : List (List Int)) (i : Nat) : List Int := zss.getD i []
/-- the parts among the first k -/
def runsTo (l m : List Bool) : Nat → List (List Int)
  | 0 => []
  | k + 1 =>
    if difB l m k then
      if 0 < (runsTo l m k).length ∧ (rd (runsTo l m k) ((runsTo l m k).length - 1)).getD 1 0 = (k : Int) - 1 then
        (runsTo l m k).set ((runsTo l m k).length - 1) ((rd (runsTo l m k) ((runsTo l m k).length - 1)).set 1 (k : Int))
      else runsTo l m k ++ [[(k : Int), (k : Int)]]
    else runsTo l m k
theorem runsTo_ok (l m : List Bool) : ∀ k, (runsTo l m k).length ≤ k ∧ ∀ x ∈ runsTo l m k, x.length = 2
  | 0 => ⟨Nat.le_refl _, by simp [runsTo]⟩
  | k + 1 => by
    have h := runsTo_ok l m k
    rw [runsTo]
    split
    · split
      · rename_i h2
        refine ⟨by rw [List.length_set]; omega, fun x hx => ?_⟩
        rcases List.mem_or_eq_of_mem_set hx with hx | hx
        · exact h.2 x hx
        · rw [hx, List.length_set]
          refine h.2 _ ?_
          unfold rd
          simp only [List.getD_eq_getElem?_getD, List.getElem?_eq_getElem (show (runsTo l m k).length - 1 < (runsTo l m k).length by omega), Option.getD_some]
          exact List.getElem_mem _
      · refine ⟨by rw [List.length_append, List.length_singleton]; omega, fun x hx => ?_⟩
        rw [List.mem_append, List.mem_singleton] at hx
        rcases hx with hx | hx
        · exact h.2 x hx
        · rw [hx]; rfl
    · exact ⟨by omega, h.2⟩
theorem rd_two {zss : List (List Int)} (h : ∀ x ∈ zss, x.length = 2) {i : Nat} (hi : i < zss.length) : (rd zss i).length = 2 := by
  refine h _ ?_
  unfold rd
  simp only [List.getD_eq_getElem?_getD, List.getElem?_eq_getElem hi, Option.getD_some]
  exact List.getElem_mem _
end Od

theorem OwnSS.iterBack {w : World} {B : Nat} {v : Value} {zss : List (List Int)} (h : OwnSS w B v zss) (g : Nat) (hg : g < B) (s : ByteArray) (pos : Nat) : OwnSS (w.iterAt g s pos) B v zss := by
  obtain ⟨vs, S⟩ := h
  refine ⟨vs, ?_⟩
  rw [Lib.iterAt_size]
  exact S.same fun k h1 _ => Lib.iterAt_other _ _ _ _ _ (by omega)
/-- a row of the call's own: where it lies, and how it is written -/
theorem OwnSS.rowAt {w : World} {B g n cap : Nat} {zss : List (List Int)} (h : OwnSS w B (.slice (some ⟨g, 0, none⟩) n cap) zss) (i : Nat) (hi : i < zss.length) (h2 : (rd zss i).length = 2) :
    ∃ gr cr, w.cell? ⟨g, i, none⟩ = some (.slice (some ⟨gr, 0, none⟩) 2 cr) ∧ B ≤ gr ∧ gr < w.heap.size ∧ w.cell? ⟨gr, 1, none⟩ = some (.int .i64 ((rd zss i).getD 1 0)) ∧ w.frozen? ⟨gr, 1, none⟩ = false ∧
      ∀ z : Int, OwnSS (w.setCell ⟨gr, 1, none⟩ (.int .i64 z)) B (.slice (some ⟨g, 0, none⟩) n cap) (zss.set i ((rd zss i).set 1 z)) := by
  obtain ⟨vs, S⟩ := h
  have hiv : i < vs.length := by rw [S.len]; exact hi
  have hc := S.cell i hi
  obtain ⟨ho, hlt⟩ := S.row i hiv
  rw [show zss.getD i [] = rd zss i from rfl] at ho
  obtain ⟨gr, cr, hv, hB, hl⟩ := ho.point (by omega)
  rw [hv] at ho hc
  rw [h2] at hv ho hc
  refine ⟨gr, cr, hc, hB, hl, ho.cell h2.symm 1 (by omega), ho.free h2.symm 1, fun z => ⟨vs, ?_⟩⟩
  have := S.setRow (w' := w.setCell ⟨gr, 1, none⟩ (.int .i64 z)) i hiv ((rd zss i).set 1 z) (by rw [hv]; exact ho.set h2.symm 1 z) (by rw [hv]; exact set_grown _ _ _ _)
  rw [show (w.setCell ⟨gr, 1, none⟩ (.int .i64 z)).heap.size = w.heap.size from by simp [World.setCell]]
  exact this

set_option maxHeartbeats 1000000 in
theorem odRuns_any (w : World) (l m : List Bool) (hl : l.length ≤ 40) (hm : m.length = l.length) :
    Calls Try.prog 47 #[.string (Rw.str l), .string (Rw.str m)] w fun e w' => ∃ v, e = .returned v ∧ OwnSS w' w.heap.size v (runsTo l m l.length) ∧ Below w.heap.size w w' := by
  obtain ⟨s, hs⟩ : ∃ s, s = Rw.str l := ⟨_, rfl⟩
  obtain ⟨t, ht⟩ : ∃ t, t = Rw.str m := ⟨_, rfl⟩
  have hsz : s.size = l.length := by rw [hs, Rw.size_str]
  have htz : t.size = s.size := by rw [ht, Rw.size_str, hm, hsz]
  have HS := Lib.hid hs
  have HT := Lib.hid ht
  have HD : Hid (∀ k, (h1 : k < s.size) → (h2 : k < t.size) → (((s[k]).toNat : Int) == ((t[k]).toNat : Int)) = !difB l m k) := Lib.hid (fun k h1 h2 => by
    have := byte_dif HS.out HT.out k h1 h2
    rw [bne, Bool.not_eq_eq_eq_not] at this
    rw [this]; unfold difB; rw [decide_eq_true (by omega), Bool.true_and])
  have HLW := Lib.hid (fun k hk => byte_low HS.out k hk)
  have hs40 : s.size ≤ 40 := by omega
  have HTZ := Lib.hid htz
  rw [← hs, ← ht, ← hsz]
  clear hs ht hsz hl hm htz
  go_enter Try.func47, Try.ntmps47
  go_wp2
  go_loopw [5, 6] (fun v _ wr => ∃ k : Nat, k ≤ s.size ∧ Hid (OwnSS wr (w.heap.size + 1) v (runsTo l m k)) ∧ Hid (wr.heap[w.heap.size]? = some (.stringIter s k)) ∧ Hid (Below w.heap.size w wr)) (fun _ _ wr => s.size - wr.iterPos w.heap.size)
  case atStart => exact ⟨0, Nat.zero_le _, Lib.hid (ownSS_nil _ _), Lib.hid (World.iter_heap w s 0), Lib.hid (below_iterZ w s 0)⟩
  case round =>
    obtain ⟨k, hk, HO, HI, HW⟩ := hrel
    have hpos := iterPos_w HI.out
    by_cases hlt : k < s.size
    · have hnx : ∀ ty, (Instr.next (.pointer (some ⟨w.heap.size, 0, none⟩)) true ty).run Try.prog wr = _ := fun ty => Lib.run_next_ascii_at wr w.heap.size s k ty HI.out hlt (HLW.out k hlt)
      have HI2 := Lib.hid (Lib.iterAt_heap wr w.heap.size s k (k + 1) HI.out)
      have HW2 := Lib.hid (Lib.below_iterAt HW.out (k := w.heap.size) (Nat.le_refl _) s (k + 1))
      have HO2 := Lib.hid (HO.out.iterBack w.heap.size (Nat.lt_succ_self _) s (k + 1))
      obtain ⟨W, hWd⟩ : ∃ W, wr.iterAt w.heap.size s (k + 1) = W := ⟨_, rfl⟩
      rw [hWd] at hnx HI2 HW2 HO2
      have hltI : w.heap.size < W.heap.size := (Array.getElem?_eq_some_iff.1 HI2.out).1
      have htk : k < t.size := by rw [HTZ.out]; exact hlt
      have g1 := HD.out k hlt htk
      have i1 : (0 : Int) ≤ (k : Int) := by omega
      have i2 : (k : Int) < (s.size : Int) := by omega
      have i3 : (k : Int) < (t.size : Int) := by omega
      have hok := runsTo_ok l m k
      have HF : Hid (runsTo l m (k + 1) = if difB l m k then
        (if 0 < (runsTo l m k).length ∧ (rd (runsTo l m k) ((runsTo l m k).length - 1)).getD 1 0 = (k : Int) - 1 then
          (runsTo l m k).set ((runsTo l m k).length - 1) ((rd (runsTo l m k) ((runsTo l m k).length - 1)).set 1 (k : Int))
        else runsTo l m k ++ [[(k : Int), (k : Int)]]) else runsTo l m k) := Lib.hid rfl
      obtain ⟨R, hR⟩ : ∃ R, R = runsTo l m k := ⟨_, rfl⟩
      rw [← hR] at HO2 HF hok
      have hRl : R.length ≤ 40 := by omega
      have HTW := Lib.hid hok.2
      clear hR hWd HO HI HW hok
      cases hd : difB l m k
      · rw [hd] at g1 HF
        have HS2 : Hid (runsTo l m (k + 1) = R) := Lib.hid (by rw [HF.out]; rfl)
        clear hd
        go_wp2_with fail
        go_quiet (fail)
        go_wp2
        go_roundw
        case rel => exact ⟨k + 1, by omega, Lib.hid (by rw [HS2.out]; exact HO2.out.drewN _), HI2, Lib.hid (below_drewN HW2.out _)⟩
        case measure => show s.size - W.iterPos w.heap.size < _; rw [iterPos_w HI2.out, hpos]; omega
      · rw [hd] at g1 HF
        have hbl : R.length ≤ 1000000000 := by omega
        have hz : w.heap.size + 1 ≤ W.heap.size := hltI
        clear hd
        obtain ⟨ao, c, hv⟩ := (show ∃ vs, SS W _ _ _ vs R from HO2.out).choose_spec.any
        by_cases hn : 0 < R.length
        · obtain ⟨q, hq⟩ : ∃ q, q = R.length - 1 := ⟨_, rfl⟩
          have hrd := rd_two HTW.out (i := q) (by omega)
          obtain ⟨g, cap, hv2, _, _⟩ := (show ∃ vs, SS W _ _ _ vs R from HO2.out).choose_spec.point hn
          subst hv2
          clear hv
          obtain ⟨gr, cr, c1, hgB, hgl, c2, f2, hset⟩ := HO2.out.rowAt q (by omega) hrd
          rw [← hq] at HF
          have eq1 : (R.length : Int) - 1 = (q : Int) := by omega
          have HSET := Lib.hid hset
          have c1' := fun n => show (W.drewN n).cell? ⟨g, q, none⟩ = _ from c1
          have c2' := fun n => show (W.drewN n).cell? ⟨gr, 1, none⟩ = _ from c2
          have f2' := fun n => show (W.drewN n).frozen? ⟨gr, 1, none⟩ = _ from f2
          obtain ⟨y, hy⟩ : ∃ y, y = (rd R q).getD 1 0 := ⟨_, rfl⟩
          rw [← hy] at c2' HF
          have i4 : (0 : Int) ≤ (q : Int) := by omega
          have i5 : (q : Int) < (R.length : Int) := by omega
          have i6 : (0 : Int) < (R.length : Int) := by omega
          by_cases hyk : y = (k : Int) - 1
          · have HS2 : Hid (runsTo l m (k + 1) = R.set q ((rd R q).set 1 (k : Int))) := Lib.hid (by rw [HF.out, if_pos rfl, if_pos ⟨hn, hyk⟩])
            have gq : (y == (k : Int) - 1) = true := by rw [beq_iff_eq]; exact hyk
            clear hset c1 c2 f2 hrd hq hy hyk
            go_wp2_with fail
            go_quiet (fail)
            go_wp2
            have HI5 : Hid (((W.drewN nq).setCell ⟨gr, 1, none⟩ (.int .i64 (k : Int))).heap[w.heap.size]? = some (.stringIter s (k + 1))) := Lib.hid ((Below.heap_setCell _ _ _ _ (fun e => by have : w.heap.size = gr := e; omega)).trans HI2.out)
            exact ⟨⟨k + 1, by omega, Lib.hid (by rw [HS2.out]; exact (HSET.out (k : Int)).drewN nq), HI5, Lib.hid ((below_drewN HW2.out nq).setCell (p := ⟨gr, 1, none⟩) (by show w.heap.size ≤ gr; omega) _)⟩, by rw [iterPos_w HI5.out, hpos]; omega⟩
          · have HS2 : Hid (runsTo l m (k + 1) = R ++ [[(k : Int), (k : Int)]]) := Lib.hid (by rw [HF.out, if_pos rfl, if_neg (fun h => hyk h.2)])
            have gq : (y == (k : Int) - 1) = false := by rw [beq_eq_false_iff_ne]; exact hyk
            clear hset c1 c2 f2 hrd hq hy hyk
            go_wp2_with fail
            go_quiet (fail)
            go_wp2_with (at_builtin; refine wpList_appRow rfl _ _ rfl _ (W.drewN _) _ _ _ _ _ _ rfl rfl (by simp) (HO2.out.drewN _) ((Below.refl _ _).alloc (Nat.le_refl _) _) (own_two (W.drewN _) _ _) hz hbl ?_; intro v' w5 hO hB5; have HO5 : Hid (OwnSS w5 (w.heap.size + 1) v' (runsTo l m (k + 1))) := Lib.hid (by rw [HS2.out]; exact hO); have HI5 : Hid (w5.heap[w.heap.size]? = some (.stringIter s (k + 1))) := Lib.hid ((hB5.block w.heap.size (Nat.lt_succ_self _)).trans ((Below.heap_alloc _ _ _ hltI).trans HI2.out)); have HB5 : Hid (Below w.heap.size w w5) := Lib.hid (((below_drewN HW2.out _).alloc (Nat.le_of_lt hltI) _).trans (hB5.mono (Nat.le_succ _))); clear hO hB5)
            exact ⟨⟨k + 1, by omega, HO5, HI5, HB5⟩, by rw [iterPos_w HI5.out, hpos]; omega⟩
        · have hR0 : R = [] := List.eq_nil_of_length_eq_zero (by omega)
          subst hR0
          have HS2 : Hid (runsTo l m (k + 1) = [[(k : Int), (k : Int)]]) := Lib.hid (by rw [HF.out, if_pos rfl, if_neg (fun h => absurd h.1 (by simp))]; rfl)
          subst hv
          go_wp2_with fail
          go_quiet (fail)
          go_wp2_with (at_builtin; refine wpList_appRow rfl _ _ rfl _ (W.drewN _) _ _ _ _ _ _ rfl rfl (by simp) (HO2.out.drewN _) ((Below.refl _ _).alloc (Nat.le_refl _) _) (own_two (W.drewN _) _ _) hz hbl ?_; intro v' w5 hO hB5; have HO5 : Hid (OwnSS w5 (w.heap.size + 1) v' (runsTo l m (k + 1))) := Lib.hid (by rw [HS2.out]; exact hO); have HI5 : Hid (w5.heap[w.heap.size]? = some (.stringIter s (k + 1))) := Lib.hid ((hB5.block w.heap.size (Nat.lt_succ_self _)).trans ((Below.heap_alloc _ _ _ hltI).trans HI2.out)); have HB5 : Hid (Below w.heap.size w w5) := Lib.hid (((below_drewN HW2.out _).alloc (Nat.le_of_lt hltI) _).trans (hB5.mono (Nat.le_succ _))); clear hO hB5)
          exact ⟨⟨k + 1, by omega, HO5, HI5, HB5⟩, by rw [iterPos_w HI5.out, hpos]; omega⟩
    · obtain rfl : k = s.size := by omega
      have hnx : ∀ ty, (Instr.next (.pointer (some ⟨w.heap.size, 0, none⟩)) true ty).run Try.prog wr = _ := fun ty => Lib.run_next_end_at wr w.heap.size s s.size ty HI.out hlt
      clear hpos
      go_wp2
      go_ret
      exact ⟨_, rfl, HO.out.mono (Nat.le_succ _), HW.out⟩

def outRunsTo_0 (a b : ByteArray) : List (List Int) := if twoB a b then runsTo (rowOf a) (rowOf b) (rowOf a).length else []
def outRunsTo_1 (a b : ByteArray) : Bool := twoB a b
theorem lenRunsTo_0 (a b : ByteArray) (_ha : a.size ≤ 1048576) (_hb : b.size ≤ 1048576) : (outRunsTo_0 a b).length ≤ 1000000000 ∧ total (outRunsTo_0 a b) ≤ 1000000000 := by
  unfold outRunsTo_0
  split
  · rename_i h
    obtain ⟨l, m, rfl, rfl, _, h3, _⟩ := two_rows h
    have := runsTo_ok (rowOf (Rw.str l)) (rowOf (Rw.str m)) (rowOf (Rw.str l)).length
    rw [rowOf_str] at this ⊢
    exact fits_twos (by omega) this.2
  · exact ⟨by simp, by simp [total, tot]⟩
def outFewestRuns_0 (a b : ByteArray) : Int := if twoB a b then ((runsTo (rowOf a) (rowOf b) (rowOf a).length).length : Nat) else 0
def outFewestRuns_1 (a b : ByteArray) : Bool := twoB a b

set_option maxHeartbeats 1000000 in
theorem specRunsTo_any (w : World) (a b : ByteArray) (_wa : a.size ≤ maxLen) (_wb : b.size ≤ maxLen) (hla : a.size ≤ 1048576) (hlb : b.size ≤ 1048576) :
    Calls Try.prog 21 #[.string a, .string b] w fun e w' => ∃ v0, e = .returned (.tuple #[v0, .bool (outRunsTo_1 a b)]) ∧ OwnSS w' w.heap.size v0 (outRunsTo_0 a b) ∧ Below w.heap.size w w' := by
  have HG := Lib.hid (odTwo_q a b w hla hlb)
  clear _wa _wb
  rcases h1 : twoB a b with _ | _
  · have H0 : Hid (outRunsTo_0 a b = [] ∧ outRunsTo_1 a b = false) := Lib.hid (by unfold outRunsTo_0 outRunsTo_1; rw [h1]; exact ⟨rfl, rfl⟩)
    rw [h1] at HG
    clear h1
    go_enter Try.func21, Try.ntmps21
    go_wp2_with (go_at_call 46; refine HG.out.mono ?_; rintro e w' ⟨rfl, rfl⟩)
    go_ret2
    exact ⟨_, by rw [H0.out.2]; exact rfl, by rw [H0.out.1]; exact ownSS_nil _ _, Below.refl _ _⟩
  · obtain ⟨l, m, rfl, rfl, h2, h3, h4⟩ := two_rows h1
    have H0 : Hid (outRunsTo_0 (Rw.str l) (Rw.str m) = runsTo l m l.length ∧ outRunsTo_1 (Rw.str l) (Rw.str m) = true) := Lib.hid (by unfold outRunsTo_0 outRunsTo_1; rw [h1, rowOf_str, rowOf_str]; exact ⟨rfl, rfl⟩)
    have HF := Lib.hid (odRuns_any w l m h3 h4)
    obtain ⟨s, hs⟩ : ∃ s, s = Rw.str l := ⟨_, rfl⟩
    obtain ⟨t, ht⟩ : ∃ t, t = Rw.str m := ⟨_, rfl⟩
    rw [h1] at HG
    rw [← hs, ← ht] at HG HF H0 ⊢
    clear h1 hs ht hla hlb
    go_enter Try.func21, Try.ntmps21
    go_wp2_with fail
    go_at_call 46
    refine HG.out.mono ?_
    rintro e w' ⟨rfl, rfl⟩
    go_wp2_with fail
    go_at_call 47
    refine HF.out.mono ?_
    rintro e w2 ⟨v, rfl, o2, b2⟩
    have O2 := Lib.hid o2
    have B2 := Lib.hid b2
    skip
    clear o2 b2
    go_wp2
    go_ret2
    exact ⟨_, by rw [H0.out.2]; exact rfl, by rw [H0.out.1]; exact O2.out, B2.out⟩

set_option maxHeartbeats 1000000 in
theorem specFewestRuns_any (w : World) (a b : ByteArray) (_wa : a.size ≤ maxLen) (_wb : b.size ≤ maxLen) (hla : a.size ≤ 1048576) (hlb : b.size ≤ 1048576) :
    Calls Try.prog 19 #[.string a, .string b] w fun e w' => e = .returned (.tuple #[.int .i64 (outFewestRuns_0 a b), .bool (outFewestRuns_1 a b)]) ∧ Below w.heap.size w w' := by
  have HG := Lib.hid (odTwo_q a b w hla hlb)
  clear _wa _wb
  rcases h1 : twoB a b with _ | _
  · have H0 : Hid (outFewestRuns_0 a b = 0 ∧ outFewestRuns_1 a b = false) := Lib.hid (by unfold outFewestRuns_0 outFewestRuns_1; rw [h1]; exact ⟨rfl, rfl⟩)
    rw [h1] at HG
    clear h1
    go_enter Try.func19, Try.ntmps19
    go_wp2_with (go_at_call 46; refine HG.out.mono ?_; rintro e w' ⟨rfl, rfl⟩)
    go_ret2
    exact ⟨by rw [H0.out.1, H0.out.2]; exact rfl, Below.refl _ _⟩
  · obtain ⟨l, m, rfl, rfl, h2, h3, h4⟩ := two_rows h1
    have H0 : Hid (outFewestRuns_0 (Rw.str l) (Rw.str m) = ((runsTo l m l.length).length : Nat) ∧ outFewestRuns_1 (Rw.str l) (Rw.str m) = true) := Lib.hid (by unfold outFewestRuns_0 outFewestRuns_1; rw [h1, rowOf_str, rowOf_str]; exact ⟨rfl, rfl⟩)
    have HF := Lib.hid (odRuns_any w l m h3 h4)
    obtain ⟨s, hs⟩ : ∃ s, s = Rw.str l := ⟨_, rfl⟩
    obtain ⟨t, ht⟩ : ∃ t, t = Rw.str m := ⟨_, rfl⟩
    rw [h1] at HG
    rw [← hs, ← ht] at HG HF H0 ⊢
    clear h1 hs ht hla hlb
    go_enter Try.func19, Try.ntmps19
    go_wp2_with fail
    go_at_call 46
    refine HG.out.mono ?_
    rintro e w' ⟨rfl, rfl⟩
    go_wp2_with fail
    go_at_call 47
    refine HF.out.mono ?_
    rintro e w2 ⟨v, rfl, o2, b2⟩
    have O2 := Lib.hid o2
    have B2 := Lib.hid b2
    obtain ⟨vs, S2⟩ := o2
    obtain ⟨ao, c, rfl⟩ := S2.any
    obtain ⟨n, hn⟩ : ∃ n, n = (runsTo l m l.length).length := ⟨_, rfl⟩
    rw [← hn] at H0 ⊢
    clear hn O2 S2
    clear b2
    go_wp2
    go_ret2
    exact ⟨by rw [H0.out.1, H0.out.2]; exact rfl, B2.out⟩

end Go.Proofs.Ytkdpjimbhpclaaa
