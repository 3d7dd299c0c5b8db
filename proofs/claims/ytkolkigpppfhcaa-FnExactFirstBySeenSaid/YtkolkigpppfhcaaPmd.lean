/- Chapter 2, plain: going through the orders; and the program's FirstBySeen. -/
import Derived.Test.YtkolkigpppfhcaaPmc
import Derived.Test.YtkolkigpppfhcaaSng
namespace Go.Proofs.Ytkolkigpppfhcaa
open Go.ChangeShapes Go.WideShapes Go.ChangeAt Go.RowKit

namespace Pm
/-- o is reached, rest still to come, all ahead of o are not seen so -/
def At (n l r : Nat) (o : List Nat) (rest : List (List Nat)) : Prop :=
  ∃ dn, perms n (ones n) = dn ++ o :: rest ∧ (∀ d ∈ dn, okL l r d = false) ∧ run (o :: rest) (ones n).reverse
theorem last_none (n : Nat) : nextL (ones n).reverse = none := nextL_dec _ (inc_rev (ones_inc n))
theorem At.start (n l r : Nat) : ∃ rest, At n l r (ones n) rest := by
  obtain ⟨h1, h2⟩ := perms_run n (ones n) (length_ones n) (ones_inc n)
  rcases hp : perms n (ones n) with _ | ⟨a, t⟩
  · rw [hp] at h2; cases h2
  · rw [hp] at h1 h2
    have e : a = ones n := by simpa using h2
    subst e
    exact ⟨t, [], by rw [hp]; rfl, fun d hd => (by cases hd), h1⟩
theorem At.perm {n l r : Nat} {o : List Nat} {rest : List (List Nat)} (h : At n l r o rest) : o.Perm (ones n) := by
  obtain ⟨dn, h1, _⟩ := h
  exact perms_perm n (ones n) (length_ones n) o (by rw [h1]; simp)
theorem At.len {n l r : Nat} {o : List Nat} {rest : List (List Nat)} (h : At n l r o rest) : o.length = n := by rw [h.perm.length_eq, length_ones]
theorem At.nodup {n l r : Nat} {o : List Nat} {rest : List (List Nat)} (h : At n l r o rest) : o.Nodup := h.perm.nodup_iff.2 (ones_nodup n)
theorem At.le {n l r : Nat} {o : List Nat} {rest : List (List Nat)} (h : At n l r o rest) : ∀ x ∈ o, x ≤ n := fun _ hx => (mem_ones.1 (h.perm.mem_iff.1 hx)).2
theorem At.found {n l r : Nat} {o : List Nat} {rest : List (List Nat)} (h : At n l r o rest) (hk : okL l r o = true) : lookL n l r n [] = some o := by
  obtain ⟨dn, h1, h2, _⟩ := h
  rw [look_top, h1, List.find?_append, List.find?_eq_none.2 (fun x hx => by rw [h2 x hx]; simp), List.find?_cons, hk]
  rfl
theorem At.stop {n l r : Nat} {o : List Nat} {rest : List (List Nat)} (h : At n l r o rest) (hk : okL l r o = false) (hn : nextL o = none) : lookL n l r n [] = none := by
  obtain ⟨dn, h1, h2, h3⟩ := h
  have h4 := (run_next o rest _ h3 (last_none n)).1
  rw [hn] at h4
  have h5 : rest = [] := by
    rcases rest with _ | ⟨a, t⟩
    · rfl
    · cases h4
  subst h5
  rw [look_top, h1, List.find?_eq_none]
  intro x hx
  rcases List.mem_append.1 hx with h | h
  · rw [h2 x h]; simp
  · rw [List.mem_singleton.1 h, hk]; simp
theorem At.next {n l r : Nat} {o c : List Nat} {rest : List (List Nat)} (h : At n l r o rest) (hk : okL l r o = false) (hn : nextL o = some c) : ∃ t, rest = c :: t ∧ At n l r c t := by
  obtain ⟨dn, h1, h2, h3⟩ := h
  obtain ⟨h4, h5⟩ := run_next o rest _ h3 (last_none n)
  rw [hn] at h4
  rcases rest with _ | ⟨a, t⟩
  · cases h4
  · have e : c = a := by simpa using h4
    subst e
    refine ⟨t, rfl, dn ++ [o], by rw [h1]; simp, fun d hd => ?_, h5 c t rfl⟩
    rcases List.mem_append.1 hd with h | h
    · exact h2 d h
    · rw [List.mem_singleton.1 h]; exact hk
/-- how many are still to come -/
def cnt : Nat → List Nat → Nat
  | 0, _ => 0
  | F + 1, o => match nextL o with
    | none => 0
    | some c => cnt F c + 1
theorem cnt_run (z : List Nat) (hz : nextL z = none) : ∀ (rest : List (List Nat)) (o : List Nat) (F : Nat), run (o :: rest) z → rest.length ≤ F → cnt F o = rest.length
  | [], o, F, h, _ => by
    have e : o = z := h
    subst e
    cases F with
    | zero => rfl
    | succ F => rw [cnt, hz]; rfl
  | c :: t, o, F, h, hF => by
    cases F with
    | zero => simp at hF
    | succ F =>
      rw [cnt, h.1]
      show cnt F c + 1 = _
      rw [cnt_run z hz t c F h.2 (by simpa using hF)]; rfl
def all (n : Nat) : Nat := (perms n (ones n)).length
theorem At.cnt {n l r : Nat} {o : List Nat} {rest : List (List Nat)} (h : At n l r o rest) : Pm.cnt (all n) o = rest.length := by
  obtain ⟨dn, h1, _, h3⟩ := h
  refine cnt_run _ (last_none n) rest o _ h3 ?_
  unfold all
  rw [h1]; simp; omega
/-- the order that stands in memory -/
def readO (w : World) (G n : Nat) : List Nat := (List.range n).map fun j => match w.cell? ⟨G, j, none⟩ with | some (.int _ x) => x.toNat | _ => 0
theorem readO_own {w : World} {B G n cap : Nat} {o : List Nat} (h : Own w B (.slice (some ⟨G, 0, none⟩) n cap) (asInts o)) (hn : n = o.length) : readO w G n = o := by
  refine ext_getD 0 (by simp [readO, hn]) fun i hi => ?_
  rw [readO, List.length_map, List.length_range] at hi
  unfold readO
  rw [List.getD_eq_getElem?_getD, List.getElem?_map, List.getElem?_range hi]
  have := h.cell (by rw [asInts_len]; exact hn) i (by rw [asInts_len, ← hn]; exact hi)
  simp only [Option.map_some, Option.getD_some]
  rw [this, getD_asInts]
  simp
/-- 1, .., k, then zeros -/
def fillP (n k : Nat) : List Int := (List.range n).map fun i => if i < k then ((i + 1 : Nat) : Int) else 0
theorem fillP_zero (n : Nat) : List.replicate n (0 : Int) = fillP n 0 := by
  refine ext_getD 0 (by simp [fillP]) fun i hi => ?_
  rw [List.length_replicate] at hi
  simp [fillP, List.getD_eq_getElem?_getD, hi]
theorem length_fillP (n k : Nat) : (fillP n k).length = n := by simp [fillP]
theorem fillP_set (n k : Nat) : (fillP n k).set k ((k : Int) + 1) = fillP n (k + 1) := by
  refine ext_getD 0 (by simp [fillP]) fun i hi => ?_
  rw [List.length_set, length_fillP] at hi
  rw [getD_set, length_fillP]
  have gd : ∀ m, (fillP n m).getD i 0 = if i < m then ((i + 1 : Nat) : Int) else 0 := fun m => by
    unfold fillP
    rw [List.getD_eq_getElem?_getD, List.getElem?_map, List.getElem?_range hi]; rfl
  rw [gd, gd]
  by_cases e : k = i
  · rw [if_pos ⟨e, by omega⟩, if_pos (by omega)]; omega
  · rw [if_neg (fun c => e c.1)]
    by_cases h2 : i < k
    · rw [if_pos h2, if_pos (by omega)]
    · rw [if_neg h2, if_neg (by omega)]
theorem fillP_all (n : Nat) : fillP n n = asInts (ones n) := by
  unfold fillP ones asInts
  rw [List.map_map]
  apply List.map_congr_left
  intro i hi
  rw [List.mem_range] at hi
  rw [if_pos hi]; rfl
end Pm

def firstB (n l r : Int) : Bool := askB n l r && decide (n ≤ 8)
def firstL (n l r : Int) : Option (List Nat) := Pm.lookL n.toNat l.toNat r.toNat n.toNat []
def outFirstBySeen_0 (n l r : Int) : List Int := if firstB n l r then asInts ((firstL n l r).getD []) else []
def outFirstBySeen_1 (n l r : Int) : Bool := firstB n l r && (firstL n l r).isSome
theorem outFBS_no {n l r : Int} (h : firstB n l r = false) : outFirstBySeen_0 n l r = [] ∧ outFirstBySeen_1 n l r = false := by unfold outFirstBySeen_0 outFirstBySeen_1; rw [h]; exact ⟨rfl, rfl⟩
theorem outFBS_some {n l r : Nat} {o : List Nat} (h : firstB (n : Int) (l : Int) (r : Int) = true) (h2 : Pm.lookL n l r n [] = some o) : outFirstBySeen_0 n l r = asInts o ∧ outFirstBySeen_1 n l r = true := by
  have e : firstL (n : Int) (l : Int) (r : Int) = some o := by unfold firstL; simpa using h2
  unfold outFirstBySeen_0 outFirstBySeen_1
  rw [h, e]; exact ⟨rfl, rfl⟩
theorem outFBS_none {n l r : Nat} (h : firstB (n : Int) (l : Int) (r : Int) = true) (h2 : Pm.lookL n l r n [] = none) : outFirstBySeen_0 n l r = [] ∧ outFirstBySeen_1 n l r = false := by
  have e : firstL (n : Int) (l : Int) (r : Int) = none := by unfold firstL; simpa using h2
  unfold outFirstBySeen_0 outFirstBySeen_1
  rw [h, e]; exact ⟨rfl, rfl⟩
theorem lenFirstBySeen_0 (n l r : Int) : (outFirstBySeen_0 n l r).length ≤ 4611686018427387904 := by
  unfold outFirstBySeen_0
  split
  · rename_i h
    rcases e : firstL n l r with _ | o
    · simp [asInts]
    · unfold firstB at h
      rw [Bool.and_eq_true, decide_eq_true_eq] at h
      unfold firstL at e
      rw [Pm.look_top] at e
      have hm := List.mem_of_find?_eq_some e
      have hp := Pm.perms_perm _ _ (Pm.length_ones _) o hm
      rw [Option.getD_some, asInts_len, hp.length_eq, Pm.length_ones]
      omega
  · simp

set_option maxHeartbeats 8000000 in
theorem implFirstBySeen_any (w : World) (n l r : Int) (_wn : (Lit.int .i64 n).wf = true) (_wl : (Lit.int .i64 l).wf = true) (_wr : (Lit.int .i64 r).wf = true) :
    Calls Try.prog 8 #[.int .i64 n, .int .i64 l, .int .i64 r] w fun e w' => ∃ v0, e = .returned (.tuple #[v0, .bool (outFirstBySeen_1 n l r)]) ∧ Own w' w.heap.size v0 (outFirstBySeen_0 n l r) ∧ Below w.heap.size w w' := by
  have HA := Lib.hid (areSeen_p n l r w)
  clear _wn _wl _wr
  rcases hb : askB n l r with _ | _
  · have H0 := Lib.hid (outFBS_no (show firstB n l r = false by unfold firstB; rw [hb]; rfl))
    rw [hb] at HA
    clear hb
    go_enter Try.func8, Try.ntmps8
    go_wp2_with (go_at_call 14; refine HA.out.mono ?_; rintro e w' ⟨rfl, rfl⟩)
    go_ret2
    exact ⟨_, by rw [H0.out.2]; exact rfl, by rw [H0.out.1]; exact own_nil _ _, Below.refl _ _⟩
  by_cases h8 : 8 < n
  · have H0 := Lib.hid (outFBS_no (show firstB n l r = false by unfold firstB; rw [hb, decide_eq_false (by omega)]; rfl))
    rw [hb] at HA
    clear hb
    go_enter Try.func8, Try.ntmps8
    go_wp2_with (go_at_call 14; refine HA.out.mono ?_; rintro e w' ⟨rfl, rfl⟩)
    go_ret2
    exact ⟨_, by rw [H0.out.2]; exact rfl, by rw [H0.out.1]; exact own_nil _ _, Below.refl _ _⟩
  obtain ⟨h1, h2, h3, h4, h5, h6⟩ := ask_yes hb
  have hf : firstB n l r = true := by unfold firstB; rw [hb, decide_eq_true (by omega)]; rfl
  rw [hb] at HA
  obtain ⟨N, rfl⟩ : ∃ N : Nat, n = (N : Int) := ⟨n.toNat, by omega⟩
  obtain ⟨L, rfl⟩ : ∃ L : Nat, l = (L : Int) := ⟨l.toNat, by omega⟩
  obtain ⟨R, rfl⟩ : ∃ R : Nat, r = (R : Int) := ⟨r.toNat, by omega⟩
  have hN1 : 1 ≤ N := by omega
  have hN8 : N ≤ 8 := by omega
  have HF := Lib.hid hf
  have hz : IntKind.i64.wrap (N : Int) = (N : Int) := IntWalk.i64_in _ (by omega)
  obtain ⟨i0, hi, hz0, hz1, hz2⟩ := info_parts Try.info_int
  clear hb hf
  go_enter Try.func8, Try.ntmps8
  go_wp2_with (first | (go_at_call 14; refine HA.out.mono ?_; rintro e w' ⟨rfl, rfl⟩) | (at_make; refine wpList_make_full _ rfl _ _ 25 rfl w.heap.size 3 i0 (.int .i64 0) 1 Try.underlying25 hi hz0 hz1 .i64 .i64 _ _ N rfl rfl rfl rfl (by rw [hz2]; omega) (by unfold maxLen; omega) (Nat.le_refl _) ?_; intro w1 hown hgrow; refine Stop.on ?_))
  have HO1 : Hid (Own w1 w.heap.size (.slice (some ⟨w.heap.size, 0, none⟩) N N) (Pm.fillP N 0)) := Lib.hid (by
    have := made_own (zs := List.replicate N (0 : Int)) (by simp) hown
    rw [copyTo_zero, List.length_replicate, Pm.fillP_zero] at this
    exact this)
  have HB1 := Lib.hid (below_made hgrow)
  obtain ⟨G, hG⟩ : ∃ G, G = w.heap.size := ⟨_, rfl⟩
  rw [← hG] at HO1 HB1
  have HGG := Lib.hid hG
  rw [← hG]
  clear hown hgrow hG
  refine ⟨?_⟩
  go_wp2
  clear hi hz0 hz1 hz2 i0
  go_loopw [23] (fun i wr => ∃ k : Nat, k ≤ N ∧ i = .int .i64 (k : Int) ∧ Hid (Own wr G (.slice (some ⟨G, 0, none⟩) N N) (Pm.fillP N k)) ∧ Hid (Below G w wr)) (fun i _ => N - (intOf i).toNat)
  case atStart => exact ⟨0, Nat.zero_le _, rfl, HO1, HB1⟩
  case round =>
    obtain ⟨k, hk, rfl, HO, HB⟩ := hrel
    obtain ⟨w2, rfl⟩ : ∃ w2 : World, w2 = wr := ⟨_, rfl⟩
    by_cases hlt : k < N
    · have i1 : (k : Int) < (N : Int) := by omega
      have i0 : (0 : Int) ≤ (k : Int) := by omega
      have wK : IntKind.i64.wrap ((k : Int) + 1) = (k : Int) + 1 := IntWalk.i64_in _ (by omega)
      have e1 := HO.out.cell (Pm.length_fillP N k).symm k (by rw [Pm.length_fillP]; exact hlt)
      have e2 := HO.out.free (Pm.length_fillP N k).symm k
      obtain ⟨x, hx⟩ : ∃ x, x = (Pm.fillP N k).getD k 0 := ⟨_, rfl⟩
      rw [← hx] at e1
      have HS : Hid (Own (w2.setCell ⟨G, k, none⟩ (.int .i64 ((k : Int) + 1))) G (.slice (some ⟨G, 0, none⟩) N N) (Pm.fillP N (k + 1))) := Lib.hid (by
        rw [← Pm.fillP_set]; exact HO.out.set (Pm.length_fillP N k).symm k _)
      have HBS : Hid (Below G w (w2.setCell ⟨G, k, none⟩ (.int .i64 ((k : Int) + 1)))) := Lib.hid (HB.out.setCell (p := ⟨G, k, none⟩) (Nat.le_refl _) _)
      clear hx
      go_wp2
      exact ⟨⟨k + 1, by omega, by go_num, HS, HBS⟩, by simp [intOf]; omega⟩
    · have hkN : k = N := by omega
      subst hkN
      obtain ⟨rest0, hA0⟩ := Pm.At.start k L R
      have HA0 := Lib.hid hA0
      have HO2 : Hid (Own w2 G (.slice (some ⟨G, 0, none⟩) k k) (asInts (Pm.ones k))) := Lib.hid (by rw [← Pm.fillP_all]; exact HO.out)
      clear hA0
      go_wp2
      go_loopw [] (fun wr => ∃ (o : List Nat) (rest : List (List Nat)), Hid (Pm.At k L R o rest) ∧ Hid (Own wr G (.slice (some ⟨G, 0, none⟩) k k) (asInts o)) ∧ Hid (Below G w wr)) (fun wr => Pm.cnt (Pm.all k) (Pm.readO wr G k))
      case atStart => exact ⟨_, rest0, HA0, HO2, HB⟩
      case round =>
        obtain ⟨o, rest, HAT, HO, HB⟩ := hrel
        obtain ⟨w3, rfl⟩ : ∃ w3 : World, w3 = wr := ⟨_, rfl⟩
        have HLO : Hid (o.length = k) := Lib.hid HAT.out.len
        have hcm : Hid (Came w3 (some ⟨G, 0, none⟩) k (asInts o)) := Lib.hid (by
          obtain ⟨ao, c, e, hc⟩ := HO.out.came
          rw [asInts_len, HLO.out] at e hc
          injection e with e1 _ _
          rw [e1]; exact hc)
        have HRO : Hid (Pm.readO w3 G k = o) := Lib.hid (Pm.readO_own HO.out HLO.out.symm)
        have hzG : G < w3.heap.size := by
          obtain ⟨g, c, e, _, h⟩ := HO.out.point (by rw [asInts_len, HLO.out]; exact hN1)
          injection e with e1 _ _
          injection e1 with e1
          injection e1 with e1
          rw [e1]; exact h
        go_wp2_with fail
        go_at_call 17
        refine (heightsOf_any w3 (some ⟨G, 0, none⟩) k k o (by omega) hcm.out).mono ?_
        rintro e w4 ⟨rfl, b4⟩
        have B4 := Lib.hid b4
        have z4 := b4.size
        clear b4
        go_wp2_with fail
        go_at_call 18
        refine (bothSeen_p w4 o (by rw [HLO.out]; exact hN1) (by rw [HLO.out]; omega)).mono ?_
        rintro e w5 ⟨rfl, b5⟩
        have B5 : Hid (Below w3.heap.size w3 w5) := Lib.hid (B4.out.trans (b5.mono z4))
        have z5 := b5.size
        have HO5 : Hid (Own w5 G (.slice (some ⟨G, 0, none⟩) k k) (asInts o)) := Lib.hid (HO.out.below B5.out (Nat.le_refl _))
        have HB5 : Hid (Below G w w5) := Lib.hid (HB.out.trans (B5.out.mono (by omega)))
        clear b5 B4
        obtain ⟨x, hx⟩ : ∃ x, x = Pm.seenN o := ⟨_, rfl⟩
        obtain ⟨y, hy⟩ : ∃ y, y = Pm.seenN o.reverse := ⟨_, rfl⟩
        rw [← hx, ← hy]
        have HX := Lib.hid hx
        have HY := Lib.hid hy
        clear hx hy
        by_cases hxy : x = L ∧ y = R
        · obtain ⟨rfl, rfl⟩ := hxy
          have HK : Hid (Pm.lookL k x y k [] = some o) := Lib.hid (HAT.out.found (by unfold Pm.okL; rw [← HX.out, ← HY.out]; simp))
          go_wp2
          go_ret2
          have hq := outFBS_some HF.out HK.out
          exact ⟨_, by rw [hq.2]; exact rfl, by rw [hq.1, ← HGG.out]; exact HO5.out, by rw [← HGG.out]; exact HB5.out⟩
        · have HK : Hid (Pm.okL L R o = false) := Lib.hid (by unfold Pm.okL; rw [← HX.out, ← HY.out]; simp only [Bool.and_eq_false_iff, decide_eq_false_iff_not]; by_cases h : x = L; exact .inr (fun e => hxy ⟨h, e⟩); exact .inl h)
          have hne : ¬ ((x : Int) = (L : Int) ∧ (y : Int) = (R : Int)) := fun e => hxy ⟨by omega, by omega⟩
          go_wp2_with fail
          all_goals (
            go_at_call 19
            refine (nextOrder_p w5 G _ o (by rw [HLO.out]; exact hN1) (by rw [HLO.out]; exact hN8) HAT.out.nodup (fun z hz => by have := HAT.out.le z hz; omega) HO5.out).mono ?_
            rintro e w6 ⟨rfl, o6, b6⟩
            have HB6 : Hid (Below G w w6) := Lib.hid ⟨b6.os.trans HB5.out.os, b6.tape.trans HB5.out.tape, b6.output.trans HB5.out.output, Nat.le_trans HB5.out.size b6.size, fun k hk => (b6.block k hk).trans (HB5.out.block k hk)⟩
            rcases hn : Pm.nextL o with _ | c
            · rw [hn] at o6
              have HQ := Lib.hid (HAT.out.stop HK.out hn)
              clear o6 b6 hn
              go_wp2
              go_ret2
              have hq := outFBS_none HF.out HQ.out
              exact ⟨_, by rw [hq.2]; exact rfl, by rw [hq.1]; exact own_nil _ _, by rw [← HGG.out]; exact HB6.out⟩
            · rw [hn] at o6
              have HQ := Lib.hid (HAT.out.next HK.out hn)
              have HO6 : Hid (Own w6 G (.slice (some ⟨G, 0, none⟩) k k) (asInts c)) := Lib.hid o6
              clear o6 b6 hn
              go_wp2
              obtain ⟨t, ht, HT⟩ := HQ.out
              have HRC : Pm.readO w6 G k = c := Pm.readO_own HO6.out HT.len.symm
              have HC1 := HT.cnt
              have HC2 := HAT.out.cnt
              have HRO2 := HRO.out
              have HTT := Lib.hid HT
              exact ⟨⟨c, t, HTT, HO6, HB6⟩, by rw [HRC, HRO2, HC1, HC2, ht]; simp⟩)

end Go.Proofs.Ytkolkigpppfhcaa
