/- The rest of chapter 1's program, in the namespace Tp, for later chapters: pairs, tick, settle, and what FacingPairs, RowAfter, TicksToRest, TurnsOfEach answer of a row. -/
import Derived.Test.YtodlpdbmiicdfabTp
import Derived.Test.YtodlpdbmiicdfabGx
namespace Go.Proofs.Ytodlpdbmiicdfab
open Go.ChangeShapes Go.WideShapes Go.ChangeAt Go.RowKit
open Rx
namespace Tp
def ints (ps : List Nat) : List Value := ps.map fun i : Nat => .int .i64 (i : Int)
theorem ints_snoc (ps : List Nat) (k : Nat) : ints (ps ++ [k]) = ints ps ++ [.int .i64 k] := by simp [ints]
theorem pairs_start (l : List Bool) (w : World) : w.ownsRow w.heap.size 3 1 (.slice none 0 0) (Rw.pairsTo l 0).length (ints (Rw.pairsTo l 0)) := World.ownsRow_nil _ _ _ _
theorem pairs_step {l : List Bool} {k B : Nat} {v : Value} {w1 : World} (h : Rw.pairsTo l (k + 1) = Rw.pairsTo l k ++ [k]) (hown : w1.ownsRow B 3 1 v ((Rw.pairsTo l k).length + 1) (ints (Rw.pairsTo l k) ++ [.int .i64 k])) :
    w1.ownsRow B 3 1 v (Rw.pairsTo l (k + 1)).length (ints (Rw.pairsTo l (k + 1))) := by
  rw [h, List.length_append, ints_snoc]; exact hown
theorem pairs_stay {l : List Bool} {k B : Nat} {v : Value} {w1 : World} (h : Rw.pairsTo l (k + 1) = Rw.pairsTo l k) (hown : w1.ownsRow B 3 1 v (Rw.pairsTo l k).length (ints (Rw.pairsTo l k))) :
    w1.ownsRow B 3 1 v (Rw.pairsTo l (k + 1)).length (ints (Rw.pairsTo l (k + 1))) := by
  rw [h]; exact hown
theorem pairs_done {l : List Bool} {k B : Nat} {v : Value} {w1 : World} (h : k = l.length - 1) (hown : w1.ownsRow B 3 1 v (Rw.pairsTo l k).length (ints (Rw.pairsTo l k))) :
    w1.ownsRow B 3 1 v (Rw.pairs l).length (ints (Rw.pairs l)) := by
  unfold Rw.pairs; rw [← h]; exact hown
set_option maxHeartbeats 400000 in
set_option maxRecDepth 20000 in
theorem faces_any (a b : Bool) (w : World) :
    Calls Try.prog 101 #[.agg #[.bool a], .agg #[.bool b]] w fun e w' => e = .returned (.bool (a && !b)) ∧ Below w.heap.size w w' := by
  cases a <;> cases b
  all_goals
    go_enter Try.func101, Try.ntmps101
    go_wp2
    go_ret
    exact ⟨rfl, ((Below.refl _ _).alloc (Nat.le_refl _) _).alloc (by simp) _⟩

theorem own_kept {B n size : Nat} {w w' : World} {e : TypeId} {v : Value} {xs : List Value} (h : w.ownsRow B e size v n xs) (hb : Below w.drew.heap.size w.drew w') : w'.ownsRow B e size v n xs :=
  World.ownsRow.kept (row := none) (w := w.drew) h ⟨hb.os, hb.tape, hb.output, hb.size, fun k hk _ => hb.block k hk⟩ (by cases v.ownBlock <;> simp)
theorem keep_two {w w' : World} {g a b : Nat} {x y : Value} (hb : Below w.heap.size w w') (hg : g < w.heap.size) (h : w.cell? ⟨g, a, none⟩ = some x ∧ w.cell? ⟨g, b, none⟩ = some y) : w'.cell? ⟨g, a, none⟩ = some x ∧ w'.cell? ⟨g, b, none⟩ = some y :=
  ⟨(hb.cell (p := ⟨g, a, none⟩) hg).trans h.1, (hb.cell (p := ⟨g, b, none⟩) hg).trans h.2⟩

set_option maxHeartbeats 1000000 in
set_option maxRecDepth 20000 in
theorem pairs_any (g : Nat) (m : List Bool) (c : List Nat) (h1 : 1 ≤ m.length) (h2 : m.length ≤ 60) (w : World) (hT : Trp w g m c) :
    Calls Try.prog 96 #[.slice (some ⟨g, 0, none⟩) m.length m.length] w fun e w' => ∃ v, e = .returned v ∧ w'.ownsRow w.heap.size 3 1 v (Rw.pairs m).length (ints (Rw.pairs m)) ∧ Below w.heap.size w w' := by
  obtain ⟨i0, hi, hz0, hz1, hz2⟩ := info_parts Try.info_int
  obtain ⟨n, hn⟩ : ∃ n, n = m.length := ⟨_, rfl⟩
  rw [← hn] at h1 h2 ⊢
  have HN := Lib.hid hn
  have HT := Lib.hid hT
  have hgl := hT.lt
  clear hn hT
  go_enter Try.func96, Try.ntmps96
  go_wp2
  go_loopw [3, 8] (fun v i wr => ∃ k : Nat, k + 1 ≤ n ∧ i = .int .i64 k ∧ wr.ownsRow w.heap.size 3 1 v (Rw.pairsTo m k).length (ints (Rw.pairsTo m k)) ∧ Below w.heap.size w wr)
    (fun _ i _ => n - (intOf i).toNat)
  case atStart => exact ⟨0, by omega, rfl, pairs_start m w, Below.refl _ _⟩
  case round =>
    obtain ⟨k, hk, rfl, hown, hbel⟩ := hrel
    have hpl := Rw.pairsTo_le m k
    by_cases hlt : k + 1 < n
    · have hTr := HT.out.below hbel hgl
      have e1 := hTr.cellB k (by have := HN.out; omega)
      have e2 := hTr.cellB (k + 1) (by have := HN.out; omega)
      clear hTr
      obtain ⟨a, ha⟩ : ∃ a, a = m.getD k false := ⟨_, rfl⟩
      obtain ⟨b, hb⟩ : ∃ b, b = m.getD (k + 1) false := ⟨_, rfl⟩
      rw [← ha] at e1
      rw [← hb] at e2
      have HP := Lib.hid (isPair_of (by have := HN.out; omega) ha.symm hb.symm)
      clear ha hb
      have i1 : (0 : Int) ≤ (k : Int) := by omega
      have i2 : (k : Int) < (n : Int) := by omega
      have i3 : IntKind.i64.wrap ((k : Int) + 1) = (k : Int) + 1 := IntWalk.i64_in _ (by omega)
      have i4 : (k : Int) + 1 < (n : Int) := by omega
      have i5 : ((k : Int) + 1).toNat = k + 1 := by omega
      have i6 : (0 : Int) ≤ (k : Int) + 1 := by omega
      have hgw : g < wr.heap.size := by have := hbel.size; omega
      go_wp2_with fail
      go_region_held3 (fun w' => w'.cell? ⟨g, k * 2, none⟩ = some (.bool a) ∧ w'.cell? ⟨g, (k + 1) * 2, none⟩ = some (.bool b)) (first | go_keep | (exact keep_two hb1 (by simp; omega) (by assumption)))
        (first | (go_at_call 101; refine (faces_any _ _ _).mono ?_; rintro e w' ⟨rfl, hb1⟩))
      have hown2 := own_kept hown hb1
      have hbel2 := below_kept hbel hb1 (Nat.le_refl _)
      clear hown hbel hb1
      rcases hc : (a && !b) with _ | _
      · have R := pairs_stay (pairsTo_no (HP.out.trans hc)) hown2
        clear hown2
        go_wp2
        go_roundw
        case rel => exact ⟨k + 1, by omega, by go_num, R, hbel2⟩
        case measure => simp [intOf]; omega
      · have HQ := Lib.hid (pairsTo_yes (HP.out.trans hc))
        go_wp2_with (at_builtin; refine wpList_append_own _ rfl _ _ 26 rfl w.heap.size 3 i0 (.int .i64 0) 1 8 Try.underlying26 hi hz0 hz1 hz2 rfl (by decide) _ _ _ rfl (hown2.alloc _) ⟨w'.heap.size, 0, none⟩ 1 1 [.int .i64 k] rfl rfl ?c1 ?c2 ?c3 ?c4 ?c5 ?_)
        case c1 =>
          intro j u hj
          match j, hj with
          | 0, hj => simp at hj; subst hj; simp [Addr.add]
        case c2 => intro u hu; simp at hu; subst hu; rfl
        case c3 => unfold maxLen; omega
        case c4 => omega
        case c5 => have := hbel2.size; simp; omega
        intro v' w1 hown' hgrow _
        have R := pairs_step HQ.out hown'
        have hb' := own_grown hbel2 (Nat.le_refl _) hown2 hgrow
        clear hown' hgrow hown2 hbel2
        go_wp2
        go_roundw
        case rel => exact ⟨k + 1, by omega, by go_num, R, hb'⟩
        case measure => simp [intOf]; omega
    · have hke : k = m.length - 1 := by have := HN.out; omega
      have R := pairs_done hke hown
      clear hown hke
      go_wp2
      go_ret
      exact ⟨_, rfl, R, hbel⟩

theorem fold_take {α : Type} (f : α → Nat → α) (a : α) (ps : List Nat) (j : Nat) (h : j < ps.length) : (ps.take (j + 1)).foldl f a = f ((ps.take j).foldl f a) ps[j] := by
  rw [List.take_succ_eq_append_getElem h, List.foldl_append]; rfl

/-- the troop after so many pairs of a tick -/
def turned (m : List Bool) (j : Nat) : List Bool := ((Rw.pairs m).take j).foldl Rw.turnAt m
def counted (m : List Bool) (c : List Nat) (j : Nat) : List Nat := ((Rw.pairs m).take j).foldl Rw.bump c
theorem turned_succ (m : List Bool) (j : Nat) (h : j < (Rw.pairs m).length) : turned m (j + 1) = Rw.turnAt (turned m j) (Rw.pairs m)[j] := fold_take _ _ _ _ h
theorem counted_succ (m : List Bool) (c : List Nat) (j : Nat) (h : j < (Rw.pairs m).length) : counted m c (j + 1) = Rw.bump (counted m c j) (Rw.pairs m)[j] := fold_take _ _ _ _ h
theorem length_turned (m : List Bool) (j : Nat) : (turned m j).length = m.length := Rw.length_foldl_turn _ _
theorem length_counted (m : List Bool) (c : List Nat) (j : Nat) : (counted m c j).length = c.length := Rw.length_foldl_bump _ _
theorem turned_all (m : List Bool) (j : Nat) (h : j = (Rw.pairs m).length) : turned m j = Rw.tick m := by
  unfold turned; rw [h, List.take_length, Rw.tick_turn]
theorem counted_all (m : List Bool) (c : List Nat) (j : Nat) (h : j = (Rw.pairs m).length) : counted m c j = (Rw.pairs m).foldl Rw.bump c := by
  unfold counted; rw [h, List.take_length]
theorem sum_counted (m : List Bool) (c : List Nat) (hc : m.length = c.length) (j : Nat) : (counted m c j).sum ≤ c.sum + 2 * j := by
  unfold counted
  rw [Rw.sum_fold _ _ (fun p h => by have := Rw.mem_pairs (List.mem_of_mem_take h); omega)]
  have := List.length_take_le j (Rw.pairs m)
  omega

/-- what a slice of ints that the call owns looks like -/
theorem own_shape {w : World} {B n : Nat} {v : Value} {ps : List Nat} (h : w.ownsRow B 3 1 v n (ints ps)) :
    (v = .slice none 0 0 ∧ n = 0) ∨ ∃ g cap, v = .slice (some ⟨g, 0, none⟩) n cap ∧ B ≤ g := by
  rcases h.2 with ⟨h1, h2⟩ | ⟨g, cap, cur, hv, hg, _⟩
  · exact .inl ⟨h1, h2⟩
  · exact .inr ⟨g, cap, hv, hg⟩
theorem own_cell {w : World} {B g cap : Nat} {ps : List Nat} (h : w.ownsRow B 3 1 (.slice (some ⟨g, 0, none⟩) ps.length cap) ps.length (ints ps)) (j : Nat) (hj : j < ps.length) : w.cell? ⟨g, j, none⟩ = some (.int .i64 (ps[j] : Nat)) := by
  rw [h.cellAt j (by omega)]
  simp [ints, hj]

theorem own_cell' {w : World} {B g cap K : Nat} {ps : List Nat} (h : w.ownsRow B 3 1 (.slice (some ⟨g, 0, none⟩) K cap) K (ints ps)) (hK : K = ps.length) (j : Nat) (hj : j < ps.length) : w.cell? ⟨g, j, none⟩ = some (.int .i64 (ps[j] : Nat)) := by
  subst hK; exact own_cell h j hj

set_option maxHeartbeats 2000000 in
set_option maxRecDepth 20000 in
theorem tick_any (g : Nat) (m : List Bool) (c : List Nat) (h1 : 1 ≤ m.length) (h2 : m.length ≤ 60) (hc : c.sum ≤ 100000) (w : World) (hT : Trp w g m c) :
    Calls Try.prog 89 #[.slice (some ⟨g, 0, none⟩) m.length m.length] w fun e w' => e = .returned (.bool (decide (0 < (Rw.pairs m).length))) ∧ Trp w' g (Rw.tick m) ((Rw.pairs m).foldl Rw.bump c) ∧ w.grownBy w' (some g) := by
  have hmc := hT.2
  have hpl : (Rw.pairs m).length ≤ 60 := by have := Rw.pairsTo_le m (m.length - 1); unfold Rw.pairs; omega
  obtain ⟨n, hn⟩ : ∃ n, n = m.length := ⟨_, rfl⟩
  rw [← hn] at h1 h2 ⊢
  have HN := Lib.hid hn
  have HMC := Lib.hid hmc
  have HP := Lib.hid (pairs_any g m c (by omega) (by omega) w hT)
  rw [← hn] at HP
  have hgl := hT.lt
  clear hn hmc
  go_enter Try.func89, Try.ntmps89
  go_wp2_with fail
  go_at_call 96
  refine HP.out.mono ?_
  rintro e w1 ⟨v, rfl, hown, hbel⟩
  have hT1 := hT.below hbel hgl
  have hG1 := below_grownBy hbel (some g)
  obtain ⟨K, hK⟩ : ∃ K, K = (Rw.pairs m).length := ⟨_, rfl⟩
  have HK := Lib.hid hK
  rw [← hK] at hown hpl
  have HO := Lib.hid hown
  have hws := hbel.size
  rcases own_shape hown with ⟨rfl, hn0⟩ | ⟨gv, cap, rfl, hgv⟩
  · have he : Rw.pairs m = [] := List.eq_nil_of_length_eq_zero (by rw [← hK]; exact hn0)
    have H1 : Hid (Trp w1 g (Rw.tick m) ((Rw.pairs m).foldl Rw.bump c)) := by unfold Rw.tick; rw [he]; exact hT1
    have H2 : Hid ((decide (0 < (Rw.pairs m).length)) = false) := by rw [he]; rfl
    clear hown hbel hT hT1 hK hn0 he
    go_wp2
    go_loopw [10] (fun i wr => i = .int .i64 0 ∧ wr = w1) (fun _ _ => 0)
    case atStart => exact ⟨rfl, rfl⟩
    case round =>
      obtain ⟨rfl, rfl⟩ := hrel
      go_wp2
      go_ret
      exact ⟨ret_bool H2.out.symm, H1.out, hG1⟩
  · clear hown hK
    go_wp2
    go_loopw [10] (fun i wr => ∃ j : Nat, j ≤ K ∧ i = .int .i64 j ∧ Trp wr g (turned m j) (counted m c j) ∧ w1.grownBy wr (some g)) (fun i _ => K - (intOf i).toNat)
    case atStart => exact ⟨0, Nat.zero_le _, rfl, hT1, World.grownBy.refl _ _⟩
    case round =>
      obtain ⟨j, hj, rfl, hTr, hG⟩ := hrel
      by_cases hlt : j < K
      · have hO : wr.ownsRow w.heap.size 3 1 (.slice (some ⟨gv, 0, none⟩) K cap) K (ints (Rw.pairs m)) := HO.out.kept hG (.inr (by simp [Value.ownBlock]; omega))
        have hjl : j < (Rw.pairs m).length := by have := HK.out; omega
        have hcell := own_cell' hO HK.out j hjl
        have hf := hO.frozenAt j
        obtain ⟨p, hp⟩ : ∃ p, p = (Rw.pairs m)[j] := ⟨_, rfl⟩
        have hmem := Rw.mem_pairs (List.getElem_mem hjl)
        rw [← hp] at hcell hmem
        have HA := Lib.hid (turned_succ m j hjl)
        have HB := Lib.hid (counted_succ m c j hjl)
        rw [← hp] at HA HB
        have hlm := length_turned m j
        have hsc := sum_counted m c HMC.out j
        have hsc' : (Rw.inc (counted m c j) p).sum ≤ 1000000 := by rw [Rw.sum_inc _ _ (by rw [length_counted, ← HMC.out]; omega)]; omega
        have hsc2 : (counted m c j).sum ≤ 1000000 := by omega
        obtain ⟨mj, hmj⟩ : ∃ mj, mj = turned m j := ⟨_, rfl⟩
        obtain ⟨cj, hcj⟩ : ∃ cj, cj = counted m c j := ⟨_, rfl⟩
        rw [← hmj] at hTr HA hlm
        rw [← hcj] at hTr HB hsc hsc' hsc2
        have hp1 : p < mj.length := by omega
        have hp2 : p + 1 < (Rw.flipAt mj p).length := by rw [Rw.length_flipAt]; omega
        have hpn : p + 1 < n := by have := HN.out; omega
        have i0 : ((p : Int) + 1).toNat = p + 1 := by omega
        have HTr := Lib.hid hTr
        have HG := Lib.hid hG
        clear hmj hcj hp hmem hO hsc hlm hTr hG hT1 hT hbel
        go_wp2_with fail
        go_at_call 99
        refine (turn_trp HTr.out hp1 hsc2).mono ?_
        rintro e w2 ⟨rfl, hT2, hG2⟩
        have HT2 := Lib.hid hT2
        have HG2 := Lib.hid hG2
        clear hT2 hG2
        go_wp2_with fail
        go_at_call 99
        refine (turn_trp HT2.out hp2 hsc').mono ?_
        rintro e w3 ⟨rfl, hT3, hG3⟩
        have HT3 : Hid (Trp w3 g (turned m (j + 1)) (counted m c (j + 1))) := by rw [HA.out, HB.out]; exact hT3
        have HG3 : Hid (w1.grownBy w3 (some g)) := grownBy_trans HG.out (grownBy_trans HG2.out hG3)
        clear hT3 hG3
        go_wp2
        go_roundw
        case rel => exact ⟨j + 1, by omega, by go_num, HT3.out, HG3.out⟩
        case measure => simp [intOf]; omega
      · have hjk : j = (Rw.pairs m).length := by have := HK.out; omega
        have H1 : Hid (Trp wr g (Rw.tick m) ((Rw.pairs m).foldl Rw.bump c)) := by rw [← turned_all m j hjk, ← counted_all m c j hjk]; exact hTr
        have H2 : Hid (w.grownBy wr (some g)) := grownBy_trans hG1 hG
        clear hjk hTr hG hT1 hT hbel hG1
        go_wp2
        go_ret
        exact ⟨ret_bool (by rw [HK.out]), H1.out, H2.out⟩

theorem ticksOf_nil {m : List Bool} (h : Rw.pairs m = []) : Rw.ticksOf m = 0 := by rw [Rw.ticksOf]; simp [h]
theorem ticksOf_cons {m : List Bool} (h : ¬ Rw.pairs m = []) : Rw.ticksOf m = Rw.ticksOf (Rw.tick m) + 1 := by rw [Rw.ticksOf]; simp [h]
theorem restOf_nil {m : List Bool} (h : Rw.pairs m = []) : Rw.restOf m = m := by rw [Rw.restOf]; simp [h]
theorem restOf_cons {m : List Bool} (h : ¬ Rw.pairs m = []) : Rw.restOf m = Rw.restOf (Rw.tick m) := by rw [Rw.restOf]; simp [h]
theorem turnsOf_nil {m : List Bool} {c : List Nat} (h : Rw.pairs m = []) : Rw.turnsOf m c = c := by rw [Rw.turnsOf]; simp [h]
theorem turnsOf_cons {m : List Bool} {c : List Nat} (h : ¬ Rw.pairs m = []) : Rw.turnsOf m c = Rw.turnsOf (Rw.tick m) ((Rw.pairs m).foldl Rw.bump c) := by rw [Rw.turnsOf]; simp [h]
theorem countOf_nil {m : List Bool} (h : Rw.pairs m = []) : Rw.countOf m = 0 := by rw [Rw.countOf]; simp [h]
theorem countOf_cons {m : List Bool} (h : ¬ Rw.pairs m = []) : Rw.countOf m = (Rw.pairs m).length + Rw.countOf (Rw.tick m) := by rw [Rw.countOf]; simp [h]

/-- where a troop stands that began as m, c, after k ticks -/
def Way (m : List Bool) (c : List Nat) (k : Nat) (mj : List Bool) (cj : List Nat) : Prop :=
  k + Rw.ticksOf mj = Rw.ticksOf m ∧ Rw.restOf mj = Rw.restOf m ∧ Rw.turnsOf mj cj = Rw.turnsOf m c ∧ mj.length = m.length ∧ cj.length = c.length ∧ cj.sum + 2 * Rw.countOf mj = c.sum + 2 * Rw.countOf m
theorem Way.start (m : List Bool) (c : List Nat) : Way m c 0 m c := ⟨by omega, rfl, rfl, rfl, rfl, rfl⟩
theorem Way.next {m mj : List Bool} {c cj : List Nat} {k : Nat} (h : Way m c k mj cj) (hc : m.length = c.length) (hp : ¬ Rw.pairs mj = []) : Way m c (k + 1) (Rw.tick mj) ((Rw.pairs mj).foldl Rw.bump cj) := by
  obtain ⟨a1, a2, a3, a4, a5, a6⟩ := h
  rw [ticksOf_cons hp] at a1
  rw [restOf_cons hp] at a2
  rw [turnsOf_cons hp] at a3
  rw [countOf_cons hp] at a6
  refine ⟨by omega, a2, a3, by simpa using a4, by rw [Rw.length_foldl_bump]; exact a5, ?_⟩
  rw [Rw.sum_fold _ _ (fun p h => by have := Rw.mem_pairs h; omega)]
  omega
theorem Way.done {m mj : List Bool} {c cj : List Nat} {k : Nat} (h : Way m c k mj cj) (hp : Rw.pairs mj = []) : k = Rw.ticksOf m ∧ mj = Rw.restOf m ∧ cj = Rw.turnsOf m c := by
  obtain ⟨a1, a2, a3, _, _, _⟩ := h
  rw [ticksOf_nil hp] at a1
  rw [restOf_nil hp] at a2
  rw [turnsOf_nil hp] at a3
  exact ⟨by omega, a2, a3⟩
theorem Way.more {m mj : List Bool} {c cj : List Nat} {k : Nat} (h : Way m c k mj cj) (hp : ¬ Rw.pairs mj = []) : k < Rw.ticksOf m := by
  have := h.1; rw [ticksOf_cons hp] at this; omega

set_option maxHeartbeats 2000000 in
set_option maxRecDepth 20000 in
theorem settle_any (g : Nat) (m : List Bool) (c : List Nat) (h1 : 1 ≤ m.length) (h2 : m.length ≤ 60) (hc : c.sum ≤ 50000) (w : World) (hT : Trp w g m c) :
    Calls Try.prog 94 #[.slice (some ⟨g, 0, none⟩) m.length m.length] w fun e w' => e = .returned (.int .i64 (Rw.ticksOf m : Nat)) ∧ Trp w' g (Rw.restOf m) (Rw.turnsOf m c) ∧ w.grownBy w' (some g) := by
  have hmc := hT.2
  have hmw := Rw.mw_row m h2
  have htb : Rw.ticksOf m ≤ 3600 := by have := Rw.ticksOf_le m; omega
  have hcb := Rw.countOf_le m
  obtain ⟨n, hn⟩ : ∃ n, n = m.length := ⟨_, rfl⟩
  obtain ⟨T, hTT⟩ : ∃ T, T = Rw.ticksOf m := ⟨_, rfl⟩
  rw [← hn] at h1 h2 ⊢
  rw [← hTT] at htb ⊢
  have HN := Lib.hid hn
  have HTT := Lib.hid hTT
  have HMC := Lib.hid hmc
  clear hn hmc hTT
  go_enter Try.func94, Try.ntmps94
  go_wp2
  go_loopw [3] (fun t wr => ∃ k mj cj, k ≤ T ∧ t = .int .i64 (k : Nat) ∧ Trp wr g mj cj ∧ Way m c k mj cj ∧ w.grownBy wr (some g)) (fun t _ => T - (intOf t).toNat)
  case atStart => exact ⟨0, m, c, Nat.zero_le _, rfl, hT, Way.start m c, World.grownBy.refl _ _⟩
  case round =>
    obtain ⟨k, mj, cj, hk, rfl, hTr, hW, hG⟩ := hrel
    have hwl := hW.2.2.2.1
    have hsum : cj.sum ≤ 100000 := by have := hW.2.2.2.2.2; omega
    have HC := Lib.hid (tick_any g mj cj (by have := HN.out; omega) (by have := HN.out; omega) hsum wr hTr)
    rw [show mj.length = n by have := HN.out; omega] at HC
    have HG := Lib.hid hG
    have HW := Lib.hid hW
    by_cases hp : Rw.pairs mj = []
    · have hd : decide (0 < (Rw.pairs mj).length) = false := by rw [hp]; rfl
      have HD := Lib.hid (hW.done hp)
      have HE : Hid (Rw.tick mj = mj ∧ (Rw.pairs mj).foldl Rw.bump cj = cj) := by unfold Rw.tick; rw [hp]; exact ⟨rfl, rfl⟩
      clear hp hW hG hTr hwl hT
      go_wp2_with fail
      go_at_call 89
      refine HC.out.mono ?_
      rintro e w2 ⟨rfl, hT2, hG2⟩
      have H1 : Hid (Trp w2 g (Rw.restOf m) (Rw.turnsOf m c)) := by rw [HE.out.1, HE.out.2, HD.out.2.1, HD.out.2.2] at hT2; exact hT2
      have H2 : Hid (w.grownBy w2 (some g)) := grownBy_trans HG.out hG2
      clear hT2 hG2
      go_wp2
      go_ret
      exact ⟨ret_int (by rw [HTT.out, HD.out.1]), H1.out, H2.out⟩
    · have hd : decide (0 < (Rw.pairs mj).length) = true := by simp; exact List.length_pos_iff.2 hp
      have hkT : k < T := by rw [HTT.out]; exact hW.more hp
      have HX := Lib.hid (hW.next HMC.out hp)
      clear hp hW hG hTr hwl hT
      go_wp2_with fail
      go_at_call 89
      refine HC.out.mono ?_
      rintro e w2 ⟨rfl, hT2, hG2⟩
      have H1 := Lib.hid hT2
      have H2 : Hid (w.grownBy w2 (some g)) := grownBy_trans HG.out hG2
      clear hT2 hG2
      go_wp2
      go_roundw
      case rel => exact ⟨k + 1, _, _, by omega, by go_num, H1.out, HX.out, H2.out⟩
      case measure => simp [intOf]; omega

theorem own_of_ints {w : World} {B : Nat} {v : Value} {ps : List Nat} (h : w.ownsRow B 3 1 v ps.length (ints ps)) : Own w B v (ps.map fun i : Nat => (i : Int)) := by
  unfold Own
  rw [List.length_map, List.map_map]
  exact h
theorem sum_zeros (n : Nat) : (List.replicate n 0).sum = 0 := by simp
set_option maxHeartbeats 1000000 in
set_option maxRecDepth 20000 in
theorem told_pairs (l : List Bool) (h1 : 1 ≤ l.length) (h2 : l.length ≤ 60) (w : World) (Q : Value → World → Prop)
    (hm : ∀ (w2 : World) (g : Nat), Below w.heap.size w w2 → w.heap.size ≤ g → Trp w2 g l (List.replicate l.length 0) →
      Calls Try.prog 96 #[.slice (some ⟨g, 0, none⟩) l.length l.length] w2 fun e w' => ∃ v, e = .returned v ∧ Q v w') :
    Calls Try.prog 95 #[.string (Rw.str l), .func (.func 96) #[] #[]] w fun e w' => ∃ v, e = .returned (.tuple #[v, .bool true]) ∧ Q v w' := by
  obtain ⟨i0, hi, hz0, hz1, hz2⟩ := info_parts info_placed
  have hsz : (Rw.str l).size = l.length := Rw.size_str l
  have hgood := goodB_str h1 h2
  obtain ⟨s, hs⟩ : ∃ s, s = Rw.str l := ⟨_, rfl⟩
  obtain ⟨n, hn⟩ : ∃ n, n = s.size := ⟨_, rfl⟩
  rw [← hs] at hsz hgood ⊢
  have HS := Lib.hid hs
  rw [← hsz] at h1 h2 hm
  have HM := Lib.hid hm
  have HZ := Lib.hid hsz
  have hml : s.size ≤ maxLen := by unfold maxLen; omega
  clear hs hsz hm
  go_enter Try.func95, Try.ntmps95
  go_wp2_with (first | (go_at_call 47; refine (isRow_any _ _ hml).mono ?_; rintro e w' ⟨rfl, rfl⟩) | (at_make; refine wpList_make_full _ rfl _ _ 98 rfl w.heap.size 112 i0 (.agg #[.bool false, .int .i64 0]) 2 Try.underlying98 hi hz0 hz1 .i64 .i64 _ _ s.size rfl rfl rfl rfl (by rw [hz2]; omega) (by unfold maxLen; omega) (Nat.le_refl _) ?_; intro w1 hown hgrow))
  have hT0 := made_trp HZ.out hown
  have hb0 := below_made hgrow
  have hg0 : w.heap.size < w1.heap.size := hT0.lt
  clear hown hgrow
  go_loopw [18] (fun i wr => ∃ k : Nat, k ≤ s.size ∧ i = .int .i64 k ∧ Trp wr w.heap.size (seen l k) (List.replicate l.length 0) ∧ Below w.heap.size w wr)
    (fun i _ => s.size - (intOf i).toNat)
  case atStart => exact ⟨0, Nat.zero_le _, rfl, hT0, hb0⟩
  case round =>
    obtain ⟨k, hk, rfl, hT, hb⟩ := hrel
    by_cases hlt : k < s.size
    · have e1 := byteR HS.out k hlt
      obtain ⟨b, hbb⟩ : ∃ b, b = l.getD k false := ⟨_, rfl⟩
      rw [← hbb] at e1
      have hc := hT.cellB k (by rw [length_seen _ _ (by have := HZ.out; omega)]; have := HZ.out; omega)
      obtain ⟨b0, hb0'⟩ : ∃ b0, b0 = (seen l k).getD k false := ⟨_, rfl⟩
      rw [← hb0'] at hc
      have hf := hT.free (k * 2)
      have R := Lib.hid (trp_step (by have := HZ.out; omega) hbb hT)
      have RB := Lib.hid (hb.setCell (p := ⟨w.heap.size, k * 2, none⟩) (Nat.le_refl _) (.bool b))
      clear hbb hb0' hT hb hT0 hb0
      go_wp2
      go_roundw
      case rel => exact ⟨k + 1, by omega, by go_num, R.out, RB.out⟩
      case measure => simp [intOf]; omega
    · have hT1 : Trp wr w.heap.size l (List.replicate l.length 0) := trp_done (by have := HZ.out; omega) hT
      have HC := Lib.hid (HM.out wr w.heap.size hb (Nat.le_refl _) (by rw [HZ.out]; exact hT1))
      clear hT hT0 hb0 hT1
      go_wp2_with (go_at_call 96; refine HC.out.mono ?_; rintro e w' ⟨v, rfl, hQ⟩)
      go_ret2
      exact ⟨_, rfl, hQ⟩
set_option maxHeartbeats 1000000 in
set_option maxRecDepth 20000 in
theorem told_settle (l : List Bool) (h1 : 1 ≤ l.length) (h2 : l.length ≤ 60) (w : World) (Q : Value → World → Prop)
    (hm : ∀ (w2 : World) (g : Nat), Below w.heap.size w w2 → w.heap.size ≤ g → Trp w2 g l (List.replicate l.length 0) →
      Calls Try.prog 94 #[.slice (some ⟨g, 0, none⟩) l.length l.length] w2 fun e w' => ∃ v, e = .returned v ∧ Q v w') :
    Calls Try.prog 93 #[.string (Rw.str l), .func (.func 94) #[] #[]] w fun e w' => ∃ v, e = .returned (.tuple #[v, .bool true]) ∧ Q v w' := by
  obtain ⟨i0, hi, hz0, hz1, hz2⟩ := info_parts info_placed
  have hsz : (Rw.str l).size = l.length := Rw.size_str l
  have hgood := goodB_str h1 h2
  obtain ⟨s, hs⟩ : ∃ s, s = Rw.str l := ⟨_, rfl⟩
  obtain ⟨n, hn⟩ : ∃ n, n = s.size := ⟨_, rfl⟩
  rw [← hs] at hsz hgood ⊢
  have HS := Lib.hid hs
  rw [← hsz] at h1 h2 hm
  have HM := Lib.hid hm
  have HZ := Lib.hid hsz
  have hml : s.size ≤ maxLen := by unfold maxLen; omega
  clear hs hsz hm
  go_enter Try.func93, Try.ntmps93
  go_wp2_with (first | (go_at_call 47; refine (isRow_any _ _ hml).mono ?_; rintro e w' ⟨rfl, rfl⟩) | (at_make; refine wpList_make_full _ rfl _ _ 98 rfl w.heap.size 112 i0 (.agg #[.bool false, .int .i64 0]) 2 Try.underlying98 hi hz0 hz1 .i64 .i64 _ _ s.size rfl rfl rfl rfl (by rw [hz2]; omega) (by unfold maxLen; omega) (Nat.le_refl _) ?_; intro w1 hown hgrow))
  have hT0 := made_trp HZ.out hown
  have hb0 := below_made hgrow
  have hg0 : w.heap.size < w1.heap.size := hT0.lt
  clear hown hgrow
  go_loopw [18] (fun i wr => ∃ k : Nat, k ≤ s.size ∧ i = .int .i64 k ∧ Trp wr w.heap.size (seen l k) (List.replicate l.length 0) ∧ Below w.heap.size w wr)
    (fun i _ => s.size - (intOf i).toNat)
  case atStart => exact ⟨0, Nat.zero_le _, rfl, hT0, hb0⟩
  case round =>
    obtain ⟨k, hk, rfl, hT, hb⟩ := hrel
    by_cases hlt : k < s.size
    · have e1 := byteR HS.out k hlt
      obtain ⟨b, hbb⟩ : ∃ b, b = l.getD k false := ⟨_, rfl⟩
      rw [← hbb] at e1
      have hc := hT.cellB k (by rw [length_seen _ _ (by have := HZ.out; omega)]; have := HZ.out; omega)
      obtain ⟨b0, hb0'⟩ : ∃ b0, b0 = (seen l k).getD k false := ⟨_, rfl⟩
      rw [← hb0'] at hc
      have hf := hT.free (k * 2)
      have R := Lib.hid (trp_step (by have := HZ.out; omega) hbb hT)
      have RB := Lib.hid (hb.setCell (p := ⟨w.heap.size, k * 2, none⟩) (Nat.le_refl _) (.bool b))
      clear hbb hb0' hT hb hT0 hb0
      go_wp2
      go_roundw
      case rel => exact ⟨k + 1, by omega, by go_num, R.out, RB.out⟩
      case measure => simp [intOf]; omega
    · have hT1 : Trp wr w.heap.size l (List.replicate l.length 0) := trp_done (by have := HZ.out; omega) hT
      have HC := Lib.hid (HM.out wr w.heap.size hb (Nat.le_refl _) (by rw [HZ.out]; exact hT1))
      clear hT hT0 hb0 hT1
      go_wp2_with (go_at_call 94; refine HC.out.mono ?_; rintro e w' ⟨v, rfl, hQ⟩)
      go_ret2
      exact ⟨_, rfl, hQ⟩
set_option maxHeartbeats 1000000 in
set_option maxRecDepth 20000 in
theorem told_turnsUntilRest (l : List Bool) (h1 : 1 ≤ l.length) (h2 : l.length ≤ 60) (w : World) (Q : Value → World → Prop)
    (hm : ∀ (w2 : World) (g : Nat), Below w.heap.size w w2 → w.heap.size ≤ g → Trp w2 g l (List.replicate l.length 0) →
      Calls Try.prog 97 #[.slice (some ⟨g, 0, none⟩) l.length l.length] w2 fun e w' => ∃ v, e = .returned v ∧ Q v w') :
    Calls Try.prog 95 #[.string (Rw.str l), .func (.func 97) #[] #[]] w fun e w' => ∃ v, e = .returned (.tuple #[v, .bool true]) ∧ Q v w' := by
  obtain ⟨i0, hi, hz0, hz1, hz2⟩ := info_parts info_placed
  have hsz : (Rw.str l).size = l.length := Rw.size_str l
  have hgood := goodB_str h1 h2
  obtain ⟨s, hs⟩ : ∃ s, s = Rw.str l := ⟨_, rfl⟩
  obtain ⟨n, hn⟩ : ∃ n, n = s.size := ⟨_, rfl⟩
  rw [← hs] at hsz hgood ⊢
  have HS := Lib.hid hs
  rw [← hsz] at h1 h2 hm
  have HM := Lib.hid hm
  have HZ := Lib.hid hsz
  have hml : s.size ≤ maxLen := by unfold maxLen; omega
  clear hs hsz hm
  go_enter Try.func95, Try.ntmps95
  go_wp2_with (first | (go_at_call 47; refine (isRow_any _ _ hml).mono ?_; rintro e w' ⟨rfl, rfl⟩) | (at_make; refine wpList_make_full _ rfl _ _ 98 rfl w.heap.size 112 i0 (.agg #[.bool false, .int .i64 0]) 2 Try.underlying98 hi hz0 hz1 .i64 .i64 _ _ s.size rfl rfl rfl rfl (by rw [hz2]; omega) (by unfold maxLen; omega) (Nat.le_refl _) ?_; intro w1 hown hgrow))
  have hT0 := made_trp HZ.out hown
  have hb0 := below_made hgrow
  have hg0 : w.heap.size < w1.heap.size := hT0.lt
  clear hown hgrow
  go_loopw [18] (fun i wr => ∃ k : Nat, k ≤ s.size ∧ i = .int .i64 k ∧ Trp wr w.heap.size (seen l k) (List.replicate l.length 0) ∧ Below w.heap.size w wr)
    (fun i _ => s.size - (intOf i).toNat)
  case atStart => exact ⟨0, Nat.zero_le _, rfl, hT0, hb0⟩
  case round =>
    obtain ⟨k, hk, rfl, hT, hb⟩ := hrel
    by_cases hlt : k < s.size
    · have e1 := byteR HS.out k hlt
      obtain ⟨b, hbb⟩ : ∃ b, b = l.getD k false := ⟨_, rfl⟩
      rw [← hbb] at e1
      have hc := hT.cellB k (by rw [length_seen _ _ (by have := HZ.out; omega)]; have := HZ.out; omega)
      obtain ⟨b0, hb0'⟩ : ∃ b0, b0 = (seen l k).getD k false := ⟨_, rfl⟩
      rw [← hb0'] at hc
      have hf := hT.free (k * 2)
      have R := Lib.hid (trp_step (by have := HZ.out; omega) hbb hT)
      have RB := Lib.hid (hb.setCell (p := ⟨w.heap.size, k * 2, none⟩) (Nat.le_refl _) (.bool b))
      clear hbb hb0' hT hb hT0 hb0
      go_wp2
      go_roundw
      case rel => exact ⟨k + 1, by omega, by go_num, R.out, RB.out⟩
      case measure => simp [intOf]; omega
    · have hT1 : Trp wr w.heap.size l (List.replicate l.length 0) := trp_done (by have := HZ.out; omega) hT
      have HC := Lib.hid (HM.out wr w.heap.size hb (Nat.le_refl _) (by rw [HZ.out]; exact hT1))
      clear hT hT0 hb0 hT1
      go_wp2_with (go_at_call 97; refine HC.out.mono ?_; rintro e w' ⟨v, rfl, hQ⟩)
      go_ret2
      exact ⟨_, rfl, hQ⟩
set_option maxHeartbeats 1000000 in
set_option maxRecDepth 20000 in
theorem told_closure (pa : Addr) (l : List Bool) (h1 : 1 ≤ l.length) (h2 : l.length ≤ 60) (w : World) (Q : Value → World → Prop)
    (hm : ∀ (w2 : World) (g : Nat), Below w.heap.size w w2 → w.heap.size ≤ g → Trp w2 g l (List.replicate l.length 0) →
      Calls Try.prog 88 #[.slice (some ⟨g, 0, none⟩) l.length l.length, .pointer (some pa)] w2 fun e w' => ∃ v, e = .returned v ∧ Q v w') :
    Calls Try.prog 87 #[.string (Rw.str l), .func (.func 88) #[] #[.pointer (some pa)]] w fun e w' => ∃ v, e = .returned (.tuple #[v, .bool true]) ∧ Q v w' := by
  obtain ⟨i0, hi, hz0, hz1, hz2⟩ := info_parts info_placed
  have hsz : (Rw.str l).size = l.length := Rw.size_str l
  have hgood := goodB_str h1 h2
  obtain ⟨s, hs⟩ : ∃ s, s = Rw.str l := ⟨_, rfl⟩
  obtain ⟨n, hn⟩ : ∃ n, n = s.size := ⟨_, rfl⟩
  rw [← hs] at hsz hgood ⊢
  have HS := Lib.hid hs
  rw [← hsz] at h1 h2 hm
  have HM := Lib.hid hm
  have HZ := Lib.hid hsz
  have hml : s.size ≤ maxLen := by unfold maxLen; omega
  clear hs hsz hm
  go_enter Try.func87, Try.ntmps87
  go_wp2_with (first | (go_at_call 47; refine (isRow_any _ _ hml).mono ?_; rintro e w' ⟨rfl, rfl⟩) | (at_make; refine wpList_make_full _ rfl _ _ 98 rfl w.heap.size 112 i0 (.agg #[.bool false, .int .i64 0]) 2 Try.underlying98 hi hz0 hz1 .i64 .i64 _ _ s.size rfl rfl rfl rfl (by rw [hz2]; omega) (by unfold maxLen; omega) (Nat.le_refl _) ?_; intro w1 hown hgrow))
  have hT0 := made_trp HZ.out hown
  have hb0 := below_made hgrow
  have hg0 : w.heap.size < w1.heap.size := hT0.lt
  clear hown hgrow
  go_loopw [18] (fun i wr => ∃ k : Nat, k ≤ s.size ∧ i = .int .i64 k ∧ Trp wr w.heap.size (seen l k) (List.replicate l.length 0) ∧ Below w.heap.size w wr)
    (fun i _ => s.size - (intOf i).toNat)
  case atStart => exact ⟨0, Nat.zero_le _, rfl, hT0, hb0⟩
  case round =>
    obtain ⟨k, hk, rfl, hT, hb⟩ := hrel
    by_cases hlt : k < s.size
    · have e1 := byteR HS.out k hlt
      obtain ⟨b, hbb⟩ : ∃ b, b = l.getD k false := ⟨_, rfl⟩
      rw [← hbb] at e1
      have hc := hT.cellB k (by rw [length_seen _ _ (by have := HZ.out; omega)]; have := HZ.out; omega)
      obtain ⟨b0, hb0'⟩ : ∃ b0, b0 = (seen l k).getD k false := ⟨_, rfl⟩
      rw [← hb0'] at hc
      have hf := hT.free (k * 2)
      have R := Lib.hid (trp_step (by have := HZ.out; omega) hbb hT)
      have RB := Lib.hid (hb.setCell (p := ⟨w.heap.size, k * 2, none⟩) (Nat.le_refl _) (.bool b))
      clear hbb hb0' hT hb hT0 hb0
      go_wp2
      go_roundw
      case rel => exact ⟨k + 1, by omega, by go_num, R.out, RB.out⟩
      case measure => simp [intOf]; omega
    · have hT1 : Trp wr w.heap.size l (List.replicate l.length 0) := trp_done (by have := HZ.out; omega) hT
      have HC := Lib.hid (HM.out wr w.heap.size hb (Nat.le_refl _) (by rw [HZ.out]; exact hT1))
      clear hT hT0 hb0 hT1
      go_wp2_with (go_at_call 88; refine HC.out.mono ?_; rintro e w' ⟨v, rfl, hQ⟩)
      go_ret2
      exact ⟨_, rfl, hQ⟩
set_option maxHeartbeats 2000000 in
set_option maxRecDepth 20000 in
theorem turnsUntilRest_any (g : Nat) (m : List Bool) (c : List Nat) (h1 : 1 ≤ m.length) (h2 : m.length ≤ 60) (hc : c.sum ≤ 50000) (B : Nat) (hB : B ≤ g) (w0 w : World) (hB0 : B ≤ w0.heap.size) (hb : Below B w0 w) (hT : Trp w g m c) :
    Calls Try.prog 97 #[.slice (some ⟨g, 0, none⟩) m.length m.length] w fun e w' => ∃ v, e = .returned v ∧ Own w' B v (asInts (Rw.turnsOf m c)) ∧ Below B w0 w' := by
  obtain ⟨i0, hi, hz0, hz1, hz2⟩ := info_parts Try.info_int
  have HC := Lib.hid (settle_any g m c h1 h2 hc w hT)
  have hlr := Rw.length_restOf m
  have hlt := Rw.length_turnsOf m c
  have hmc := hT.2
  obtain ⟨n, hn⟩ : ∃ n, n = m.length := ⟨_, rfl⟩
  obtain ⟨c', hc'⟩ : ∃ c', c' = Rw.turnsOf m c := ⟨_, rfl⟩
  rw [← hc'] at HC hlt ⊢
  rw [← hn] at HC hlr h1 h2 ⊢
  have hcl : Hid (n = (asInts c').length) := Lib.hid (by simp only [asInts, List.length_map]; omega)
  have Hb := Lib.hid hb
  have HLR := Lib.hid hlr
  clear hn hT hb hc' hlt hmc hlr
  go_enter Try.func97, Try.ntmps97
  go_wp2_with fail
  go_at_call 94
  refine HC.out.mono ?_
  rintro e w2 ⟨rfl, hT2, hG2⟩
  have HT2 := Lib.hid hT2
  have hgl := hT2.lt
  have H2 : Hid (Below B w0 w2) := grownBy_below Hb.out hG2 hB0 hB
  have hz2' := H2.out.size
  clear hT2 hG2
  go_wp2_with (at_make; refine wpList_make_full _ rfl _ _ 26 rfl B 3 i0 (.int .i64 0) 1 Try.underlying26 hi hz0 hz1 .i64 .i64 _ _ n rfl rfl rfl rfl (by rw [hz2]; omega) (by unfold maxLen; omega) (by omega) ?_; intro w3 hown hgrow)
  have hO := made_own hcl.out hown
  have hb3 := below_made hgrow
  have HT3 := Lib.hid (HT2.out.below hb3 hgl)
  have H3 : Hid (Below B w0 w3) := H2.out.trans (hb3.mono (by omega))
  have hgs : w2.heap.size < w3.heap.size := by
    rcases hO.shape with ⟨h, _⟩ | ⟨g', cap', h, _, hl⟩
    · cases h
    · cases h; exact hl
  clear hown hgrow hb3
  go_loopw [13] (fun i wr => ∃ k : Nat, k ≤ n ∧ i = .int .i64 k ∧ Own wr B (.slice (some ⟨w2.heap.size, 0, none⟩) n n) (copyTo (asInts c') k) ∧ Below w2.heap.size w3 wr ∧ Below B w0 wr) (fun i _ => n - (intOf i).toNat)
  case atStart => exact ⟨0, Nat.zero_le _, rfl, hO, Below.refl _ _, H3.out⟩
  case round =>
    obtain ⟨k, hk, rfl, ho, hbr, hbb⟩ := hrel
    have hcpl := length_copyTo (asInts c') k (by have := hcl.out; omega)
    by_cases hlt : k < n
    · have hTr := HT3.out.below hbr hgl
      have e1 := hTr.cellB k (by have := HLR.out; omega)
      have e2 := hTr.cellI k (by have := HLR.out; omega)
      have e3 := ho.cell (by have := hcl.out; omega) k (by have := hcl.out; omega)
      have f3 := ho.free (by have := hcl.out; omega) k
      have HS := Lib.hid (copyTo_succ (asInts c') k (by have := hcl.out; omega) _ (getD_asInts c' k).symm)
      obtain ⟨b, hb⟩ : ∃ b, b = (Rw.restOf m).getD k false := ⟨_, rfl⟩
      obtain ⟨x, hx⟩ : ∃ x, x = c'.getD k 0 := ⟨_, rfl⟩
      obtain ⟨y, hy⟩ : ∃ y, y = (copyTo (asInts c') k).getD k 0 := ⟨_, rfl⟩
      rw [← hb] at e1
      rw [← hx] at e2 HS
      rw [← hy] at e3
      have HO : Hid (Own (wr.setCell ⟨w2.heap.size, k, none⟩ (.int .i64 (x : Int))) B (.slice (some ⟨w2.heap.size, 0, none⟩) n n) (copyTo (asInts c') (k + 1))) := by
        rw [← HS.out]; exact ho.set (by have := hcl.out; omega) k _
      have HB1 := Lib.hid (hbr.setCell (p := ⟨w2.heap.size, k, none⟩) (Nat.le_refl _) (.int .i64 (x : Int)))
      have HB2 := Lib.hid (hbb.setCell (p := ⟨w2.heap.size, k, none⟩) (by show B ≤ w2.heap.size; omega) (.int .i64 (x : Int)))
      have hwz : w2.heap.size < wr.heap.size := by have := hbr.size; omega
      clear hb hx hy ho hbr hbb hTr hO hcpl
      go_wp2
      go_roundw
      case rel => exact ⟨k + 1, by omega, by go_num, own_alloc HO.out _, HB1.out.alloc (by simp; omega) _, HB2.out.alloc (by simp; omega) _⟩
      case measure => simp [intOf]; omega
    · have hkn : k = (asInts c').length := by have := hcl.out; omega
      rw [hkn, copyTo_all] at ho
      have HO := Lib.hid ho
      have HBB := Lib.hid hbb
      clear hkn ho hbr hbb hO hcpl
      go_wp2
      go_ret
      exact ⟨_, rfl, HO.out, HBB.out⟩
theorem int_eq3 {a b : Int} (h : a = b) : Value.int .i64 a = .int .i64 b := by rw [h]
theorem length_afterOf : ∀ (k : Nat) (m : List Bool), (Rw.afterOf k m).length = m.length
  | 0, m => rfl
  | k + 1, m => by
    rw [Rw.afterOf]
    split
    · rfl
    · rw [length_afterOf k]; simp
theorem afterOf_nil (k : Nat) {m : List Bool} (h : Rw.pairs m = []) : Rw.afterOf k m = m := by
  cases k with
  | zero => rfl
  | succ k => rw [Rw.afterOf, if_pos h]
theorem afterOf_cons (k : Nat) {m : List Bool} (h : ¬ Rw.pairs m = []) : Rw.afterOf (k + 1) m = Rw.afterOf k (Rw.tick m) := by
  rw [Rw.afterOf, if_neg h]
theorem sum_tick (m : List Bool) (c : List Nat) (h : m.length = c.length) : ((Rw.pairs m).foldl Rw.bump c).sum = c.sum + 2 * (Rw.pairs m).length := Rw.sum_fold _ _ (fun p hp => by have := Rw.mem_pairs hp; omega)

set_option maxHeartbeats 2000000 in
set_option maxRecDepth 20000 in
theorem closure_any (g : Nat) (m : List Bool) (c : List Nat) (pa : Addr) (t : Nat) (ht : t ≤ 1000000) (h1 : 1 ≤ m.length) (h2 : m.length ≤ 60) (hc : c.sum ≤ 0) (B : Nat) (hB : B ≤ g) (w0 w : World) (hB0 : B ≤ w0.heap.size) (hb : Below B w0 w) (hpa : pa.block < B) (hp : w0.cell? pa = some (.int .i64 (t : Int))) (hT : Trp w g m c) :
    Calls Try.prog 88 #[.slice (some ⟨g, 0, none⟩) m.length m.length, .pointer (some pa)] w fun e w' => e = .returned (.string (Rw.str (Rw.afterOf t m))) ∧ Below B w0 w' := by
  have hcell := (hb.cell hpa).trans hp
  have hmc := hT.2
  have hmw := Rw.mw_row m h2
  have hcb := Rw.countOf_le m
  obtain ⟨n, hn⟩ : ∃ n, n = m.length := ⟨_, rfl⟩
  rw [← hn] at h1 h2 ⊢
  have HN := Lib.hid hn
  have HMC := Lib.hid hmc
  have HCB : Hid (Rw.countOf m ≤ 3600) := Lib.hid (by omega)
  clear hn hmc hmw hcb hp
  go_enter Try.func88, Try.ntmps88
  go_wp2
  go_loopw [5] (fun i wr => ∃ (k : Nat) (mj : List Bool) (cj : List Nat), k ≤ t ∧ i = .int .i64 (k : Int) ∧ Trp wr g mj cj ∧ mj.length = n ∧ cj.sum + 2 * Rw.countOf mj ≤ 7200 ∧ Rw.afterOf (t - k) mj = Rw.afterOf t m ∧ Below B w0 wr) (fun i _ => t - (intOf i).toNat)
  case atStart => exact ⟨0, m, c, Nat.zero_le _, rfl, hT, HN.out.symm, by have := HCB.out; omega, rfl, hb⟩
  case round =>
    obtain ⟨k, mj, cj, hk, rfl, hTr, hlen, hsum, haf, hbr⟩ := hrel
    have hmj := hTr.2
    have HC := Lib.hid (tick_any g mj cj (by omega) (by omega) (by omega) wr hTr)
    have HX := Lib.hid (fun w2 m2 c2 (hl : m2.length = n) h => text_any g m2 c2 (by omega) (by omega) w2 h)
    rw [hlen] at HC
    have HBR := Lib.hid hbr
    have HAF := Lib.hid haf
    have HT2 := Lib.hid hTr
    have HL := Lib.hid hlen
    have hwz := hbr.size
    by_cases hlt : k < t
    · by_cases hp : Rw.pairs mj = []
      · have hd : decide (0 < (Rw.pairs mj).length) = false := by rw [hp]; rfl
        have HE : Hid (Rw.tick mj = mj ∧ (Rw.pairs mj).foldl Rw.bump cj = cj) := by unfold Rw.tick; rw [hp]; exact ⟨rfl, rfl⟩
        have HF : Hid (mj = Rw.afterOf t m) := by rw [← HAF.out, afterOf_nil _ hp]; exact rfl
        clear hp haf hbr hTr hT hb hcell hlen hmj
        go_wp2_with fail
        go_at_call 89
        refine HC.out.mono ?_
        rintro e w2 ⟨rfl, hT2, hG2⟩
        have H1 : Hid (Trp w2 g mj cj) := by rw [HE.out.1, HE.out.2] at hT2; exact hT2
        have H2 : Hid (Below B w0 w2) := grownBy_below HBR.out hG2 hB0 hB
        have hz2 := H2.out.size
        clear hT2 hG2
        have HXX := HX.out w2 mj cj HL.out H1.out
        rw [HL.out] at HXX
        have HXY := Lib.hid HXX
        clear HXX
        go_wp2_with fail
        go_at_call 85
        refine HXY.out.mono ?_
        rintro e w3 ⟨rfl, hb3⟩
        have H3 : Hid (Below B w0 w3) := H2.out.trans (hb3.mono (by omega))
        clear hb3
        go_wp2
        go_ret
        exact ⟨ret_str (by rw [← HF.out]), H3.out⟩
      · have hd : decide (0 < (Rw.pairs mj).length) = true := by simp; exact List.length_pos_iff.2 hp
        have HS : Hid (((Rw.pairs mj).foldl Rw.bump cj).sum + 2 * Rw.countOf (Rw.tick mj) ≤ 7200) := by
          rw [sum_tick mj cj hmj]; rw [countOf_cons hp] at hsum; exact Lib.hid (by omega)
        have HF : Hid (Rw.afterOf (t - (k + 1)) (Rw.tick mj) = Rw.afterOf t m) := by
          rw [← HAF.out, show t - k = (t - (k + 1)) + 1 from by omega, afterOf_cons _ hp]; exact rfl
        clear hp haf hbr hTr hT hb hlen hmj hsum hcell
        go_wp2_with fail
        go_at_call 89
        refine HC.out.mono ?_
        rintro e w2 ⟨rfl, hT2, hG2⟩
        have H1 := Lib.hid hT2
        have H2 : Hid (Below B w0 w2) := grownBy_below HBR.out hG2 hB0 hB
        clear hT2 hG2
        go_wp2
        go_roundw
        case rel => exact ⟨k + 1, _, _, by omega, by go_num, H1.out, by rw [Rw.length_tick]; exact HL.out, HS.out, HF.out, H2.out⟩
        case measure => simp [intOf]; omega
    · have HF : Hid (mj = Rw.afterOf t m) := by rw [← HAF.out, show t - k = 0 from by omega]; exact rfl
      have HXX := HX.out wr mj cj HL.out HT2.out
      rw [HL.out] at HXX
      have HXY := Lib.hid HXX
      clear haf hbr hTr hT hb hcell hlen hmj HXX
      go_wp2_with fail
      go_at_call 85
      refine HXY.out.mono ?_
      rintro e w3 ⟨rfl, hb3⟩
      have H3 : Hid (Below B w0 w3) := HBR.out.trans (hb3.mono (by omega))
      clear hb3
      go_wp2
      go_ret
      exact ⟨ret_str (by rw [← HF.out]), H3.out⟩
set_option maxHeartbeats 400000 in
set_option maxRecDepth 20000 in
theorem implTicks_yes (l : List Bool) (h1 : 1 ≤ l.length) (h2 : l.length ≤ 60) (w : World) :
    Calls Try.prog 78 #[.string (Rw.str l)] w fun e w' => e = .returned (.tuple #[.int .i64 (Rw.ticksOf l : Nat), .bool true]) ∧ Below w.heap.size w w' := by
  have H := Lib.hid (told_settle l h1 h2 w (fun v w' => v = .int .i64 (Rw.ticksOf l : Nat) ∧ Below w.heap.size w w') (fun w2 g hb hg hT =>
    (settle_any g l _ h1 h2 (by rw [sum_zeros]; omega) w2 hT).mono fun e w' ⟨he, _, hG⟩ => ⟨_, he, rfl, grownBy_below hb hG (Nat.le_refl _) hg⟩))
  go_enter Try.func78, Try.ntmps78
  go_wp2_with (go_at_call 93; refine H.out.mono ?_; rintro e w' ⟨v, rfl, rfl, hb⟩)
  go_ret2
  exact ⟨rfl, hb⟩

theorem method_FacingPairs (l : List Bool) (h1 : 1 ≤ l.length) (h2 : l.length ≤ 60) (w w2 : World) (g : Nat) (hb : Below w.heap.size w w2) (_hg : w.heap.size ≤ g) (hT : Trp w2 g l (List.replicate l.length 0)) :
    Calls Try.prog 96 #[.slice (some ⟨g, 0, none⟩) l.length l.length] w2 fun e w' => ∃ v, e = .returned v ∧ Own w' w.heap.size v (asInts (Rw.pairs l)) ∧ Below w.heap.size w w' :=
  (pairs_any g l _ h1 h2 w2 hT).mono fun _ _ ⟨v, he, ho, hb'⟩ => ⟨v, he, (own_of_ints ho).mono hb.size, hb.trans (hb'.mono hb.size)⟩
set_option maxHeartbeats 400000 in
set_option maxRecDepth 20000 in
theorem implFacingPairs_yes (l : List Bool) (h1 : 1 ≤ l.length) (h2 : l.length ≤ 60) (w : World) :
    Calls Try.prog 79 #[.string (Rw.str l)] w fun e w' => ∃ v, e = .returned (.tuple #[v, .bool true]) ∧ Own w' w.heap.size v (asInts (Rw.pairs l)) ∧ Below w.heap.size w w' := by
  have H := Lib.hid (told_pairs l h1 h2 w (fun v w' => Own w' w.heap.size v (asInts (Rw.pairs l)) ∧ Below w.heap.size w w') (method_FacingPairs l h1 h2 w))
  go_enter Try.func79, Try.ntmps79
  go_wp2_with (go_at_call 95; refine H.out.mono ?_; rintro e w' ⟨v, rfl, ho, hb⟩)
  go_ret2
  exact ⟨_, rfl, ho, hb⟩

theorem method_TurnsOfEach (l : List Bool) (h1 : 1 ≤ l.length) (h2 : l.length ≤ 60) (w w2 : World) (g : Nat) (hb : Below w.heap.size w w2) (hg : w.heap.size ≤ g) (hT : Trp w2 g l (List.replicate l.length 0)) :
    Calls Try.prog 97 #[.slice (some ⟨g, 0, none⟩) l.length l.length] w2 fun e w' => ∃ v, e = .returned v ∧ Own w' w.heap.size v (asInts (Rw.turnsOf l (List.replicate l.length 0))) ∧ Below w.heap.size w w' :=
  (turnsUntilRest_any g l _ h1 h2 (by simp) w.heap.size hg w w2 (Nat.le_refl _) hb hT).mono fun _ _ ⟨v, he, ho, hb'⟩ => ⟨v, he, ho, hb'⟩
set_option maxHeartbeats 400000 in
set_option maxRecDepth 20000 in
theorem implTurnsOfEach_yes (l : List Bool) (h1 : 1 ≤ l.length) (h2 : l.length ≤ 60) (w : World) :
    Calls Try.prog 80 #[.string (Rw.str l)] w fun e w' => ∃ v, e = .returned (.tuple #[v, .bool true]) ∧ Own w' w.heap.size v (asInts (Rw.turnsOf l (List.replicate l.length 0))) ∧ Below w.heap.size w w' := by
  have H := Lib.hid (told_turnsUntilRest l h1 h2 w (fun v w' => Own w' w.heap.size v (asInts (Rw.turnsOf l (List.replicate l.length 0))) ∧ Below w.heap.size w w') (method_TurnsOfEach l h1 h2 w))
  go_enter Try.func80, Try.ntmps80
  go_wp2_with (go_at_call 95; refine H.out.mono ?_; rintro e w' ⟨v, rfl, ho, hb⟩)
  go_ret2
  exact ⟨_, rfl, ho, hb⟩

set_option maxHeartbeats 1000000 in
set_option maxRecDepth 20000 in
theorem implRowAfter_yes (l : List Bool) (t : Nat) (ht : t ≤ 1000000) (h1 : 1 ≤ l.length) (h2 : l.length ≤ 60) (w : World) :
    Calls Try.prog 76 #[.string (Rw.str l), .int .i64 (t : Int)] w fun e w' => e = .returned (.tuple #[.string (Rw.str (Rw.afterOf t l)), .bool true]) ∧ Below w.heap.size w w' := by
  have b1 : decide ((t : Int) < 0) = false := by simp
  have b2 : decide ((1000000 : Int) < t) = false := by simp; omega
  have hb0 : Below w.heap.size w (w.alloc (.cells #[.int .i64 (t : Int)] 3)) := (Below.refl _ _).alloc (Nat.le_refl _) _
  have H := Lib.hid (told_closure ⟨w.heap.size, 0, none⟩ l h1 h2 (w.alloc (.cells #[.int .i64 (t : Int)] 3)) (fun v w' => v = .string (Rw.str (Rw.afterOf t l)) ∧ Below w.heap.size w w') (fun w2 g hb hg hT =>
    (closure_any g l _ ⟨w.heap.size, 0, none⟩ t ht h1 h2 (by simp) (w.heap.size + 1) (by simpa using hg) _ w2 (by simp) (by simpa using hb) (by simp) (by simp) hT).mono fun e w' ⟨he, hb'⟩ => ⟨_, he, rfl, hb0.trans (hb'.mono (by omega))⟩))
  clear hb0
  go_enter Try.func76, Try.ntmps76
  go_wp2_with (go_at_call 87; refine H.out.mono ?_; rintro e w' ⟨v, rfl, rfl, hb⟩)
  go_ret2
  exact ⟨rfl, hb⟩

end Tp
end Go.Proofs.Ytodlpdbmiicdfab
