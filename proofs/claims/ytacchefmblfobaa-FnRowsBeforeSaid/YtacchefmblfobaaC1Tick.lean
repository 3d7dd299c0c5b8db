
/- turn and tick: all pairs who face each other turn, and how often each has turned is counted. -/
import Derived.Test.YtacchefmblfobaaC1Troop
namespace Go.Proofs.Ytacchefmblfobaa.C1
open Go.ChangeShapes Go.WideShapes Go.ChangeAt Go.RowKit

set_option maxRecDepth 20000 in
theorem turn_any (g k : Nat) (b : Bool) (x : Nat) (hx : x ≤ 1000000000) (w : World) (h1 : w.cell? ⟨g, k * 2, none⟩ = some (.bool b)) (h2 : w.cell? ⟨g, k * 2 + 1, none⟩ = some (.int .i64 (x : Int)))
    (f1 : w.frozen? ⟨g, k * 2, none⟩ = false) (f2 : w.frozen? ⟨g, k * 2 + 1, none⟩ = false) :
    Calls Try.prog 106 #[.pointer (some ⟨g, k * 2, none⟩)] w fun e w' => e = .returned (.tuple #[]) ∧ (w.setCell ⟨g, k * 2, none⟩ (.bool (!b))).setCell ⟨g, k * 2 + 1, none⟩ (.int .i64 ((x + 1 : Nat) : Int)) = w' := by
  go_enter Try.func106, Try.ntmps106
  go_wp2
  go_end0
  exact ⟨rfl, rfl⟩

theorem grownBy_trans {a b c : World} {r : Option Nat} (h : a.grownBy b r) (k : b.grownBy c r) : a.grownBy c r :=
  ⟨k.os.trans h.os, k.tape.trans h.tape, k.output.trans h.output, Nat.le_trans h.size k.size, fun i hi hr => (k.block i (Nat.lt_of_lt_of_le hi h.size) hr).trans (h.block i hi hr)⟩
theorem below_grownBy {w w' : World} (h : Below w.heap.size w w') (r : Option Nat) : w.grownBy w' r := ⟨h.os, h.tape, h.output, h.size, fun k hk _ => h.block k hk⟩
theorem grownBy_below {B : Nat} {w0 w w' : World} {g : Nat} (h : Below B w0 w) (hg : w.grownBy w' (some g)) (hB : B ≤ w0.heap.size) (hBg : B ≤ g) : Below B w0 w' :=
  h.grown hg (Nat.le_trans hB h.size) (fun k hk => by cases hk; exact hBg)
theorem set_grown (w : World) (g j : Nat) (v : Value) : w.grownBy (w.setCell ⟨g, j, none⟩ v) (some g) :=
  ⟨rfl, rfl, rfl, by simp [World.setCell], fun k _ hk => Below.heap_setCell _ _ _ _ (fun e => hk (by rw [e]))⟩

set_option maxRecDepth 20000 in
theorem turn_trp {w : World} {g k : Nat} {m : List Bool} {c : List Nat} (hT : Trp w g m c) (hk : k < m.length) (hc : c.sum ≤ 1000000) :
    Calls Try.prog 106 #[.pointer (some ⟨g, k * 2, none⟩)] w fun e w' => e = .returned (.tuple #[]) ∧ Trp w' g (Rw.flipAt m k) (Rw.inc c k) ∧ w.grownBy w' (some g) := by
  have hx := Rw.getD_le_sum c k
  refine (turn_any g k (m.getD k false) (c.getD k 0) (by omega) w (hT.cellB k hk) (hT.cellI k hk) (hT.free _) (hT.free _)).mono fun e w' ⟨he, hw⟩ => ⟨he, ?_, ?_⟩
  · rw [← hw]; exact (hT.setB k _).setI k _
  · rw [← hw]; exact grownBy_trans (set_grown _ _ _ _) (set_grown _ _ _ _)

theorem fold_take {α : Type} (f : α → Nat → α) (a : α) (ps : List Nat) (j : Nat) (h : j < ps.length) : (ps.take (j + 1)).foldl f a = f ((ps.take j).foldl f a) ps[j] := by
  rw [List.take_succ_eq_append_getElem h, List.foldl_append]; rfl

/-- the troop after so many pairs of a tick -/
def turned (m : List Bool) (j : Nat) : List Bool := ((Rw.pairs m).take j).foldl Rw.turnAt m
def counted (m : List Bool) (c : List Nat) (j : Nat) : List Nat := ((Rw.pairs m).take j).foldl Rw.bump c
theorem turned_succ (m : List Bool) (j : Nat) (h : j < (Rw.pairs m).length) : turned m (j + 1) = Rw.turnAt (turned m j) (Rw.pairs m)[j] := fold_take _ _ _ _ h
theorem counted_succ (m : List Bool) (c : List Nat) (j : Nat) (h : j < (Rw.pairs m).length) : counted m c (j + 1) = Rw.bump (counted m c j) (Rw.pairs m)[j] := fold_take _ _ _ _ h
theorem length_turned (m : List Bool) (j : Nat) : (turned m j).length = m.length := Rw.length_foldl_turn _ _
theorem length_counted (m : List Bool) (c : List Nat) (j : Nat) : (counted m c j).length = c.length := Rw.length_foldl_bump _ _
theorem turned_all (m : List Bool) (j : Nat) (h : j = (Rw.pairs m).length) : turned m j = Rw.tick m := by
  unfold turned; rw [h, List.take_length, Rw.tick_turn]
theorem counted_all (m : List Bool) (c : List Nat) (j : Nat) (h : j = (Rw.pairs m).length) : counted m c j = (Rw.pairs m).foldl Rw.bump c := by
  unfold counted; rw [h, List.take_length]
theorem sum_counted (m : List Bool) (c : List Nat) (hc : m.length = c.length) (j : Nat) : (counted m c j).sum ≤ c.sum + 2 * j := by
  unfold counted
  rw [Rw.sum_fold _ _ (fun p h => by have := Rw.mem_pairs (List.mem_of_mem_take h); omega)]
  have := List.length_take_le j (Rw.pairs m)
  omega

/-- what a slice of ints that the call owns looks like -/
theorem own_shape {w : World} {B n : Nat} {v : Value} {ps : List Nat} (h : w.ownsRow B 3 1 v n (ints ps)) :
    (v = .slice none 0 0 ∧ n = 0) ∨ ∃ g cap, v = .slice (some ⟨g, 0, none⟩) n cap ∧ B ≤ g := by
  rcases h.2 with ⟨h1, h2⟩ | ⟨g, cap, cur, hv, hg, _⟩
  · exact .inl ⟨h1, h2⟩
  · exact .inr ⟨g, cap, hv, hg⟩
theorem own_cell {w : World} {B g cap : Nat} {ps : List Nat} (h : w.ownsRow B 3 1 (.slice (some ⟨g, 0, none⟩) ps.length cap) ps.length (ints ps)) (j : Nat) (hj : j < ps.length) : w.cell? ⟨g, j, none⟩ = some (.int .i64 (ps[j] : Nat)) := by
  rw [h.cellAt j (by omega)]
  simp [ints, hj]

theorem own_cell' {w : World} {B g cap K : Nat} {ps : List Nat} (h : w.ownsRow B 3 1 (.slice (some ⟨g, 0, none⟩) K cap) K (ints ps)) (hK : K = ps.length) (j : Nat) (hj : j < ps.length) : w.cell? ⟨g, j, none⟩ = some (.int .i64 (ps[j] : Nat)) := by
  subst hK; exact own_cell h j hj

set_option maxRecDepth 20000 in
set_option maxHeartbeats 2000000 in
theorem tick_any (g : Nat) (m : List Bool) (c : List Nat) (h1 : 1 ≤ m.length) (h2 : m.length ≤ 60) (hc : c.sum ≤ 100000) (w : World) (hT : Trp w g m c) :
    Calls Try.prog 88 #[.slice (some ⟨g, 0, none⟩) m.length m.length] w fun e w' => e = .returned (.bool (decide (0 < (Rw.pairs m).length))) ∧ Trp w' g (Rw.tick m) ((Rw.pairs m).foldl Rw.bump c) ∧ w.grownBy w' (some g) := by
  have hmc := hT.2
  have hpl : (Rw.pairs m).length ≤ 60 := by have := Rw.pairsTo_le m (m.length - 1); unfold Rw.pairs; omega
  obtain ⟨n, hn⟩ : ∃ n, n = m.length := ⟨_, rfl⟩
  rw [← hn] at h1 h2 ⊢
  have HN := Lib.hid hn
  have HMC := Lib.hid hmc
  have HP := Lib.hid (pairs_any g m c (by omega) (by omega) w hT)
  rw [← hn] at HP
  have hgl := hT.lt
  clear hn hmc
  go_enter Try.func88, Try.ntmps88
  go_wp2_with fail
  go_at_call 74
  refine HP.out.mono ?_
  rintro e w1 ⟨v, rfl, hown, hbel⟩
  have hT1 := hT.below hbel hgl
  have hG1 := below_grownBy hbel (some g)
  obtain ⟨K, hK⟩ : ∃ K, K = (Rw.pairs m).length := ⟨_, rfl⟩
  have HK := Lib.hid hK
  rw [← hK] at hown hpl
  have HO := Lib.hid hown
  have hws := hbel.size
  rcases own_shape hown with ⟨rfl, hn0⟩ | ⟨gv, cap, rfl, hgv⟩
  · have he : Rw.pairs m = [] := List.eq_nil_of_length_eq_zero (by rw [← hK]; exact hn0)
    have H1 : Hid (Trp w1 g (Rw.tick m) ((Rw.pairs m).foldl Rw.bump c)) := by unfold Rw.tick; rw [he]; exact hT1
    have H2 : Hid ((decide (0 < (Rw.pairs m).length)) = false) := by rw [he]; rfl
    clear hown hbel hT hT1 hK hn0 he
    go_wp2
    go_loopw [10] (fun i wr => i = .int .i64 0 ∧ wr = w1) (fun _ _ => 0)
    case atStart => exact ⟨rfl, rfl⟩
    case round =>
      obtain ⟨rfl, rfl⟩ := hrel
      go_wp2
      go_ret
      exact ⟨ret_bool H2.out.symm, H1.out, hG1⟩
  · clear hown hK
    go_wp2
    go_loopw [10] (fun i wr => ∃ j : Nat, j ≤ K ∧ i = .int .i64 j ∧ Trp wr g (turned m j) (counted m c j) ∧ w1.grownBy wr (some g)) (fun i _ => K - (intOf i).toNat)
    case atStart => exact ⟨0, Nat.zero_le _, rfl, hT1, World.grownBy.refl _ _⟩
    case round =>
      obtain ⟨j, hj, rfl, hTr, hG⟩ := hrel
      by_cases hlt : j < K
      · have hO : wr.ownsRow w.heap.size 3 1 (.slice (some ⟨gv, 0, none⟩) K cap) K (ints (Rw.pairs m)) := HO.out.kept hG (.inr (by simp [Value.ownBlock]; omega))
        have hjl : j < (Rw.pairs m).length := by have := HK.out; omega
        have hcell := own_cell' hO HK.out j hjl
        have hf := hO.frozenAt j
        obtain ⟨p, hp⟩ : ∃ p, p = (Rw.pairs m)[j] := ⟨_, rfl⟩
        have hmem := Rw.mem_pairs (List.getElem_mem hjl)
        rw [← hp] at hcell hmem
        have HA := Lib.hid (turned_succ m j hjl)
        have HB := Lib.hid (counted_succ m c j hjl)
        rw [← hp] at HA HB
        have hlm := length_turned m j
        have hsc := sum_counted m c HMC.out j
        have hsc' : (Rw.inc (counted m c j) p).sum ≤ 1000000 := by rw [Rw.sum_inc _ _ (by rw [length_counted, ← HMC.out]; omega)]; omega
        have hsc2 : (counted m c j).sum ≤ 1000000 := by omega
        obtain ⟨mj, hmj⟩ : ∃ mj, mj = turned m j := ⟨_, rfl⟩
        obtain ⟨cj, hcj⟩ : ∃ cj, cj = counted m c j := ⟨_, rfl⟩
        rw [← hmj] at hTr HA hlm
        rw [← hcj] at hTr HB hsc hsc' hsc2
        have hp1 : p < mj.length := by omega
        have hp2 : p + 1 < (Rw.flipAt mj p).length := by rw [Rw.length_flipAt]; omega
        have hpn : p + 1 < n := by have := HN.out; omega
        have i0 : ((p : Int) + 1).toNat = p + 1 := by omega
        have HTr := Lib.hid hTr
        have HG := Lib.hid hG
        clear hmj hcj hp hmem hO hsc hlm hTr hG hT1 hT hbel
        go_wp2_with fail
        go_at_call 106
        refine (turn_trp HTr.out hp1 hsc2).mono ?_
        rintro e w2 ⟨rfl, hT2, hG2⟩
        have HT2 := Lib.hid hT2
        have HG2 := Lib.hid hG2
        clear hT2 hG2
        go_wp2_with fail
        go_at_call 106
        refine (turn_trp HT2.out hp2 hsc').mono ?_
        rintro e w3 ⟨rfl, hT3, hG3⟩
        have HT3 : Hid (Trp w3 g (turned m (j + 1)) (counted m c (j + 1))) := by rw [HA.out, HB.out]; exact hT3
        have HG3 : Hid (w1.grownBy w3 (some g)) := grownBy_trans HG.out (grownBy_trans HG2.out hG3)
        clear hT3 hG3
        go_wp2
        go_roundw
        case rel => exact ⟨j + 1, by omega, by go_num, HT3.out, HG3.out⟩
        case measure => simp [intOf]; omega
      · have hjk : j = (Rw.pairs m).length := by have := HK.out; omega
        have H1 : Hid (Trp wr g (Rw.tick m) ((Rw.pairs m).foldl Rw.bump c)) := by rw [← turned_all m j hjk, ← counted_all m c j hjk]; exact hTr
        have H2 : Hid (w.grownBy wr (some g)) := grownBy_trans hG1 hG
        clear hjk hTr hG hT1 hT hbel hG1
        go_wp2
        go_ret
        exact ⟨ret_bool (by rw [HK.out]), H1.out, H2.out⟩

end Go.Proofs.Ytacchefmblfobaa.C1
