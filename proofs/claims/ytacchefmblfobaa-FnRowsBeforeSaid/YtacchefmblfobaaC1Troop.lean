
/- Troops: slices of structs that the call made: faces, turn, pairs. -/
import Derived.Test.YtacchefmblfobaaC1Pairs
import Derived.Laws.StructEq
import Derived.Deep.RegionHeld3
import Derived.Deep.RegionWith
namespace Go.Proofs.Ytacchefmblfobaa.C1
open Go.ChangeShapes Go.WideShapes Go.ChangeAt Go.RowKit

/-- the cells of a troop: each soldier's look, and how often this one has turned -/
def tc : List Bool → List Nat → List Value
  | b :: m, x :: c => .bool b :: .int .i64 (x : Int) :: tc m c
  | _, _ => []
theorem length_tc : ∀ (m : List Bool) (c : List Nat), m.length = c.length → (tc m c).length = m.length * 2
  | [], _, _ => by simp [tc]
  | b :: m, [], h => by simp at h
  | b :: m, x :: c, h => by simp [tc, length_tc m c (by simpa using h)]; omega
theorem tc_b : ∀ (m : List Bool) (c : List Nat) (k : Nat), m.length = c.length → k < m.length → (tc m c)[k * 2]? = some (.bool (m.getD k false))
  | [], _, _, _, h => by simp at h
  | b :: m, [], _, h, _ => by simp at h
  | b :: m, x :: c, 0, _, _ => by simp [tc]
  | b :: m, x :: c, k + 1, h, hk => by
    have := tc_b m c k (by simpa using h) (by simpa using hk)
    rw [show (k + 1) * 2 = k * 2 + 1 + 1 from by omega]
    simpa [tc] using this
theorem tc_i : ∀ (m : List Bool) (c : List Nat) (k : Nat), m.length = c.length → k < m.length → (tc m c)[k * 2 + 1]? = some (.int .i64 (c.getD k 0 : Nat))
  | [], _, _, _, h => by simp at h
  | b :: m, [], _, h, _ => by simp at h
  | b :: m, x :: c, 0, _, _ => by simp [tc]
  | b :: m, x :: c, k + 1, h, hk => by
    have := tc_i m c k (by simpa using h) (by simpa using hk)
    rw [show (k + 1) * 2 + 1 = k * 2 + 1 + 1 + 1 from by omega]
    simpa [tc] using this
theorem tc_set_b : ∀ (m : List Bool) (c : List Nat) (k : Nat) (b : Bool), m.length = c.length → (tc m c).set (k * 2) (.bool b) = tc (m.set k b) c
  | [], _, _, _, _ => by simp [tc]
  | b :: m, [], _, _, h => by simp at h
  | a :: m, x :: c, 0, b, _ => by simp [tc]
  | a :: m, x :: c, k + 1, b, h => by
    have := tc_set_b m c k b (by simpa using h)
    rw [show (k + 1) * 2 = k * 2 + 1 + 1 from by omega]
    simpa [tc] using this
theorem tc_set_i : ∀ (m : List Bool) (c : List Nat) (k x : Nat), m.length = c.length → (tc m c).set (k * 2 + 1) (.int .i64 (x : Int)) = tc m (c.set k x)
  | [], _, _, _, _ => by simp [tc]
  | b :: m, [], _, _, h => by simp at h
  | a :: m, y :: c, 0, x, _ => by simp [tc]
  | a :: m, y :: c, k + 1, x, h => by
    have := tc_set_i m c k x (by simpa using h)
    rw [show (k + 1) * 2 + 1 = k * 2 + 1 + 1 + 1 from by omega]
    simpa [tc] using this

/-- block g holds just this troop -/
def Trp (w : World) (g : Nat) (m : List Bool) (c : List Nat) : Prop := w.heap[g]? = some (.cells (tc m c).toArray 94 (0, 0)) ∧ m.length = c.length

theorem Trp.lt {w : World} {g : Nat} {m : List Bool} {c : List Nat} (h : Trp w g m c) : g < w.heap.size := lt_of_block h.1
theorem Trp.cellB {w : World} {g : Nat} {m : List Bool} {c : List Nat} (h : Trp w g m c) (k : Nat) (hk : k < m.length) : w.cell? ⟨g, k * 2, none⟩ = some (.bool (m.getD k false)) := by
  rw [cell_of_row w g _ _ _ _ h.1]; simpa using tc_b m c k h.2 hk
theorem Trp.cellI {w : World} {g : Nat} {m : List Bool} {c : List Nat} (h : Trp w g m c) (k : Nat) (hk : k < m.length) : w.cell? ⟨g, k * 2 + 1, none⟩ = some (.int .i64 (c.getD k 0 : Nat)) := by
  rw [cell_of_row w g _ _ _ _ h.1]; simpa using tc_i m c k h.2 hk
theorem Trp.free {w : World} {g : Nat} {m : List Bool} {c : List Nat} (h : Trp w g m c) (j : Nat) : w.frozen? ⟨g, j, none⟩ = false := frozen_of_row w g j _ _ h.1
theorem Trp.setB {w : World} {g : Nat} {m : List Bool} {c : List Nat} (h : Trp w g m c) (k : Nat) (b : Bool) : Trp (w.setCell ⟨g, k * 2, none⟩ (.bool b)) g (m.set k b) c := by
  refine ⟨?_, by simpa using h.2⟩
  rw [heap_setCell_same w g (k * 2) _ _ _ h.1, ← tc_set_b m c k b h.2]
  simp
theorem Trp.setI {w : World} {g : Nat} {m : List Bool} {c : List Nat} (h : Trp w g m c) (k x : Nat) : Trp (w.setCell ⟨g, k * 2 + 1, none⟩ (.int .i64 (x : Int))) g m (c.set k x) := by
  refine ⟨?_, by simpa using h.2⟩
  rw [heap_setCell_same w g (k * 2 + 1) _ _ _ h.1, ← tc_set_i m c k x h.2]
  simp
theorem Trp.of_block {w w' : World} {g : Nat} {m : List Bool} {c : List Nat} (h : Trp w g m c) (e : w'.heap[g]? = w.heap[g]?) : Trp w' g m c := ⟨by rw [e]; exact h.1, h.2⟩
theorem Trp.below {w w' : World} {B g : Nat} {m : List Bool} {c : List Nat} (h : Trp w g m c) (hb : Below B w w') (hg : g < B) : Trp w' g m c := h.of_block (hb.block g hg)

set_option maxRecDepth 20000 in
set_option maxHeartbeats 400000 in
theorem faces_any (a b : Bool) (w : World) :
    Calls Try.prog 104 #[.agg #[.bool a], .agg #[.bool b]] w fun e w' => e = .returned (.bool (a && !b)) ∧ Below w.heap.size w w' := by
  cases a <;> cases b
  all_goals
    go_enter Try.func104, Try.ntmps104
    go_wp2
    go_ret
    exact ⟨rfl, ((Below.refl _ _).alloc (Nat.le_refl _) _).alloc (by simp) _⟩

theorem own_kept {B n size : Nat} {w w' : World} {e : TypeId} {v : Value} {xs : List Value} (h : w.ownsRow B e size v n xs) (hb : Below w.drew.heap.size w.drew w') : w'.ownsRow B e size v n xs :=
  World.ownsRow.kept (row := none) (w := w.drew) h ⟨hb.os, hb.tape, hb.output, hb.size, fun k hk _ => hb.block k hk⟩ (by cases v.ownBlock <;> simp)
theorem below_kept {B : Nat} {w0 w w' : World} (h : Below B w0 w) (hb : Below w.drew.heap.size w.drew w') (hB : B ≤ w0.heap.size) : Below B w0 w' :=
  ⟨hb.os.trans h.os, hb.tape.trans h.tape, hb.output.trans h.output, Nat.le_trans h.size hb.size, fun k hk =>
    (hb.block k (Nat.lt_of_lt_of_le (Nat.lt_of_lt_of_le hk hB) h.size)).trans (h.block k hk)⟩
theorem keep_two {w w' : World} {g a b : Nat} {x y : Value} (hb : Below w.heap.size w w') (hg : g < w.heap.size) (h : w.cell? ⟨g, a, none⟩ = some x ∧ w.cell? ⟨g, b, none⟩ = some y) : w'.cell? ⟨g, a, none⟩ = some x ∧ w'.cell? ⟨g, b, none⟩ = some y :=
  ⟨(hb.cell (p := ⟨g, a, none⟩) hg).trans h.1, (hb.cell (p := ⟨g, b, none⟩) hg).trans h.2⟩

set_option maxRecDepth 20000 in
set_option maxHeartbeats 1000000 in
theorem pairs_any (g : Nat) (m : List Bool) (c : List Nat) (h1 : 1 ≤ m.length) (h2 : m.length ≤ 60) (w : World) (hT : Trp w g m c) :
    Calls Try.prog 74 #[.slice (some ⟨g, 0, none⟩) m.length m.length] w fun e w' => ∃ v, e = .returned v ∧ w'.ownsRow w.heap.size 3 1 v (Rw.pairs m).length (ints (Rw.pairs m)) ∧ Below w.heap.size w w' := by
  obtain ⟨i0, hi, hz0, hz1, hz2⟩ := info_parts Try.info_int
  obtain ⟨n, hn⟩ : ∃ n, n = m.length := ⟨_, rfl⟩
  rw [← hn] at h1 h2 ⊢
  have HN := Lib.hid hn
  have HT := Lib.hid hT
  have hgl := hT.lt
  clear hn hT
  go_enter Try.func74, Try.ntmps74
  go_wp2
  go_loopw [3, 8] (fun v i wr => ∃ k : Nat, k + 1 ≤ n ∧ i = .int .i64 k ∧ wr.ownsRow w.heap.size 3 1 v (Rw.pairsTo m k).length (ints (Rw.pairsTo m k)) ∧ Below w.heap.size w wr)
    (fun _ i _ => n - (intOf i).toNat)
  case atStart => exact ⟨0, by omega, rfl, pairs_start m w, Below.refl _ _⟩
  case round =>
    obtain ⟨k, hk, rfl, hown, hbel⟩ := hrel
    have hpl := Rw.pairsTo_le m k
    by_cases hlt : k + 1 < n
    · have hTr := HT.out.below hbel hgl
      have e1 := hTr.cellB k (by have := HN.out; omega)
      have e2 := hTr.cellB (k + 1) (by have := HN.out; omega)
      clear hTr
      obtain ⟨a, ha⟩ : ∃ a, a = m.getD k false := ⟨_, rfl⟩
      obtain ⟨b, hb⟩ : ∃ b, b = m.getD (k + 1) false := ⟨_, rfl⟩
      rw [← ha] at e1
      rw [← hb] at e2
      have HP := Lib.hid (isPair_of (by have := HN.out; omega) ha.symm hb.symm)
      clear ha hb
      have i1 : (0 : Int) ≤ (k : Int) := by omega
      have i2 : (k : Int) < (n : Int) := by omega
      have i3 : IntKind.i64.wrap ((k : Int) + 1) = (k : Int) + 1 := IntWalk.i64_in _ (by omega)
      have i4 : (k : Int) + 1 < (n : Int) := by omega
      have i5 : ((k : Int) + 1).toNat = k + 1 := by omega
      have i6 : (0 : Int) ≤ (k : Int) + 1 := by omega
      have hgw : g < wr.heap.size := by have := hbel.size; omega
      go_wp2_with fail
      go_region_held3 (fun w' => w'.cell? ⟨g, k * 2, none⟩ = some (.bool a) ∧ w'.cell? ⟨g, (k + 1) * 2, none⟩ = some (.bool b)) (first | go_keep | (exact keep_two hb1 (by simp; omega) (by assumption)))
        (first | (go_at_call 104; refine (faces_any _ _ _).mono ?_; rintro e w' ⟨rfl, hb1⟩))
      have hown2 := own_kept hown hb1
      have hbel2 := below_kept hbel hb1 (Nat.le_refl _)
      clear hown hbel hb1
      rcases hc : (a && !b) with _ | _
      · have R := pairs_stay (pairsTo_no (HP.out.trans hc)) hown2
        clear hown2
        go_wp2
        go_roundw
        case rel => exact ⟨k + 1, by omega, by go_num, R, hbel2⟩
        case measure => simp [intOf]; omega
      · have HQ := Lib.hid (pairsTo_yes (HP.out.trans hc))
        go_wp2_with (at_builtin; refine wpList_append_own _ rfl _ _ 29 rfl w.heap.size 3 i0 (.int .i64 0) 1 8 Try.underlying29 hi hz0 hz1 hz2 rfl (by decide) _ _ _ rfl (hown2.alloc _) ⟨w'.heap.size, 0, none⟩ 1 1 [.int .i64 k] rfl rfl ?c1 ?c2 ?c3 ?c4 ?c5 ?_)
        case c1 =>
          intro j u hj
          match j, hj with
          | 0, hj => simp at hj; subst hj; simp [Addr.add]
        case c2 => intro u hu; simp at hu; subst hu; rfl
        case c3 => unfold maxLen; omega
        case c4 => omega
        case c5 => have := hbel2.size; simp; omega
        intro v' w1 hown' hgrow _
        have R := pairs_step HQ.out hown'
        have hb' := own_grown hbel2 (Nat.le_refl _) hown2 hgrow
        clear hown' hgrow hown2 hbel2
        go_wp2
        go_roundw
        case rel => exact ⟨k + 1, by omega, by go_num, R, hb'⟩
        case measure => simp [intOf]; omega
    · have hke : k = m.length - 1 := by have := HN.out; omega
      have R := pairs_done hke hown
      clear hown hke
      go_wp2
      go_ret
      exact ⟨_, rfl, R, hbel⟩

end Go.Proofs.Ytacchefmblfobaa.C1
