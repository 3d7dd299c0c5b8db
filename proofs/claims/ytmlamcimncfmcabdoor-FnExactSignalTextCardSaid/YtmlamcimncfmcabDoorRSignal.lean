/- Slices of Signal: what came in, what a call owns; the verifier's sz, to, eq, mark, held. Written by a program of mine (tools/gen_rec.py). -/
import Derived.Test.YtmlamcimncfmcabDoorRec
import Derived.Test.YtmlamcimncfmcabDoorOpen
import Derived.Test.YtmlamcimncfmcabDoorKinds
import Derived.Deep.RegionHeldLaw
namespace Go.Proofs.YtmlamcimncfmcabDoor
open Go.ChangeShapes Go.WideShapes Go.ChangeAt Go.RowKit

abbrev RSignal := Int × Bool × Int
def zSignal : RSignal := (0, false, 0)
def cSignal (p : RSignal) : List Value := [.int .i64 p.1, .bool p.2.1, .int .i64 p.2.2]
theorem cSignal_len (p : RSignal) : (cSignal p).length = 3 := rfl
def OwnSignal (w : World) (B : Nat) (v : Value) (ps : List RSignal) : Prop := w.ownsRow B 26 3 v ps.length (ps.flatMap cSignal)
theorem OwnSignal.shape {w : World} {B : Nat} {v : Value} {ps : List RSignal} (h : OwnSignal w B v ps) :
    (v = .slice none 0 0 ∧ ps.length = 0) ∨ ∃ g cap, v = .slice (some ⟨g, 0, none⟩) ps.length cap ∧ B ≤ g ∧ g < w.heap.size ∧ ps.length ≤ cap ∧ cap ≤ 9223372036854775807 := by
  rcases h.2 with ⟨h1, h2⟩ | ⟨g, cap, cur, hv, hg, hh, hn, hcap, _⟩
  · exact .inl ⟨h1, h2⟩
  · exact .inr ⟨g, cap, hv, hg, lt_of_block hh, hn, by unfold maxLen at hcap; omega⟩
theorem OwnSignal.any {w : World} {B : Nat} {v : Value} {ps : List RSignal} (h : OwnSignal w B v ps) : ∃ ao cap, v = .slice ao ps.length cap := by
  rcases h.shape with ⟨h1, h2⟩ | ⟨g, cap, h1, _⟩
  · exact ⟨none, 0, by rw [h1, h2]⟩
  · exact ⟨_, _, h1⟩
theorem OwnSignal.point {w : World} {B : Nat} {v : Value} {ps : List RSignal} (h : OwnSignal w B v ps) (hn : 0 < ps.length) : ∃ g cap, v = .slice (some ⟨g, 0, none⟩) ps.length cap ∧ B ≤ g ∧ g < w.heap.size := by
  rcases h.shape with ⟨_, h2⟩ | ⟨g, cap, h1, h2, h3, _⟩
  · omega
  · exact ⟨g, cap, h1, h2, h3⟩
theorem OwnSignal.cell0 {w : World} {B g cap n : Nat} {ps : List RSignal} (h : OwnSignal w B (.slice (some ⟨g, 0, none⟩) n cap) ps) (hn : n = ps.length) (k : Nat) (hk : k < ps.length) : w.cell? ⟨g, k * 3, none⟩ = some (.int .i64 (ps.getD k zSignal).1) := by
  subst hn
  unfold OwnSignal at h
  have := flat_get cSignal_len zSignal ps k 0 hk (by omega)
  rw [h.cellAt (k * 3) (by have := Nat.mul_le_mul_right 3 (show k + 1 ≤ ps.length from hk); omega)]
  exact this
theorem OwnSignal.set0 {w : World} {B g cap n : Nat} {ps : List RSignal} (h : OwnSignal w B (.slice (some ⟨g, 0, none⟩) n cap) ps) (hn : n = ps.length) (k : Nat) (hk : k < ps.length) (z : Int) : OwnSignal (w.setCell ⟨g, k * 3, none⟩ (.int .i64 z)) B (.slice (some ⟨g, 0, none⟩) n cap) (ps.set k (z, (ps.getD k zSignal).2.1, (ps.getD k zSignal).2.2)) := by
  subst hn
  unfold OwnSignal at h ⊢
  rw [List.length_set, ← flat_set cSignal_len zSignal (.int .i64 z) _ ps k 0 hk (by omega) rfl]
  exact (h.stored (k * 3) _).1
theorem OwnSignal.cell1 {w : World} {B g cap n : Nat} {ps : List RSignal} (h : OwnSignal w B (.slice (some ⟨g, 0, none⟩) n cap) ps) (hn : n = ps.length) (k : Nat) (hk : k < ps.length) : w.cell? ⟨g, k * 3 + 1, none⟩ = some (.bool (ps.getD k zSignal).2.1) := by
  subst hn
  unfold OwnSignal at h
  have := flat_get cSignal_len zSignal ps k 1 hk (by omega)
  rw [h.cellAt (k * 3 + 1) (by have := Nat.mul_le_mul_right 3 (show k + 1 ≤ ps.length from hk); omega)]
  exact this
theorem OwnSignal.set1 {w : World} {B g cap n : Nat} {ps : List RSignal} (h : OwnSignal w B (.slice (some ⟨g, 0, none⟩) n cap) ps) (hn : n = ps.length) (k : Nat) (hk : k < ps.length) (z : Bool) : OwnSignal (w.setCell ⟨g, k * 3 + 1, none⟩ (.bool z)) B (.slice (some ⟨g, 0, none⟩) n cap) (ps.set k ((ps.getD k zSignal).1, z, (ps.getD k zSignal).2.2)) := by
  subst hn
  unfold OwnSignal at h ⊢
  rw [List.length_set, ← flat_set cSignal_len zSignal (.bool z) _ ps k 1 hk (by omega) rfl]
  exact (h.stored (k * 3 + 1) _).1
theorem OwnSignal.cell2 {w : World} {B g cap n : Nat} {ps : List RSignal} (h : OwnSignal w B (.slice (some ⟨g, 0, none⟩) n cap) ps) (hn : n = ps.length) (k : Nat) (hk : k < ps.length) : w.cell? ⟨g, k * 3 + 2, none⟩ = some (.int .i64 (ps.getD k zSignal).2.2) := by
  subst hn
  unfold OwnSignal at h
  have := flat_get cSignal_len zSignal ps k 2 hk (by omega)
  rw [h.cellAt (k * 3 + 2) (by have := Nat.mul_le_mul_right 3 (show k + 1 ≤ ps.length from hk); omega)]
  exact this
theorem OwnSignal.set2 {w : World} {B g cap n : Nat} {ps : List RSignal} (h : OwnSignal w B (.slice (some ⟨g, 0, none⟩) n cap) ps) (hn : n = ps.length) (k : Nat) (hk : k < ps.length) (z : Int) : OwnSignal (w.setCell ⟨g, k * 3 + 2, none⟩ (.int .i64 z)) B (.slice (some ⟨g, 0, none⟩) n cap) (ps.set k ((ps.getD k zSignal).1, (ps.getD k zSignal).2.1, z)) := by
  subst hn
  unfold OwnSignal at h ⊢
  rw [List.length_set, ← flat_set cSignal_len zSignal (.int .i64 z) _ ps k 2 hk (by omega) rfl]
  exact (h.stored (k * 3 + 2) _).1
theorem OwnSignal.free {w : World} {B g cap n : Nat} {ps : List RSignal} (h : OwnSignal w B (.slice (some ⟨g, 0, none⟩) n cap) ps) (hn : n = ps.length) (j : Nat) : w.frozen? ⟨g, j, none⟩ = false := by
  subst hn
  unfold OwnSignal at h
  exact h.frozenAt j
theorem OwnSignal.below {w w' : World} {B C : Nat} {v : Value} {ps : List RSignal} (h : OwnSignal w B v ps) (hb : Below C w w') (hC : w.heap.size ≤ C) : OwnSignal w' B v ps := by
  unfold OwnSignal at h ⊢
  exact h.kept (row := none) ⟨hb.os, hb.tape, hb.output, hb.size, fun k hk _ => hb.block k (by omega)⟩ (by cases v.ownBlock <;> simp)
theorem OwnSignal.mono {w : World} {B B' : Nat} {v : Value} {ps : List RSignal} (h : OwnSignal w B v ps) (hb : B' ≤ B) : OwnSignal w B' v ps := by
  unfold OwnSignal at h ⊢
  refine ⟨h.1, ?_⟩
  rcases h.2 with h2 | ⟨g, cap, cur, a, b, r⟩
  · exact .inl h2
  · exact .inr ⟨g, cap, cur, a, Nat.le_trans hb b, r⟩
theorem OwnSignal.drewN {w : World} {B : Nat} {v : Value} {ps : List RSignal} (h : OwnSignal w B v ps) (n : Nat) : OwnSignal (w.drewN n) B v ps := h
theorem ownSignal_nil (w : World) (B : Nat) : OwnSignal w B (.slice none 0 0) [] := World.ownsRow_nil _ _ _ _
/-- a slice that came in reads as these -/
def CameSignal (w : World) (a : Option Addr) (len : Nat) (ps : List RSignal) : Prop := ps.length = len ∧ (0 < len → ∃ b off, a = some ⟨b, off, none⟩ ∧ ∀ k, k < len → w.cell? ⟨b, off + k * 3, none⟩ = some (.int .i64 (ps.getD k zSignal).1) ∧ w.cell? ⟨b, off + k * 3 + 1, none⟩ = some (.bool (ps.getD k zSignal).2.1) ∧ w.cell? ⟨b, off + k * 3 + 2, none⟩ = some (.int .i64 (ps.getD k zSignal).2.2))
theorem CameSignal.below {w w' : World} {a : Option Addr} {len : Nat} {ps : List RSignal} (h : CameSignal w a len ps) (hb : Below w.heap.size w w') : CameSignal w' a len ps := by
  refine ⟨h.1, fun hp => ?_⟩
  obtain ⟨b, off, ha, hc⟩ := h.2 hp
  refine ⟨b, off, ha, fun k hk => ?_⟩
  obtain ⟨h0, h1, h2⟩ := hc k hk
  exact ⟨(hb.cell (World.block_lt_of_cell? w _ h0)).trans h0, (hb.cell (World.block_lt_of_cell? w _ h1)).trans h1, (hb.cell (World.block_lt_of_cell? w _ h2)).trans h2⟩
theorem OwnSignal.cameC {w : World} {B : Nat} {v : Value} {ps : List RSignal} (h : OwnSignal w B v ps) : ∃ ao cap, v = .slice ao ps.length cap ∧ CameSignal w ao ps.length ps ∧ ps.length ≤ cap ∧ cap ≤ 9223372036854775807 := by
  rcases h.shape with ⟨h1, h2⟩ | ⟨g, cap, h1, _, _, h4, h5⟩
  · exact ⟨none, 0, by rw [h1, h2], ⟨rfl, fun hp => absurd hp (by omega)⟩, by omega, by omega⟩
  · subst h1
    exact ⟨_, cap, rfl, ⟨rfl, fun _ => ⟨g, 0, rfl, fun k hk => by simp only [Nat.zero_add]; exact ⟨h.cell0 rfl k hk, h.cell1 rfl k hk, h.cell2 rfl k hk⟩⟩⟩, h4, h5⟩
theorem openSignal {H : Type} {enc : TypeId × Value → H} {w : World} {base : Nat} {spare : Nat → Bool} {held : Bool} {t e : TypeId} {f0 f1 f2 : Field} {fuel : Nat} {cs : List Value} {x : DataW H × List MemPlace} (ht : Tryd.prog.underlying t = some (.slice e)) (he : Tryd.prog.underlying e = some (.struct #[f0, f1, f2])) (hC : Tryd.prog.cellsOf e = 3)
    (q0 : f0.offset = 0 ∧ Tryd.prog.cellsOf f0.type = 1 ∧ Tryd.prog.underlying f0.type = some (.int .i64)) (q1 : f1.offset = 1 ∧ Tryd.prog.cellsOf f1.type = 1 ∧ Tryd.prog.underlying f1.type = some (.bool)) (q2 : f2.offset = 2 ∧ Tryd.prog.cellsOf f2.type = 1 ∧ Tryd.prog.underlying f2.type = some (.int .i64)) (h : DataW.trod enc Tryd.prog w base spare held fuel t cs = some x) :
    cs = [.slice none 0 0] ∨ ∃ (a : Option Addr) (len cap : Nat) (ps : List RSignal), cs = [.slice a len cap] ∧ CameSignal w a len ps ∧ len ≤ cap ∧ cap ≤ maxLen := by
  rcases open_row 3 (by omega) ht he hC h with h0 | ⟨a, len, cap, hcs, hl, hm, hr⟩
  · exact .inl h0
  · rcases Nat.eq_zero_or_pos len with h0 | h0
    · subst h0
      exact .inr ⟨a, 0, cap, [], hcs, ⟨rfl, fun hp => absurd hp (by omega)⟩, hl, hm⟩
    · obtain ⟨b, off, rfl, hrow⟩ := hr h0
      have hex : ∀ i, ∃ p : RSignal, i < len → w.cell? ⟨b, off + i * 3, none⟩ = some (.int .i64 p.1) ∧ w.cell? ⟨b, off + i * 3 + 1, none⟩ = some (.bool p.2.1) ∧ w.cell? ⟨b, off + i * 3 + 2, none⟩ = some (.int .i64 p.2.2) := fun i => by
        by_cases hi : i < len
        · obtain ⟨c, n, xs, hcl, hat, hxl, hf⟩ := hrow i hi
          have t0 := hf 0 f0 rfl
          rw [q0.1, q0.2.1, one_drop (by omega), List.getElem?_eq_getElem (by rw [hxl]; simp)] at t0
          obtain ⟨x0, g0, _, _⟩ := DataW.trod_int q0.2.2 t0
          have c0 := hat 0 (by omega)
          rw [List.getElem?_eq_getElem (by omega)] at c0
          injection g0 with g0
          rw [g0] at c0
          have t1 := hf 1 f1 rfl
          rw [q1.1, q1.2.1, one_drop (by omega), List.getElem?_eq_getElem (by rw [hxl]; simp)] at t1
          obtain ⟨x1, g1, _⟩ := DataW.trod_bool q1.2.2 t1
          have c1 := hat 1 (by omega)
          rw [List.getElem?_eq_getElem (by omega)] at c1
          injection g1 with g1
          rw [g1] at c1
          have t2 := hf 2 f2 rfl
          rw [q2.1, q2.2.1, one_drop (by omega), List.getElem?_eq_getElem (by rw [hxl]; simp)] at t2
          obtain ⟨x2, g2, _, _⟩ := DataW.trod_int q2.2.2 t2
          have c2 := hat 2 (by omega)
          rw [List.getElem?_eq_getElem (by omega)] at c2
          injection g2 with g2
          rw [g2] at c2
          exact ⟨(x0, x1, x2), fun _ => ⟨c0, c1, c2⟩⟩
        · exact ⟨zSignal, fun h => absurd h hi⟩
      refine .inr ⟨_, len, cap, (List.range len).map (fun i => Classical.choose (hex i)), hcs, ⟨by simp, fun _ => ⟨b, off, rfl, fun k hk => ?_⟩⟩, hl, hm⟩
      rw [getD_range _ len k hk]
      exact Classical.choose_spec (hex k) hk
def OwnISignal (w : World) (lo hi : Nat) (v : Value) (ps : List RSignal) : Prop := OwnSignal w lo v ps ∧ ∀ k, v.ownBlock = some k → k < hi
theorem OwnISignal.of {w : World} {lo : Nat} {v : Value} {ps : List RSignal} (h : OwnSignal w lo v ps) : OwnISignal w lo w.heap.size v ps := ⟨h, fun k hk => (World.ownsRow.lt h k hk).2⟩
theorem OwnISignal.below {w w' : World} {C lo hi : Nat} {v : Value} {ps : List RSignal} (h : OwnISignal w lo hi v ps) (hb : Below C w w') (hC : hi ≤ C) : OwnISignal w' lo hi v ps :=
  ⟨rec_same h.1 fun k e => hb.block k (Nat.lt_of_lt_of_le (h.2 k e) hC), h.2⟩
theorem OwnISignal.betw {w w' : World} {l h lo hi : Nat} {v : Value} {ps : List RSignal} (ho : OwnISignal w lo hi v ps) (hb : Betw l h w w') (hd : h ≤ lo ∨ hi ≤ l) (_hs : hi ≤ w.heap.size) : OwnISignal w' lo hi v ps :=
  ⟨rec_same ho.1 fun k e => hb.block k (World.ownsRow.lt ho.1 k e).2 (by have := (World.ownsRow.lt ho.1 k e).1; have := ho.2 k e; omega), ho.2⟩
theorem Tryd.info_Signal : (Tryd.prog.info? 26).map (fun i => (i.zero, i.size, i.bytes)) = some (some (.agg (cSignal zSignal).toArray), 3, 24) := by kernel_rfl

theorem OwnSignal.put {w : World} {B g cap n : Nat} {ps : List RSignal} (h : OwnSignal w B (.slice (some ⟨g, 0, none⟩) n cap) ps) (hn : n = ps.length) (k : Nat) (hk : k < ps.length) (x0 : Int) (x1 : Bool) (x2 : Int) : OwnSignal (((w.setCell ⟨g, k * 3, none⟩ (.int .i64 x0)).setCell ⟨g, k * 3 + 1, none⟩ (.bool x1)).setCell ⟨g, k * 3 + 2, none⟩ (.int .i64 x2)) B (.slice (some ⟨g, 0, none⟩) n cap) (ps.set k (x0, x1, x2)) := by
  have h0 := h.set0 hn k hk x0
  have h1 := h0.set1 (by simpa using hn) k (by simpa using hk) x1
  have h2 := h1.set2 (by simpa using hn) k (by simpa using hk) x2
  simp only [List.set_set, getD_set_same hk] at h2
  exact h2
theorem grownSignal_put (w : World) (g k : Nat) (x0 : Int) (x1 : Bool) (x2 : Int) : w.grownBy (((w.setCell ⟨g, k * 3, none⟩ (.int .i64 x0)).setCell ⟨g, k * 3 + 1, none⟩ (.bool x1)).setCell ⟨g, k * 3 + 2, none⟩ (.int .i64 x2)) (some g) :=
  grownBy_trans (grownBy_trans (set_grown _ _ _ _) (set_grown _ _ _ _)) (set_grown _ _ _ _)
theorem madeSignal {w w1 : World} {B n : Nat} {ps : List RSignal} (hn : n = ps.length) (h : w1.ownsRow B 26 3 (.slice (some ⟨w.heap.size, 0, none⟩) n n) n (madeCells (cSignal zSignal).toArray (n * 3)).toList) :
    OwnSignal w1 B (.slice (some ⟨w.heap.size, 0, none⟩) n n) (copyR zSignal ps 0) := by
  unfold OwnSignal
  rw [copyR_zero, ← hn, List.length_replicate]
  rw [made_flat cSignal_len zSignal n (by omega)] at h
  exact h
/-- the marks -/
def mkSignal (i : Nat) : RSignal := ((3 * (i : Int) + 1), decide ((3 * (i : Int) + 2) % 3 = 0), (3 * (i : Int) + 3))
def marksSignal (n : Nat) : List RSignal := (List.range n).map mkSignal
@[simp] theorem length_marksSignal (n : Nat) : (marksSignal n).length = n := by simp [marksSignal]

set_option maxHeartbeats 1000000 in
theorem toSignal_any (x0 : Int) (x1 : Bool) (x2 : Int) (w : World) :
    Calls Tryd.prog 6 #[.agg #[.int .i64 x0, .bool x1, .int .i64 x2]] w fun e w' => e = .returned (.agg #[.int .i64 x0, .bool x1, .int .i64 x2]) ∧ Below w.heap.size w w' := by
  go_enter Tryd.func6, Tryd.ntmps6
  go_wp2
  refine bodyPost_ret (v := .agg #[.int .i64 x0, .bool x1, .int .i64 x2]) (by simp [results, Tryd.results6, go_sem]) rfl ⟨rfl, ?_⟩
  exact ((((Below.refl _ _).alloc (Nat.le_refl _) _).alloc (by simp) _).alloc (by simp; omega) _)



set_option maxHeartbeats 1000000 in
theorem eqSignal_any (x0 : Int) (x1 : Bool) (x2 : Int) (w : World) :
    Calls Tryd.prog 10 #[.agg #[.int .i64 x0, .bool x1, .int .i64 x2], .agg #[.int .i64 x0, .bool x1, .int .i64 x2]] w fun e w' => e = .returned (.bool true) ∧ Below w.heap.size w w' := by
  go_enter Tryd.func10, Tryd.ntmps10
  go_wp2
  go_ret
  exact ⟨rfl, ((Below.refl _ _).alloc (Nat.le_refl _) _).alloc (by simp) _⟩




end Go.Proofs.YtmlamcimncfmcabDoor
