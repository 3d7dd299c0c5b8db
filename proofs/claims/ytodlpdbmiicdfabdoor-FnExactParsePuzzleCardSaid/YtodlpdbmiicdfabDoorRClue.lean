/- Slices of Clue: what came in, what a call owns; the verifier's sz, to, eq, mark, held. Written by a program of mine (tools/gen_rec.py). -/
import Derived.Test.YtodlpdbmiicdfabDoorRec
import Derived.Test.YtodlpdbmiicdfabDoorOpen
import Derived.Test.YtodlpdbmiicdfabDoorKinds
import Derived.Deep.RegionHeldLaw
namespace Go.Proofs.YtodlpdbmiicdfabDoor
open Go.ChangeShapes Go.WideShapes Go.ChangeAt Go.RowKit

abbrev RClue := Int × Int × Int × Int
def zClue : RClue := (0, 0, 0, 0)
def cClue (p : RClue) : List Value := [.int .i64 p.1, .int .i64 p.2.1, .int .i64 p.2.2.1, .int .i64 p.2.2.2]
theorem cClue_len (p : RClue) : (cClue p).length = 4 := rfl
def OwnClue (w : World) (B : Nat) (v : Value) (ps : List RClue) : Prop := w.ownsRow B 44 4 v ps.length (ps.flatMap cClue)
theorem OwnClue.shape {w : World} {B : Nat} {v : Value} {ps : List RClue} (h : OwnClue w B v ps) :
    (v = .slice none 0 0 ∧ ps.length = 0) ∨ ∃ g cap, v = .slice (some ⟨g, 0, none⟩) ps.length cap ∧ B ≤ g ∧ g < w.heap.size ∧ ps.length ≤ cap ∧ cap ≤ 9223372036854775807 := by
  rcases h.2 with ⟨h1, h2⟩ | ⟨g, cap, cur, hv, hg, hh, hn, hcap, _⟩
  · exact .inl ⟨h1, h2⟩
  · exact .inr ⟨g, cap, hv, hg, lt_of_block hh, hn, by unfold maxLen at hcap; omega⟩
theorem OwnClue.any {w : World} {B : Nat} {v : Value} {ps : List RClue} (h : OwnClue w B v ps) : ∃ ao cap, v = .slice ao ps.length cap := by
  rcases h.shape with ⟨h1, h2⟩ | ⟨g, cap, h1, _⟩
  · exact ⟨none, 0, by rw [h1, h2]⟩
  · exact ⟨_, _, h1⟩
theorem OwnClue.point {w : World} {B : Nat} {v : Value} {ps : List RClue} (h : OwnClue w B v ps) (hn : 0 < ps.length) : ∃ g cap, v = .slice (some ⟨g, 0, none⟩) ps.length cap ∧ B ≤ g ∧ g < w.heap.size := by
  rcases h.shape with ⟨_, h2⟩ | ⟨g, cap, h1, h2, h3, _⟩
  · omega
  · exact ⟨g, cap, h1, h2, h3⟩
theorem OwnClue.cell0 {w : World} {B g cap n : Nat} {ps : List RClue} (h : OwnClue w B (.slice (some ⟨g, 0, none⟩) n cap) ps) (hn : n = ps.length) (k : Nat) (hk : k < ps.length) : w.cell? ⟨g, k * 4, none⟩ = some (.int .i64 (ps.getD k zClue).1) := by
  subst hn
  unfold OwnClue at h
  have := flat_get cClue_len zClue ps k 0 hk (by omega)
  rw [h.cellAt (k * 4) (by have := Nat.mul_le_mul_right 4 (show k + 1 ≤ ps.length from hk); omega)]
  exact this
theorem OwnClue.set0 {w : World} {B g cap n : Nat} {ps : List RClue} (h : OwnClue w B (.slice (some ⟨g, 0, none⟩) n cap) ps) (hn : n = ps.length) (k : Nat) (hk : k < ps.length) (z : Int) : OwnClue (w.setCell ⟨g, k * 4, none⟩ (.int .i64 z)) B (.slice (some ⟨g, 0, none⟩) n cap) (ps.set k (z, (ps.getD k zClue).2.1, (ps.getD k zClue).2.2.1, (ps.getD k zClue).2.2.2)) := by
  subst hn
  unfold OwnClue at h ⊢
  rw [List.length_set, ← flat_set cClue_len zClue (.int .i64 z) _ ps k 0 hk (by omega) rfl]
  exact (h.stored (k * 4) _).1
theorem OwnClue.cell1 {w : World} {B g cap n : Nat} {ps : List RClue} (h : OwnClue w B (.slice (some ⟨g, 0, none⟩) n cap) ps) (hn : n = ps.length) (k : Nat) (hk : k < ps.length) : w.cell? ⟨g, k * 4 + 1, none⟩ = some (.int .i64 (ps.getD k zClue).2.1) := by
  subst hn
  unfold OwnClue at h
  have := flat_get cClue_len zClue ps k 1 hk (by omega)
  rw [h.cellAt (k * 4 + 1) (by have := Nat.mul_le_mul_right 4 (show k + 1 ≤ ps.length from hk); omega)]
  exact this
theorem OwnClue.set1 {w : World} {B g cap n : Nat} {ps : List RClue} (h : OwnClue w B (.slice (some ⟨g, 0, none⟩) n cap) ps) (hn : n = ps.length) (k : Nat) (hk : k < ps.length) (z : Int) : OwnClue (w.setCell ⟨g, k * 4 + 1, none⟩ (.int .i64 z)) B (.slice (some ⟨g, 0, none⟩) n cap) (ps.set k ((ps.getD k zClue).1, z, (ps.getD k zClue).2.2.1, (ps.getD k zClue).2.2.2)) := by
  subst hn
  unfold OwnClue at h ⊢
  rw [List.length_set, ← flat_set cClue_len zClue (.int .i64 z) _ ps k 1 hk (by omega) rfl]
  exact (h.stored (k * 4 + 1) _).1
theorem OwnClue.cell2 {w : World} {B g cap n : Nat} {ps : List RClue} (h : OwnClue w B (.slice (some ⟨g, 0, none⟩) n cap) ps) (hn : n = ps.length) (k : Nat) (hk : k < ps.length) : w.cell? ⟨g, k * 4 + 2, none⟩ = some (.int .i64 (ps.getD k zClue).2.2.1) := by
  subst hn
  unfold OwnClue at h
  have := flat_get cClue_len zClue ps k 2 hk (by omega)
  rw [h.cellAt (k * 4 + 2) (by have := Nat.mul_le_mul_right 4 (show k + 1 ≤ ps.length from hk); omega)]
  exact this
theorem OwnClue.set2 {w : World} {B g cap n : Nat} {ps : List RClue} (h : OwnClue w B (.slice (some ⟨g, 0, none⟩) n cap) ps) (hn : n = ps.length) (k : Nat) (hk : k < ps.length) (z : Int) : OwnClue (w.setCell ⟨g, k * 4 + 2, none⟩ (.int .i64 z)) B (.slice (some ⟨g, 0, none⟩) n cap) (ps.set k ((ps.getD k zClue).1, (ps.getD k zClue).2.1, z, (ps.getD k zClue).2.2.2)) := by
  subst hn
  unfold OwnClue at h ⊢
  rw [List.length_set, ← flat_set cClue_len zClue (.int .i64 z) _ ps k 2 hk (by omega) rfl]
  exact (h.stored (k * 4 + 2) _).1
theorem OwnClue.cell3 {w : World} {B g cap n : Nat} {ps : List RClue} (h : OwnClue w B (.slice (some ⟨g, 0, none⟩) n cap) ps) (hn : n = ps.length) (k : Nat) (hk : k < ps.length) : w.cell? ⟨g, k * 4 + 3, none⟩ = some (.int .i64 (ps.getD k zClue).2.2.2) := by
  subst hn
  unfold OwnClue at h
  have := flat_get cClue_len zClue ps k 3 hk (by omega)
  rw [h.cellAt (k * 4 + 3) (by have := Nat.mul_le_mul_right 4 (show k + 1 ≤ ps.length from hk); omega)]
  exact this
theorem OwnClue.set3 {w : World} {B g cap n : Nat} {ps : List RClue} (h : OwnClue w B (.slice (some ⟨g, 0, none⟩) n cap) ps) (hn : n = ps.length) (k : Nat) (hk : k < ps.length) (z : Int) : OwnClue (w.setCell ⟨g, k * 4 + 3, none⟩ (.int .i64 z)) B (.slice (some ⟨g, 0, none⟩) n cap) (ps.set k ((ps.getD k zClue).1, (ps.getD k zClue).2.1, (ps.getD k zClue).2.2.1, z)) := by
  subst hn
  unfold OwnClue at h ⊢
  rw [List.length_set, ← flat_set cClue_len zClue (.int .i64 z) _ ps k 3 hk (by omega) rfl]
  exact (h.stored (k * 4 + 3) _).1
theorem OwnClue.free {w : World} {B g cap n : Nat} {ps : List RClue} (h : OwnClue w B (.slice (some ⟨g, 0, none⟩) n cap) ps) (hn : n = ps.length) (j : Nat) : w.frozen? ⟨g, j, none⟩ = false := by
  subst hn
  unfold OwnClue at h
  exact h.frozenAt j
theorem OwnClue.below {w w' : World} {B C : Nat} {v : Value} {ps : List RClue} (h : OwnClue w B v ps) (hb : Below C w w') (hC : w.heap.size ≤ C) : OwnClue w' B v ps := by
  unfold OwnClue at h ⊢
  exact h.kept (row := none) ⟨hb.os, hb.tape, hb.output, hb.size, fun k hk _ => hb.block k (by omega)⟩ (by cases v.ownBlock <;> simp)
theorem OwnClue.mono {w : World} {B B' : Nat} {v : Value} {ps : List RClue} (h : OwnClue w B v ps) (hb : B' ≤ B) : OwnClue w B' v ps := by
  unfold OwnClue at h ⊢
  refine ⟨h.1, ?_⟩
  rcases h.2 with h2 | ⟨g, cap, cur, a, b, r⟩
  · exact .inl h2
  · exact .inr ⟨g, cap, cur, a, Nat.le_trans hb b, r⟩
theorem OwnClue.drewN {w : World} {B : Nat} {v : Value} {ps : List RClue} (h : OwnClue w B v ps) (n : Nat) : OwnClue (w.drewN n) B v ps := h
theorem ownClue_nil (w : World) (B : Nat) : OwnClue w B (.slice none 0 0) [] := World.ownsRow_nil _ _ _ _
/-- a slice that came in reads as these -/
def CameClue (w : World) (a : Option Addr) (len : Nat) (ps : List RClue) : Prop := ps.length = len ∧ (0 < len → ∃ b off, a = some ⟨b, off, none⟩ ∧ ∀ k, k < len → w.cell? ⟨b, off + k * 4, none⟩ = some (.int .i64 (ps.getD k zClue).1) ∧ w.cell? ⟨b, off + k * 4 + 1, none⟩ = some (.int .i64 (ps.getD k zClue).2.1) ∧ w.cell? ⟨b, off + k * 4 + 2, none⟩ = some (.int .i64 (ps.getD k zClue).2.2.1) ∧ w.cell? ⟨b, off + k * 4 + 3, none⟩ = some (.int .i64 (ps.getD k zClue).2.2.2))
theorem CameClue.below {w w' : World} {a : Option Addr} {len : Nat} {ps : List RClue} (h : CameClue w a len ps) (hb : Below w.heap.size w w') : CameClue w' a len ps := by
  refine ⟨h.1, fun hp => ?_⟩
  obtain ⟨b, off, ha, hc⟩ := h.2 hp
  refine ⟨b, off, ha, fun k hk => ?_⟩
  obtain ⟨h0, h1, h2, h3⟩ := hc k hk
  exact ⟨(hb.cell (World.block_lt_of_cell? w _ h0)).trans h0, (hb.cell (World.block_lt_of_cell? w _ h1)).trans h1, (hb.cell (World.block_lt_of_cell? w _ h2)).trans h2, (hb.cell (World.block_lt_of_cell? w _ h3)).trans h3⟩
theorem OwnClue.cameC {w : World} {B : Nat} {v : Value} {ps : List RClue} (h : OwnClue w B v ps) : ∃ ao cap, v = .slice ao ps.length cap ∧ CameClue w ao ps.length ps ∧ ps.length ≤ cap ∧ cap ≤ 9223372036854775807 := by
  rcases h.shape with ⟨h1, h2⟩ | ⟨g, cap, h1, _, _, h4, h5⟩
  · exact ⟨none, 0, by rw [h1, h2], ⟨rfl, fun hp => absurd hp (by omega)⟩, by omega, by omega⟩
  · subst h1
    exact ⟨_, cap, rfl, ⟨rfl, fun _ => ⟨g, 0, rfl, fun k hk => by simp only [Nat.zero_add]; exact ⟨h.cell0 rfl k hk, h.cell1 rfl k hk, h.cell2 rfl k hk, h.cell3 rfl k hk⟩⟩⟩, h4, h5⟩
theorem openClue {H : Type} {enc : TypeId × Value → H} {w : World} {base : Nat} {spare : Nat → Bool} {held : Bool} {t e : TypeId} {f0 f1 f2 f3 : Field} {fuel : Nat} {cs : List Value} {x : DataW H × List MemPlace} (ht : Tryd.prog.underlying t = some (.slice e)) (he : Tryd.prog.underlying e = some (.struct #[f0, f1, f2, f3])) (hC : Tryd.prog.cellsOf e = 4)
    (q0 : f0.offset = 0 ∧ Tryd.prog.cellsOf f0.type = 1 ∧ Tryd.prog.underlying f0.type = some (.int .i64)) (q1 : f1.offset = 1 ∧ Tryd.prog.cellsOf f1.type = 1 ∧ Tryd.prog.underlying f1.type = some (.int .i64)) (q2 : f2.offset = 2 ∧ Tryd.prog.cellsOf f2.type = 1 ∧ Tryd.prog.underlying f2.type = some (.int .i64)) (q3 : f3.offset = 3 ∧ Tryd.prog.cellsOf f3.type = 1 ∧ Tryd.prog.underlying f3.type = some (.int .i64)) (h : DataW.trod enc Tryd.prog w base spare held fuel t cs = some x) :
    cs = [.slice none 0 0] ∨ ∃ (a : Option Addr) (len cap : Nat) (ps : List RClue), cs = [.slice a len cap] ∧ CameClue w a len ps ∧ len ≤ cap ∧ cap ≤ maxLen := by
  rcases open_row 4 (by omega) ht he hC h with h0 | ⟨a, len, cap, hcs, hl, hm, hr⟩
  · exact .inl h0
  · rcases Nat.eq_zero_or_pos len with h0 | h0
    · subst h0
      exact .inr ⟨a, 0, cap, [], hcs, ⟨rfl, fun hp => absurd hp (by omega)⟩, hl, hm⟩
    · obtain ⟨b, off, rfl, hrow⟩ := hr h0
      have hex : ∀ i, ∃ p : RClue, i < len → w.cell? ⟨b, off + i * 4, none⟩ = some (.int .i64 p.1) ∧ w.cell? ⟨b, off + i * 4 + 1, none⟩ = some (.int .i64 p.2.1) ∧ w.cell? ⟨b, off + i * 4 + 2, none⟩ = some (.int .i64 p.2.2.1) ∧ w.cell? ⟨b, off + i * 4 + 3, none⟩ = some (.int .i64 p.2.2.2) := fun i => by
        by_cases hi : i < len
        · obtain ⟨c, n, xs, hcl, hat, hxl, hf⟩ := hrow i hi
          have t0 := hf 0 f0 rfl
          rw [q0.1, q0.2.1, one_drop (by omega), List.getElem?_eq_getElem (by rw [hxl]; simp)] at t0
          obtain ⟨x0, g0, _, _⟩ := DataW.trod_int q0.2.2 t0
          have c0 := hat 0 (by omega)
          rw [List.getElem?_eq_getElem (by omega)] at c0
          injection g0 with g0
          rw [g0] at c0
          have t1 := hf 1 f1 rfl
          rw [q1.1, q1.2.1, one_drop (by omega), List.getElem?_eq_getElem (by rw [hxl]; simp)] at t1
          obtain ⟨x1, g1, _, _⟩ := DataW.trod_int q1.2.2 t1
          have c1 := hat 1 (by omega)
          rw [List.getElem?_eq_getElem (by omega)] at c1
          injection g1 with g1
          rw [g1] at c1
          have t2 := hf 2 f2 rfl
          rw [q2.1, q2.2.1, one_drop (by omega), List.getElem?_eq_getElem (by rw [hxl]; simp)] at t2
          obtain ⟨x2, g2, _, _⟩ := DataW.trod_int q2.2.2 t2
          have c2 := hat 2 (by omega)
          rw [List.getElem?_eq_getElem (by omega)] at c2
          injection g2 with g2
          rw [g2] at c2
          have t3 := hf 3 f3 rfl
          rw [q3.1, q3.2.1, one_drop (by omega), List.getElem?_eq_getElem (by rw [hxl]; simp)] at t3
          obtain ⟨x3, g3, _, _⟩ := DataW.trod_int q3.2.2 t3
          have c3 := hat 3 (by omega)
          rw [List.getElem?_eq_getElem (by omega)] at c3
          injection g3 with g3
          rw [g3] at c3
          exact ⟨(x0, x1, x2, x3), fun _ => ⟨c0, c1, c2, c3⟩⟩
        · exact ⟨zClue, fun h => absurd h hi⟩
      refine .inr ⟨_, len, cap, (List.range len).map (fun i => Classical.choose (hex i)), hcs, ⟨by simp, fun _ => ⟨b, off, rfl, fun k hk => ?_⟩⟩, hl, hm⟩
      rw [getD_range _ len k hk]
      exact Classical.choose_spec (hex k) hk
def OwnIClue (w : World) (lo hi : Nat) (v : Value) (ps : List RClue) : Prop := OwnClue w lo v ps ∧ ∀ k, v.ownBlock = some k → k < hi
theorem OwnIClue.of {w : World} {lo : Nat} {v : Value} {ps : List RClue} (h : OwnClue w lo v ps) : OwnIClue w lo w.heap.size v ps := ⟨h, fun k hk => (World.ownsRow.lt h k hk).2⟩
theorem OwnIClue.below {w w' : World} {C lo hi : Nat} {v : Value} {ps : List RClue} (h : OwnIClue w lo hi v ps) (hb : Below C w w') (hC : hi ≤ C) : OwnIClue w' lo hi v ps :=
  ⟨rec_same h.1 fun k e => hb.block k (Nat.lt_of_lt_of_le (h.2 k e) hC), h.2⟩
theorem OwnIClue.betw {w w' : World} {l h lo hi : Nat} {v : Value} {ps : List RClue} (ho : OwnIClue w lo hi v ps) (hb : Betw l h w w') (hd : h ≤ lo ∨ hi ≤ l) (_hs : hi ≤ w.heap.size) : OwnIClue w' lo hi v ps :=
  ⟨rec_same ho.1 fun k e => hb.block k (World.ownsRow.lt ho.1 k e).2 (by have := (World.ownsRow.lt ho.1 k e).1; have := ho.2 k e; omega), ho.2⟩
theorem Tryd.info_Clue : (Tryd.prog.info? 44).map (fun i => (i.zero, i.size, i.bytes)) = some (some (.agg (cClue zClue).toArray), 4, 32) := by kernel_rfl

theorem OwnClue.put {w : World} {B g cap n : Nat} {ps : List RClue} (h : OwnClue w B (.slice (some ⟨g, 0, none⟩) n cap) ps) (hn : n = ps.length) (k : Nat) (hk : k < ps.length) (x0 : Int) (x1 : Int) (x2 : Int) (x3 : Int) : OwnClue ((((w.setCell ⟨g, k * 4, none⟩ (.int .i64 x0)).setCell ⟨g, k * 4 + 1, none⟩ (.int .i64 x1)).setCell ⟨g, k * 4 + 2, none⟩ (.int .i64 x2)).setCell ⟨g, k * 4 + 3, none⟩ (.int .i64 x3)) B (.slice (some ⟨g, 0, none⟩) n cap) (ps.set k (x0, x1, x2, x3)) := by
  have h0 := h.set0 hn k hk x0
  have h1 := h0.set1 (by simpa using hn) k (by simpa using hk) x1
  have h2 := h1.set2 (by simpa using hn) k (by simpa using hk) x2
  have h3 := h2.set3 (by simpa using hn) k (by simpa using hk) x3
  simp only [List.set_set, getD_set_same hk] at h3
  exact h3
theorem grownClue_put (w : World) (g k : Nat) (x0 : Int) (x1 : Int) (x2 : Int) (x3 : Int) : w.grownBy ((((w.setCell ⟨g, k * 4, none⟩ (.int .i64 x0)).setCell ⟨g, k * 4 + 1, none⟩ (.int .i64 x1)).setCell ⟨g, k * 4 + 2, none⟩ (.int .i64 x2)).setCell ⟨g, k * 4 + 3, none⟩ (.int .i64 x3)) (some g) :=
  grownBy_trans (grownBy_trans (grownBy_trans (set_grown _ _ _ _) (set_grown _ _ _ _)) (set_grown _ _ _ _)) (set_grown _ _ _ _)
theorem madeClue {w w1 : World} {B n : Nat} {ps : List RClue} (hn : n = ps.length) (h : w1.ownsRow B 44 4 (.slice (some ⟨w.heap.size, 0, none⟩) n n) n (madeCells (cClue zClue).toArray (n * 4)).toList) :
    OwnClue w1 B (.slice (some ⟨w.heap.size, 0, none⟩) n n) (copyR zClue ps 0) := by
  unfold OwnClue
  rw [copyR_zero, ← hn, List.length_replicate]
  rw [made_flat cClue_len zClue n (by omega)] at h
  exact h
/-- the marks -/
def mkClue (i : Nat) : RClue := ((4 * (i : Int) + 1), (4 * (i : Int) + 2), (4 * (i : Int) + 3), (4 * (i : Int) + 4))
def marksClue (n : Nat) : List RClue := (List.range n).map mkClue
@[simp] theorem length_marksClue (n : Nat) : (marksClue n).length = n := by simp [marksClue]

set_option maxHeartbeats 1000000 in
theorem toClue_any (x0 : Int) (x1 : Int) (x2 : Int) (x3 : Int) (w : World) :
    Calls Tryd.prog 33 #[.agg #[.int .i64 x0, .int .i64 x1, .int .i64 x2, .int .i64 x3]] w fun e w' => e = .returned (.agg #[.int .i64 x0, .int .i64 x1, .int .i64 x2, .int .i64 x3]) ∧ Below w.heap.size w w' := by
  go_enter Tryd.func33, Tryd.ntmps33
  go_wp2
  refine bodyPost_ret (v := .agg #[.int .i64 x0, .int .i64 x1, .int .i64 x2, .int .i64 x3]) (by simp [results, Tryd.results33, go_sem]) rfl ⟨rfl, ?_⟩
  exact ((((Below.refl _ _).alloc (Nat.le_refl _) _).alloc (by simp) _).alloc (by simp; omega) _)

set_option maxHeartbeats 2000000 in
theorem toClueS_any (w : World) (a : Option Addr) (len cap : Nat) (ps : List RClue) (hl : len ≤ 1048576) (hc : CameClue w a len ps) :
    Calls Tryd.prog 17 #[.slice a len cap] w fun e w' => ∃ v, e = .returned v ∧ OwnClue w' w.heap.size v ps ∧ Below w.heap.size w w' := by
  obtain ⟨i0, hi, hz0, hz1, hz2⟩ := info_parts Tryd.info_Clue
  have hzl := hc.1
  have HC := Lib.hid hc
  have HZL : Hid (len = ps.length) := Lib.hid hzl.symm
  clear hc hzl
  go_enter Tryd.func17, Tryd.ntmps17
  go_wp2_with (at_make; refine wpList_make_full _ rfl _ _ 28 rfl w.heap.size 44 i0 (.agg (cClue zClue).toArray) 4 Tryd.underlying28 hi hz0 hz1 .i64 .i64 _ _ len rfl rfl rfl rfl (by rw [hz2]; omega) (by unfold maxLen; omega) (Nat.le_refl _) ?_; intro w1 hown hgrow)
  have HO0 := Lib.hid (madeClue HZL.out hown)
  have HB0 := Lib.hid (below_made hgrow)
  clear hown hgrow hi hz0 hz1 hz2
  go_loopw [4] (fun i wr => ∃ k : Nat, k ≤ len ∧ i = .int .i64 k ∧ Hid (OwnClue wr w.heap.size (.slice (some ⟨w.heap.size, 0, none⟩) len len) (copyR zClue ps k)) ∧ Hid (Below w.heap.size w wr)) (fun i _ => len - (intOf i).toNat)
  case atStart => exact ⟨0, Nat.zero_le _, rfl, HO0, HB0⟩
  case round =>
    obtain ⟨k, hk, rfl, HO, HB⟩ := hrel
    by_cases hlt : k < len
    · obtain ⟨b, off, rfl, hcell⟩ := (HC.out.below HB.out).2 (by omega)
      obtain ⟨e0, e1, e2, e3⟩ := hcell k hlt
      have HS := Lib.hid (copyR_succ zClue ps k (by have := HZL.out; omega) ((ps.getD k zClue).1, (ps.getD k zClue).2.1, (ps.getD k zClue).2.2.1, (ps.getD k zClue).2.2.2) rfl)
      obtain ⟨x0, hx0⟩ : ∃ x, x = (ps.getD k zClue).1 := ⟨_, rfl⟩
      rw [← hx0] at e0 HS
      obtain ⟨x1, hx1⟩ : ∃ x, x = (ps.getD k zClue).2.1 := ⟨_, rfl⟩
      rw [← hx1] at e1 HS
      obtain ⟨x2, hx2⟩ : ∃ x, x = (ps.getD k zClue).2.2.1 := ⟨_, rfl⟩
      rw [← hx2] at e2 HS
      obtain ⟨x3, hx3⟩ : ∃ x, x = (ps.getD k zClue).2.2.2 := ⟨_, rfl⟩
      rw [← hx3] at e3 HS
      have HT := Lib.hid (fun w2 => toClue_any x0 x1 x2 x3 w2)
      have i1 : (0 : Int) ≤ (k : Int) := by omega
      have i2 : (k : Int) < (len : Int) := by omega
      clear hcell hx0 hx1 hx2 hx3
      go_wp2_with fail
      go_at_call 33
      refine (HT.out _).mono ?_
      rintro e w2 ⟨rfl, b2⟩
      have HO2 := Lib.hid (HO.out.below b2 (Nat.le_refl _))
      have HB2 : Hid (Below w.heap.size w w2) := Lib.hid (HB.out.trans (b2.mono HB.out.size))
      have hcl := length_copyR zClue ps k (by have := HZL.out; omega)
      have hzl := HZL.out
      have c0 := HO2.out.cell0 (by omega) k (by omega)
      have f0 := HO2.out.free (by omega) (k * 4)
      obtain ⟨y0, hy0⟩ : ∃ x, x = ((copyR zClue ps k).getD k zClue).1 := ⟨_, rfl⟩
      rw [← hy0] at c0
      have c1 := HO2.out.cell1 (by omega) k (by omega)
      have f1 := HO2.out.free (by omega) (k * 4 + 1)
      obtain ⟨y1, hy1⟩ : ∃ x, x = ((copyR zClue ps k).getD k zClue).2.1 := ⟨_, rfl⟩
      rw [← hy1] at c1
      have c2 := HO2.out.cell2 (by omega) k (by omega)
      have f2 := HO2.out.free (by omega) (k * 4 + 2)
      obtain ⟨y2, hy2⟩ : ∃ x, x = ((copyR zClue ps k).getD k zClue).2.2.1 := ⟨_, rfl⟩
      rw [← hy2] at c2
      have c3 := HO2.out.cell3 (by omega) k (by omega)
      have f3 := HO2.out.free (by omega) (k * 4 + 3)
      obtain ⟨y3, hy3⟩ : ∃ x, x = ((copyR zClue ps k).getD k zClue).2.2.2 := ⟨_, rfl⟩
      rw [← hy3] at c3
      have HO3 : Hid (OwnClue ((((w2.setCell ⟨w.heap.size, k * 4, none⟩ (.int .i64 x0)).setCell ⟨w.heap.size, k * 4 + 1, none⟩ (.int .i64 x1)).setCell ⟨w.heap.size, k * 4 + 2, none⟩ (.int .i64 x2)).setCell ⟨w.heap.size, k * 4 + 3, none⟩ (.int .i64 x3)) w.heap.size (.slice (some ⟨w.heap.size, 0, none⟩) len len) (copyR zClue ps (k + 1))) := Lib.hid (by rw [← HS.out]; exact HO2.out.put (by omega) k (by omega) x0 x1 x2 x3)
      have HB3 : Hid (Below w.heap.size w ((((w2.setCell ⟨w.heap.size, k * 4, none⟩ (.int .i64 x0)).setCell ⟨w.heap.size, k * 4 + 1, none⟩ (.int .i64 x1)).setCell ⟨w.heap.size, k * 4 + 2, none⟩ (.int .i64 x2)).setCell ⟨w.heap.size, k * 4 + 3, none⟩ (.int .i64 x3))) := Lib.hid (grownBy_below HB2.out (grownClue_put w2 w.heap.size k x0 x1 x2 x3) (Nat.le_refl _) (Nat.le_refl _))
      clear b2 hcl hzl hy0 hy1 hy2 hy3
      go_wp2
      go_roundw
      case rel => exact ⟨k + 1, by omega, by go_num, HO3, HB3⟩
      case measure => simp [intOf]; omega
    · have HE : Hid (copyR zClue ps k = ps) := Lib.hid (by have := HZL.out; rw [show k = ps.length by omega]; exact copyR_all _ _)
      go_wp2
      go_ret
      exact ⟨_, rfl, by rw [← HE.out]; exact HO.out, HB.out⟩

set_option maxHeartbeats 400000 in
theorem szClueS_any (w : World) (a : Option Addr) (len cap : Nat) (hlen : len ≤ 9223372036854775807) :
    Calls Tryd.prog 14 #[.slice a len cap, .int .i64 1048576] w fun e w' => ∃ r : Int, e = .returned (.int .i64 r) ∧ -1 ≤ r ∧ r ≤ 1048576 ∧ (0 ≤ r → len ≤ 1048576) ∧ Below w.heap.size w w' := by
  by_cases h : len ≤ 1048576
  · go_enter Tryd.func14, Tryd.ntmps14
    go_wp2
    go_ret
    exact ⟨_, rfl, by omega, by omega, fun _ => h, Below.refl _ _⟩
  · go_enter Tryd.func14, Tryd.ntmps14
    go_wp2
    go_ret
    exact ⟨_, rfl, by omega, by omega, fun h2 => absurd h2 (by omega), Below.refl _ _⟩

set_option maxHeartbeats 1000000 in
theorem eqClue_any (x0 : Int) (x1 : Int) (x2 : Int) (x3 : Int) (w : World) :
    Calls Tryd.prog 40 #[.agg #[.int .i64 x0, .int .i64 x1, .int .i64 x2, .int .i64 x3], .agg #[.int .i64 x0, .int .i64 x1, .int .i64 x2, .int .i64 x3]] w fun e w' => e = .returned (.bool true) ∧ Below w.heap.size w w' := by
  go_enter Tryd.func40, Tryd.ntmps40
  go_wp2
  go_ret
  exact ⟨rfl, ((Below.refl _ _).alloc (Nat.le_refl _) _).alloc (by simp) _⟩

set_option maxHeartbeats 2000000 in
theorem eqClueS_same (w : World) (B1 B2 : Nat) (v1 v2 : Value) (ps : List RClue) (hz : ps.length ≤ 4611686018427387904) (o1 : OwnClue w B1 v1 ps) (o2 : OwnClue w B2 v2 ps) :
    Calls Tryd.prog 22 #[v1, v2] w fun e w' => e = .returned (.bool true) ∧ Below w.heap.size w w' := by
  obtain ⟨n, hn⟩ : ∃ n, n = ps.length := ⟨_, rfl⟩
  have HN := Lib.hid hn
  rcases Nat.eq_zero_or_pos ps.length with h0 | h0
  · obtain ⟨a1, c1, rfl⟩ := o1.any
    obtain ⟨a2, c2, rfl⟩ := o2.any
    rw [h0]
    clear o1 o2 hn h0 hz
    go_enter Tryd.func22, Tryd.ntmps22
    go_wp2
    go_loop [5] (fun i => i = .int .i64 0) (fun _ => 0)
    case atStart => exact rfl
    case round =>
      obtain rfl := hrel
      go_wp2
      go_ret
      exact ⟨rfl, Below.refl _ _⟩
  · obtain ⟨g1, c1, rfl, _, l1⟩ := o1.point h0
    obtain ⟨g2, c2, rfl, _, l2⟩ := o2.point h0
    rw [← hn] at o1 o2 hz ⊢
    have H1 := Lib.hid o1
    have H2 := Lib.hid o2
    clear hn h0 o1 o2
    go_enter Tryd.func22, Tryd.ntmps22
    go_wp2
    go_loopw [5] (fun i wr => ∃ k : Nat, k ≤ n ∧ i = .int .i64 k ∧ Hid (Below w.heap.size w wr)) (fun i _ => n - (intOf i).toNat)
    case atStart => exact ⟨0, Nat.zero_le _, rfl, Below.refl _ _⟩
    case round =>
      obtain ⟨k, hk, rfl, HB⟩ := hrel
      by_cases hlt : k < n
      · have ho1 := H1.out.below HB.out (Nat.le_refl _)
        have ho2 := H2.out.below HB.out (Nat.le_refl _)
        have e0 := ho1.cell0 HN.out k (by have := HN.out; omega)
        have d0 := ho2.cell0 HN.out k (by have := HN.out; omega)
        obtain ⟨x0, hx0⟩ : ∃ x, x = (ps.getD k zClue).1 := ⟨_, rfl⟩
        rw [← hx0] at e0 d0
        have e1 := ho1.cell1 HN.out k (by have := HN.out; omega)
        have d1 := ho2.cell1 HN.out k (by have := HN.out; omega)
        obtain ⟨x1, hx1⟩ : ∃ x, x = (ps.getD k zClue).2.1 := ⟨_, rfl⟩
        rw [← hx1] at e1 d1
        have e2 := ho1.cell2 HN.out k (by have := HN.out; omega)
        have d2 := ho2.cell2 HN.out k (by have := HN.out; omega)
        obtain ⟨x2, hx2⟩ : ∃ x, x = (ps.getD k zClue).2.2.1 := ⟨_, rfl⟩
        rw [← hx2] at e2 d2
        have e3 := ho1.cell3 HN.out k (by have := HN.out; omega)
        have d3 := ho2.cell3 HN.out k (by have := HN.out; omega)
        obtain ⟨x3, hx3⟩ : ∃ x, x = (ps.getD k zClue).2.2.2 := ⟨_, rfl⟩
        rw [← hx3] at e3 d3
        have HK : Hid (∀ w' : World, Below wr.heap.size wr w' → w'.cell? ⟨g1, k * 4, none⟩ = some (.int .i64 x0) ∧ w'.cell? ⟨g1, k * 4 + 1, none⟩ = some (.int .i64 x1) ∧ w'.cell? ⟨g1, k * 4 + 2, none⟩ = some (.int .i64 x2) ∧ w'.cell? ⟨g1, k * 4 + 3, none⟩ = some (.int .i64 x3) ∧ w'.cell? ⟨g2, k * 4, none⟩ = some (.int .i64 x0) ∧ w'.cell? ⟨g2, k * 4 + 1, none⟩ = some (.int .i64 x1) ∧ w'.cell? ⟨g2, k * 4 + 2, none⟩ = some (.int .i64 x2) ∧ w'.cell? ⟨g2, k * 4 + 3, none⟩ = some (.int .i64 x3)) := Lib.hid (fun w5 h5 => ⟨(h5.cell (World.block_lt_of_cell? wr _ e0)).trans e0, (h5.cell (World.block_lt_of_cell? wr _ e1)).trans e1, (h5.cell (World.block_lt_of_cell? wr _ e2)).trans e2, (h5.cell (World.block_lt_of_cell? wr _ e3)).trans e3, (h5.cell (World.block_lt_of_cell? wr _ d0)).trans d0, (h5.cell (World.block_lt_of_cell? wr _ d1)).trans d1, (h5.cell (World.block_lt_of_cell? wr _ d2)).trans d2, (h5.cell (World.block_lt_of_cell? wr _ d3)).trans d3⟩)
        have HT := Lib.hid (fun w2 => eqClue_any x0 x1 x2 x3 w2)
        have i1 : (0 : Int) ≤ (k : Int) := by omega
        have i2 : (k : Int) < (n : Int) := by omega
        clear ho1 ho2 hx0 hx1 hx2 hx3
        go_wp2_with fail
        go_region_held_law (fun w' : World => w'.cell? ⟨g1, k * 4, none⟩ = some (.int .i64 x0) ∧ w'.cell? ⟨g1, k * 4 + 1, none⟩ = some (.int .i64 x1) ∧ w'.cell? ⟨g1, k * 4 + 2, none⟩ = some (.int .i64 x2) ∧ w'.cell? ⟨g1, k * 4 + 3, none⟩ = some (.int .i64 x3) ∧ w'.cell? ⟨g2, k * 4, none⟩ = some (.int .i64 x0) ∧ w'.cell? ⟨g2, k * 4 + 1, none⟩ = some (.int .i64 x1) ∧ w'.cell? ⟨g2, k * 4 + 2, none⟩ = some (.int .i64 x2) ∧ w'.cell? ⟨g2, k * 4 + 3, none⟩ = some (.int .i64 x3)) (first | go_keep | exact HK.out _ ⟨b2.os, b2.tape, b2.output, b2.size, b2.block⟩)
          ((go_at_call 40; refine (HT.out _).mono ?_; rintro e w2 ⟨rfl, b2⟩))
        have HB2 : Hid (Below w.heap.size w w2) := Lib.hid (HB.out.trans (Below.mono ⟨b2.os, b2.tape, b2.output, b2.size, b2.block⟩ HB.out.size))
        clear b2
        go_wp2
        go_roundw
        case rel => exact ⟨k + 1, by omega, by go_num, HB2⟩
        case measure => simp [intOf]; omega
      · go_wp2
        go_ret
        exact ⟨rfl, HB.out⟩
theorem eqClueS_two (w : World) (lo hi lo' hi' : Nat) (v1 v2 : Value) (ps : List RClue) (hz : ps.length ≤ 4611686018427387904) (o1 : OwnIClue w lo hi v1 ps) (o2 : OwnIClue w lo' hi' v2 ps) :
    Calls Tryd.prog 22 #[v1, v2] w fun e w' => e = .returned (.bool true) ∧ Below w.heap.size w w' := eqClueS_same w lo lo' v1 v2 ps hz o1.1 o2.1

set_option maxHeartbeats 2000000 in
theorem markClueS_any (w : World) (B : Nat) (v : Value) (ps : List RClue) (hz : ps.length ≤ 1048576) (o1 : OwnClue w B v ps) :
    Calls Tryd.prog 28 #[v, .int .i64 1] w fun e w' => e = .returned (.int .i64 (4 * ((ps.length : Nat) : Int) + 1)) ∧ OwnClue w' B v (marksClue ps.length) ∧ w.grownBy w' v.ownBlock := by
  obtain ⟨n, hn⟩ : ∃ n, n = ps.length := ⟨_, rfl⟩
  have HN := Lib.hid hn
  rcases Nat.eq_zero_or_pos ps.length with h0 | h0
  · have hnil : ps = [] := List.eq_nil_of_length_eq_zero h0
    subst hnil
    obtain ⟨a1, c1, rfl⟩ := o1.any
    have H1 := Lib.hid o1
    clear o1 hn h0 hz HN
    go_enter Tryd.func28, Tryd.ntmps28
    go_wp2
    go_loop [1, 5] (fun q i => q = .int .i64 1 ∧ i = .int .i64 0) (fun _ _ => 0)
    case atStart => exact ⟨rfl, rfl⟩
    case round =>
      obtain ⟨rfl, rfl⟩ := hrel
      go_wp2
      go_ret
      exact ⟨ret_int (by simp), H1.out, World.grownBy.refl _ _⟩
  · obtain ⟨g1, c1, rfl, _, l1⟩ := o1.point h0
    rw [← hn] at hz
    have HE : Hid (markedR mkClue ps n = marksClue n) := Lib.hid (by rw [hn]; exact markedR_all mkClue ps)
    have H0 : Hid (OwnClue w B (.slice (some ⟨g1, 0, none⟩) n c1) (markedR mkClue ps 0)) := Lib.hid (by rw [markedR_zero, hn]; exact o1)
    rw [← hn]
    clear hn h0 o1
    go_enter Tryd.func28, Tryd.ntmps28
    go_wp2
    go_loopw [1, 5] (fun q i wr => ∃ k : Nat, k ≤ n ∧ i = .int .i64 k ∧ q = .int .i64 (4 * (k : Int) + 1) ∧ Hid (OwnClue wr B (.slice (some ⟨g1, 0, none⟩) n c1) (markedR mkClue ps k)) ∧ Hid (w.grownBy wr (some g1))) (fun _ i _ => n - (intOf i).toNat)
    case atStart => exact ⟨0, Nat.zero_le _, rfl, by simp, H0, Lib.hid (World.grownBy.refl _ _)⟩
    case round =>
      obtain ⟨k, hk, rfl, rfl, HO, HG⟩ := hrel
      have hl := length_markedR mkClue ps k (by have := HN.out; omega)
      obtain ⟨q, hq⟩ : ∃ q : Int, q = 4 * (k : Int) + 1 := ⟨_, rfl⟩
      rw [← hq]
      have hq0 : 1 ≤ q := by omega
      have hq1 : q ≤ 100000000 := by omega
      have HQ := Lib.hid hq
      by_cases hlt : k < n
      · have hnn := HN.out
        have i1 : (0 : Int) ≤ (k : Int) := by omega
        have i2 : (k : Int) < (n : Int) := by omega
        have ec0 := HO.out.cell0 (by omega) k (by omega)
        have f0 := HO.out.free (by omega) (k * 4)
        obtain ⟨y0, hy0⟩ : ∃ x, x = ((markedR mkClue ps k).getD k zClue).1 := ⟨_, rfl⟩
        rw [← hy0] at ec0
        have ec1 := HO.out.cell1 (by omega) k (by omega)
        have f1 := HO.out.free (by omega) (k * 4 + 1)
        obtain ⟨y1, hy1⟩ : ∃ x, x = ((markedR mkClue ps k).getD k zClue).2.1 := ⟨_, rfl⟩
        rw [← hy1] at ec1
        have ec2 := HO.out.cell2 (by omega) k (by omega)
        have f2 := HO.out.free (by omega) (k * 4 + 2)
        obtain ⟨y2, hy2⟩ : ∃ x, x = ((markedR mkClue ps k).getD k zClue).2.2.1 := ⟨_, rfl⟩
        rw [← hy2] at ec2
        have ec3 := HO.out.cell3 (by omega) k (by omega)
        have f3 := HO.out.free (by omega) (k * 4 + 3)
        obtain ⟨y3, hy3⟩ : ∃ x, x = ((markedR mkClue ps k).getD k zClue).2.2.2 := ⟨_, rfl⟩
        rw [← hy3] at ec3
        have HS : Hid (OwnClue ((((wr.setCell ⟨g1, k * 4, none⟩ (.int .i64 (q))).setCell ⟨g1, k * 4 + 1, none⟩ (.int .i64 (q + 1))).setCell ⟨g1, k * 4 + 2, none⟩ (.int .i64 (q + 1 + 1))).setCell ⟨g1, k * 4 + 3, none⟩ (.int .i64 (q + 1 + 1 + 1))) B (.slice (some ⟨g1, 0, none⟩) n c1) (markedR mkClue ps (k + 1))) := Lib.hid (by
          rw [← markedR_succ mkClue ps k (by omega) ((q), (q + 1), (q + 1 + 1), (q + 1 + 1 + 1)) (by unfold mkClue; rw [hq]; congr 1 <;> (try congr 1) <;> (try congr 1) <;> (try omega))]
          exact HO.out.put (by omega) k (by omega) (q) (q + 1) (q + 1 + 1) (q + 1 + 1 + 1))
        have HGS : Hid (w.grownBy ((((wr.setCell ⟨g1, k * 4, none⟩ (.int .i64 (q))).setCell ⟨g1, k * 4 + 1, none⟩ (.int .i64 (q + 1))).setCell ⟨g1, k * 4 + 2, none⟩ (.int .i64 (q + 1 + 1))).setCell ⟨g1, k * 4 + 3, none⟩ (.int .i64 (q + 1 + 1 + 1))) (some g1)) := Lib.hid (grownBy_trans HG.out (grownClue_put wr g1 k (q) (q + 1) (q + 1 + 1) (q + 1 + 1 + 1)))
        clear hl hnn hq hy0 hy1 hy2 hy3 HO HG
        go_wp2
        go_roundw
        case rel => exact ⟨k + 1, by omega, by go_num, int_eq (by have := HQ.out; omega), HS, HGS⟩
        case measure => simp [intOf]; omega
      · have hkn : k = n := by omega
        have HO2 : Hid (OwnClue wr B (.slice (some ⟨g1, 0, none⟩) n c1) (marksClue n)) := Lib.hid (by rw [← HE.out, ← hkn]; exact hkn ▸ HO.out)
        clear hl hq
        go_wp2
        go_ret
        exact ⟨ret_int (by rw [HQ.out, hkn]), HO2.out, HG.out⟩
theorem markClueS_in (w : World) (lo hi : Nat) (v : Value) (ps : List RClue) (hz : ps.length ≤ 1048576) (o1 : OwnIClue w lo hi v ps) :
    Calls Tryd.prog 28 #[v, .int .i64 1] w fun e w' => e = .returned (.int .i64 (4 * ((ps.length : Nat) : Int) + 1)) ∧ OwnIClue w' lo hi v (marksClue ps.length) ∧ Betw lo hi w w' :=
  (markClueS_any w lo v ps hz o1.1).mono fun _ _ ⟨he, ho, hg⟩ => ⟨he, ⟨ho, o1.2⟩, .of_grown hg fun k hk => ⟨(World.ownsRow.lt o1.1 k hk).1, o1.2 k hk⟩⟩

set_option maxHeartbeats 1000000 in
theorem heldClueS_in (w : World) (lo hi : Nat) (v : Value) (n : Nat) (hz : n ≤ 1048576) (o1 : OwnIClue w lo hi v (marksClue n)) :
    Calls Tryd.prog 29 #[v, .int .i64 1] w fun e w' => e = .returned (.int .i64 (4 * ((n : Nat) : Int) + 1)) ∧ w = w' := by
  rcases Nat.eq_zero_or_pos n with h0 | h0
  · subst h0
    obtain ⟨a1, c1, rfl⟩ := o1.1.any
    rw [length_marksClue]
    clear o1 hz
    go_enter Tryd.func29, Tryd.ntmps29
    go_wp2
    go_loop [1, 5] (fun q i => q = .int .i64 1 ∧ i = .int .i64 0) (fun _ _ => 0)
    case atStart => exact ⟨rfl, rfl⟩
    case round =>
      obtain ⟨rfl, rfl⟩ := hrel
      go_wp2
      go_ret
      exact ⟨ret_int (by simp), rfl⟩
  · obtain ⟨g1, c1, rfl, _, l1⟩ := o1.1.point (by rw [length_marksClue]; exact h0)
    rw [length_marksClue] at o1 ⊢
    have H1 := Lib.hid o1.1
    clear o1
    go_enter Tryd.func29, Tryd.ntmps29
    go_wp2
    go_loop [1, 5] (fun q i => ∃ k : Nat, k ≤ n ∧ i = .int .i64 k ∧ q = .int .i64 (4 * (k : Int) + 1)) (fun _ i => n - (intOf i).toNat)
    case atStart => exact ⟨0, Nat.zero_le _, rfl, by simp⟩
    case round =>
      obtain ⟨k, hk, rfl, rfl⟩ := hrel
      obtain ⟨q, hq⟩ : ∃ q : Int, q = 4 * (k : Int) + 1 := ⟨_, rfl⟩
      rw [← hq]
      have hq0 : 1 ≤ q := by omega
      have hq1 : q ≤ 100000000 := by omega
      have HQ := Lib.hid hq
      by_cases hlt : k < n
      · have i1 : (0 : Int) ≤ (k : Int) := by omega
        have i2 : (k : Int) < (n : Int) := by omega
        have e0 := H1.out.cell0 (length_marksClue n).symm k (by rw [length_marksClue]; exact hlt)
        rw [show ((marksClue n).getD k zClue).1 = (q) from by unfold marksClue; rw [getD_range mkClue n k hlt]; unfold mkClue; show (4 * (k : Int) + 1) = _; omega] at e0
        have e1 := H1.out.cell1 (length_marksClue n).symm k (by rw [length_marksClue]; exact hlt)
        rw [show ((marksClue n).getD k zClue).2.1 = (q + 1) from by unfold marksClue; rw [getD_range mkClue n k hlt]; unfold mkClue; show (4 * (k : Int) + 2) = _; omega] at e1
        have e2 := H1.out.cell2 (length_marksClue n).symm k (by rw [length_marksClue]; exact hlt)
        rw [show ((marksClue n).getD k zClue).2.2.1 = (q + 1 + 1) from by unfold marksClue; rw [getD_range mkClue n k hlt]; unfold mkClue; show (4 * (k : Int) + 3) = _; omega] at e2
        have e3 := H1.out.cell3 (length_marksClue n).symm k (by rw [length_marksClue]; exact hlt)
        rw [show ((marksClue n).getD k zClue).2.2.2 = (q + 1 + 1 + 1) from by unfold marksClue; rw [getD_range mkClue n k hlt]; unfold mkClue; show (4 * (k : Int) + 4) = _; omega] at e3
        clear hq
        go_wp2
        go_round
        case rel => exact ⟨k + 1, by omega, by go_num, int_eq (by have := HQ.out; omega)⟩
        case measure => simp [intOf]; omega
      · have hkn : Hid (k = n) := Lib.hid (by omega)
        clear hq
        go_wp2
        go_ret
        exact ⟨ret_int (by rw [HQ.out, hkn.out]), rfl⟩

end Go.Proofs.YtodlpdbmiicdfabDoor
