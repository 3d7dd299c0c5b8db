/- Slices of Mistake: what came in, what a call owns; the verifier's sz, to, eq, mark, held. Written by a program of mine (tools/gen_rec.py). -/
import Derived.Test.YtjbomclildkjaaaDoorRec
import Derived.Test.YtjbomclildkjaaaDoorOpen
import Derived.Test.YtjbomclildkjaaaDoorKinds
import Derived.Deep.RegionHeldLaw
import Derived.Test.YtjbomclildkjaaaDoorMark
namespace Go.Proofs.YtjbomclildkjaaaDoor
open Go.ChangeShapes Go.WideShapes Go.ChangeAt Go.RowKit

abbrev RMistake := Int × Int × ByteArray
def zMistake : RMistake := (0, 0, ByteArray.empty)
def cMistake (p : RMistake) : List Value := [.int .i64 p.1, .int .i64 p.2.1, .string p.2.2]
theorem cMistake_len (p : RMistake) : (cMistake p).length = 3 := rfl
def OwnMistake (w : World) (B : Nat) (v : Value) (ps : List RMistake) : Prop := w.ownsRow B 55 3 v ps.length (ps.flatMap cMistake)
theorem OwnMistake.shape {w : World} {B : Nat} {v : Value} {ps : List RMistake} (h : OwnMistake w B v ps) :
    (v = .slice none 0 0 ∧ ps.length = 0) ∨ ∃ g cap, v = .slice (some ⟨g, 0, none⟩) ps.length cap ∧ B ≤ g ∧ g < w.heap.size ∧ ps.length ≤ cap ∧ cap ≤ 9223372036854775807 := by
  rcases h.2 with ⟨h1, h2⟩ | ⟨g, cap, cur, hv, hg, hh, hn, hcap, _⟩
  · exact .inl ⟨h1, h2⟩
  · exact .inr ⟨g, cap, hv, hg, lt_of_block hh, hn, by unfold maxLen at hcap; omega⟩
theorem OwnMistake.any {w : World} {B : Nat} {v : Value} {ps : List RMistake} (h : OwnMistake w B v ps) : ∃ ao cap, v = .slice ao ps.length cap := by
  rcases h.shape with ⟨h1, h2⟩ | ⟨g, cap, h1, _⟩
  · exact ⟨none, 0, by rw [h1, h2]⟩
  · exact ⟨_, _, h1⟩
theorem OwnMistake.point {w : World} {B : Nat} {v : Value} {ps : List RMistake} (h : OwnMistake w B v ps) (hn : 0 < ps.length) : ∃ g cap, v = .slice (some ⟨g, 0, none⟩) ps.length cap ∧ B ≤ g ∧ g < w.heap.size := by
  rcases h.shape with ⟨_, h2⟩ | ⟨g, cap, h1, h2, h3, _⟩
  · omega
  · exact ⟨g, cap, h1, h2, h3⟩
theorem OwnMistake.cell0 {w : World} {B g cap n : Nat} {ps : List RMistake} (h : OwnMistake w B (.slice (some ⟨g, 0, none⟩) n cap) ps) (hn : n = ps.length) (k : Nat) (hk : k < ps.length) : w.cell? ⟨g, k * 3, none⟩ = some (.int .i64 (ps.getD k zMistake).1) := by
  subst hn
  unfold OwnMistake at h
  have := flat_get cMistake_len zMistake ps k 0 hk (by omega)
  rw [h.cellAt (k * 3) (by have := Nat.mul_le_mul_right 3 (show k + 1 ≤ ps.length from hk); omega)]
  exact this
theorem OwnMistake.set0 {w : World} {B g cap n : Nat} {ps : List RMistake} (h : OwnMistake w B (.slice (some ⟨g, 0, none⟩) n cap) ps) (hn : n = ps.length) (k : Nat) (hk : k < ps.length) (z : Int) : OwnMistake (w.setCell ⟨g, k * 3, none⟩ (.int .i64 z)) B (.slice (some ⟨g, 0, none⟩) n cap) (ps.set k (z, (ps.getD k zMistake).2.1, (ps.getD k zMistake).2.2)) := by
  subst hn
  unfold OwnMistake at h ⊢
  rw [List.length_set, ← flat_set cMistake_len zMistake (.int .i64 z) _ ps k 0 hk (by omega) rfl]
  exact (h.stored (k * 3) _).1
theorem OwnMistake.cell1 {w : World} {B g cap n : Nat} {ps : List RMistake} (h : OwnMistake w B (.slice (some ⟨g, 0, none⟩) n cap) ps) (hn : n = ps.length) (k : Nat) (hk : k < ps.length) : w.cell? ⟨g, k * 3 + 1, none⟩ = some (.int .i64 (ps.getD k zMistake).2.1) := by
  subst hn
  unfold OwnMistake at h
  have := flat_get cMistake_len zMistake ps k 1 hk (by omega)
  rw [h.cellAt (k * 3 + 1) (by have := Nat.mul_le_mul_right 3 (show k + 1 ≤ ps.length from hk); omega)]
  exact this
theorem OwnMistake.set1 {w : World} {B g cap n : Nat} {ps : List RMistake} (h : OwnMistake w B (.slice (some ⟨g, 0, none⟩) n cap) ps) (hn : n = ps.length) (k : Nat) (hk : k < ps.length) (z : Int) : OwnMistake (w.setCell ⟨g, k * 3 + 1, none⟩ (.int .i64 z)) B (.slice (some ⟨g, 0, none⟩) n cap) (ps.set k ((ps.getD k zMistake).1, z, (ps.getD k zMistake).2.2)) := by
  subst hn
  unfold OwnMistake at h ⊢
  rw [List.length_set, ← flat_set cMistake_len zMistake (.int .i64 z) _ ps k 1 hk (by omega) rfl]
  exact (h.stored (k * 3 + 1) _).1
theorem OwnMistake.cell2 {w : World} {B g cap n : Nat} {ps : List RMistake} (h : OwnMistake w B (.slice (some ⟨g, 0, none⟩) n cap) ps) (hn : n = ps.length) (k : Nat) (hk : k < ps.length) : w.cell? ⟨g, k * 3 + 2, none⟩ = some (.string (ps.getD k zMistake).2.2) := by
  subst hn
  unfold OwnMistake at h
  have := flat_get cMistake_len zMistake ps k 2 hk (by omega)
  rw [h.cellAt (k * 3 + 2) (by have := Nat.mul_le_mul_right 3 (show k + 1 ≤ ps.length from hk); omega)]
  exact this
theorem OwnMistake.set2 {w : World} {B g cap n : Nat} {ps : List RMistake} (h : OwnMistake w B (.slice (some ⟨g, 0, none⟩) n cap) ps) (hn : n = ps.length) (k : Nat) (hk : k < ps.length) (z : ByteArray) : OwnMistake (w.setCell ⟨g, k * 3 + 2, none⟩ (.string z)) B (.slice (some ⟨g, 0, none⟩) n cap) (ps.set k ((ps.getD k zMistake).1, (ps.getD k zMistake).2.1, z)) := by
  subst hn
  unfold OwnMistake at h ⊢
  rw [List.length_set, ← flat_set cMistake_len zMistake (.string z) _ ps k 2 hk (by omega) rfl]
  exact (h.stored (k * 3 + 2) _).1
theorem OwnMistake.free {w : World} {B g cap n : Nat} {ps : List RMistake} (h : OwnMistake w B (.slice (some ⟨g, 0, none⟩) n cap) ps) (hn : n = ps.length) (j : Nat) : w.frozen? ⟨g, j, none⟩ = false := by
  subst hn
  unfold OwnMistake at h
  exact h.frozenAt j
theorem OwnMistake.below {w w' : World} {B C : Nat} {v : Value} {ps : List RMistake} (h : OwnMistake w B v ps) (hb : Below C w w') (hC : w.heap.size ≤ C) : OwnMistake w' B v ps := by
  unfold OwnMistake at h ⊢
  exact h.kept (row := none) ⟨hb.os, hb.tape, hb.output, hb.size, fun k hk _ => hb.block k (by omega)⟩ (by cases v.ownBlock <;> simp)
theorem OwnMistake.mono {w : World} {B B' : Nat} {v : Value} {ps : List RMistake} (h : OwnMistake w B v ps) (hb : B' ≤ B) : OwnMistake w B' v ps := by
  unfold OwnMistake at h ⊢
  refine ⟨h.1, ?_⟩
  rcases h.2 with h2 | ⟨g, cap, cur, a, b, r⟩
  · exact .inl h2
  · exact .inr ⟨g, cap, cur, a, Nat.le_trans hb b, r⟩
theorem OwnMistake.drewN {w : World} {B : Nat} {v : Value} {ps : List RMistake} (h : OwnMistake w B v ps) (n : Nat) : OwnMistake (w.drewN n) B v ps := h
theorem ownMistake_nil (w : World) (B : Nat) : OwnMistake w B (.slice none 0 0) [] := World.ownsRow_nil _ _ _ _
/-- a slice that came in reads as these -/
def CameMistake (w : World) (a : Option Addr) (len : Nat) (ps : List RMistake) : Prop := ps.length = len ∧ (0 < len → ∃ b off, a = some ⟨b, off, none⟩ ∧ ∀ k, k < len → w.cell? ⟨b, off + k * 3, none⟩ = some (.int .i64 (ps.getD k zMistake).1) ∧ w.cell? ⟨b, off + k * 3 + 1, none⟩ = some (.int .i64 (ps.getD k zMistake).2.1) ∧ w.cell? ⟨b, off + k * 3 + 2, none⟩ = some (.string (ps.getD k zMistake).2.2) ∧ (ps.getD k zMistake).2.2.size ≤ maxLen)
theorem CameMistake.below {w w' : World} {a : Option Addr} {len : Nat} {ps : List RMistake} (h : CameMistake w a len ps) (hb : Below w.heap.size w w') : CameMistake w' a len ps := by
  refine ⟨h.1, fun hp => ?_⟩
  obtain ⟨b, off, ha, hc⟩ := h.2 hp
  refine ⟨b, off, ha, fun k hk => ?_⟩
  obtain ⟨h0, h1, h2, hs⟩ := hc k hk
  exact ⟨(hb.cell (World.block_lt_of_cell? w _ h0)).trans h0, (hb.cell (World.block_lt_of_cell? w _ h1)).trans h1, (hb.cell (World.block_lt_of_cell? w _ h2)).trans h2, hs⟩
def smallMistake (ps : List RMistake) : Prop := ∀ p ∈ ps, p.2.2.size ≤ maxLen
theorem OwnMistake.cameC {w : World} {B : Nat} {v : Value} {ps : List RMistake} (h : OwnMistake w B v ps) (hs : smallMistake ps) : ∃ ao cap, v = .slice ao ps.length cap ∧ CameMistake w ao ps.length ps ∧ ps.length ≤ cap ∧ cap ≤ 9223372036854775807 := by
  rcases h.shape with ⟨h1, h2⟩ | ⟨g, cap, h1, _, _, h4, h5⟩
  · exact ⟨none, 0, by rw [h1, h2], ⟨rfl, fun hp => absurd hp (by omega)⟩, by omega, by omega⟩
  · subst h1
    refine ⟨_, cap, rfl, ⟨rfl, fun _ => ⟨g, 0, rfl, fun k hk => ?_⟩⟩, h4, h5⟩
    simp only [Nat.zero_add]
    refine ⟨h.cell0 rfl k hk, h.cell1 rfl k hk, h.cell2 rfl k hk, hs _ ?_⟩
    simp only [List.getD_eq_getElem?_getD, List.getElem?_eq_getElem hk, Option.getD_some]
    exact List.getElem_mem hk
theorem CameMistake.small {w : World} {a : Option Addr} {len : Nat} {ps : List RMistake} (h : CameMistake w a len ps) : smallMistake ps := fun p hp => by
  obtain ⟨k, hk, rfl⟩ := List.getElem_of_mem hp
  obtain ⟨b, off, _, hc⟩ := h.2 (by have := h.1; omega)
  obtain ⟨_, _, _, hs⟩ := hc k (by have := h.1; omega)
  simp only [List.getD_eq_getElem?_getD, List.getElem?_eq_getElem hk, Option.getD_some] at hs
  exact hs
theorem openMistake {H : Type} {enc : TypeId × Value → H} {w : World} {base : Nat} {spare : Nat → Bool} {held : Bool} {t e : TypeId} {f0 f1 f2 : Field} {fuel : Nat} {cs : List Value} {x : DataW H × List MemPlace} (ht : Tryd.prog.underlying t = some (.slice e)) (he : Tryd.prog.underlying e = some (.struct #[f0, f1, f2])) (hC : Tryd.prog.cellsOf e = 3)
    (q0 : f0.offset = 0 ∧ Tryd.prog.cellsOf f0.type = 1 ∧ Tryd.prog.underlying f0.type = some (.int .i64)) (q1 : f1.offset = 1 ∧ Tryd.prog.cellsOf f1.type = 1 ∧ Tryd.prog.underlying f1.type = some (.int .i64)) (q2 : f2.offset = 2 ∧ Tryd.prog.cellsOf f2.type = 1 ∧ Tryd.prog.underlying f2.type = some (.string)) (h : DataW.trod enc Tryd.prog w base spare held fuel t cs = some x) :
    cs = [.slice none 0 0] ∨ ∃ (a : Option Addr) (len cap : Nat) (ps : List RMistake), cs = [.slice a len cap] ∧ CameMistake w a len ps ∧ len ≤ cap ∧ cap ≤ maxLen := by
  rcases open_row 3 (by omega) ht he hC h with h0 | ⟨a, len, cap, hcs, hl, hm, hr⟩
  · exact .inl h0
  · rcases Nat.eq_zero_or_pos len with h0 | h0
    · subst h0
      exact .inr ⟨a, 0, cap, [], hcs, ⟨rfl, fun hp => absurd hp (by omega)⟩, hl, hm⟩
    · obtain ⟨b, off, rfl, hrow⟩ := hr h0
      have hex : ∀ i, ∃ p : RMistake, i < len → w.cell? ⟨b, off + i * 3, none⟩ = some (.int .i64 p.1) ∧ w.cell? ⟨b, off + i * 3 + 1, none⟩ = some (.int .i64 p.2.1) ∧ w.cell? ⟨b, off + i * 3 + 2, none⟩ = some (.string p.2.2) ∧ p.2.2.size ≤ maxLen := fun i => by
        by_cases hi : i < len
        · obtain ⟨c, n, xs, hcl, hat, hxl, hf⟩ := hrow i hi
          have t0 := hf 0 f0 rfl
          rw [q0.1, q0.2.1, one_drop (by omega), List.getElem?_eq_getElem (by rw [hxl]; simp)] at t0
          obtain ⟨x0, g0, _, _⟩ := DataW.trod_int q0.2.2 t0
          have c0 := hat 0 (by omega)
          rw [List.getElem?_eq_getElem (by omega)] at c0
          injection g0 with g0
          rw [g0] at c0
          have t1 := hf 1 f1 rfl
          rw [q1.1, q1.2.1, one_drop (by omega), List.getElem?_eq_getElem (by rw [hxl]; simp)] at t1
          obtain ⟨x1, g1, _, _⟩ := DataW.trod_int q1.2.2 t1
          have c1 := hat 1 (by omega)
          rw [List.getElem?_eq_getElem (by omega)] at c1
          injection g1 with g1
          rw [g1] at c1
          have t2 := hf 2 f2 rfl
          rw [q2.1, q2.2.1, one_drop (by omega), List.getElem?_eq_getElem (by rw [hxl]; simp)] at t2
          obtain ⟨x2, g2, _, s2⟩ := DataW.trod_string q2.2.2 t2
          have c2 := hat 2 (by omega)
          rw [List.getElem?_eq_getElem (by omega)] at c2
          injection g2 with g2
          rw [g2] at c2
          exact ⟨(x0, x1, x2), fun _ => ⟨c0, c1, c2, s2⟩⟩
        · exact ⟨zMistake, fun h => absurd h hi⟩
      refine .inr ⟨_, len, cap, (List.range len).map (fun i => Classical.choose (hex i)), hcs, ⟨by simp, fun _ => ⟨b, off, rfl, fun k hk => ?_⟩⟩, hl, hm⟩
      rw [getD_range _ len k hk]
      exact Classical.choose_spec (hex k) hk
def OwnIMistake (w : World) (lo hi : Nat) (v : Value) (ps : List RMistake) : Prop := OwnMistake w lo v ps ∧ ∀ k, v.ownBlock = some k → k < hi
theorem OwnIMistake.of {w : World} {lo : Nat} {v : Value} {ps : List RMistake} (h : OwnMistake w lo v ps) : OwnIMistake w lo w.heap.size v ps := ⟨h, fun k hk => (World.ownsRow.lt h k hk).2⟩
theorem OwnIMistake.below {w w' : World} {C lo hi : Nat} {v : Value} {ps : List RMistake} (h : OwnIMistake w lo hi v ps) (hb : Below C w w') (hC : hi ≤ C) : OwnIMistake w' lo hi v ps :=
  ⟨rec_same h.1 fun k e => hb.block k (Nat.lt_of_lt_of_le (h.2 k e) hC), h.2⟩
theorem OwnIMistake.betw {w w' : World} {l h lo hi : Nat} {v : Value} {ps : List RMistake} (ho : OwnIMistake w lo hi v ps) (hb : Betw l h w w') (hd : h ≤ lo ∨ hi ≤ l) (_hs : hi ≤ w.heap.size) : OwnIMistake w' lo hi v ps :=
  ⟨rec_same ho.1 fun k e => hb.block k (World.ownsRow.lt ho.1 k e).2 (by have := (World.ownsRow.lt ho.1 k e).1; have := ho.2 k e; omega), ho.2⟩
theorem Tryd.info_Mistake : (Tryd.prog.info? 55).map (fun i => (i.zero, i.size, i.bytes)) = some (some (.agg (cMistake zMistake).toArray), 3, 32) := by kernel_rfl

theorem OwnMistake.put {w : World} {B g cap n : Nat} {ps : List RMistake} (h : OwnMistake w B (.slice (some ⟨g, 0, none⟩) n cap) ps) (hn : n = ps.length) (k : Nat) (hk : k < ps.length) (x0 : Int) (x1 : Int) (x2 : ByteArray) : OwnMistake (((w.setCell ⟨g, k * 3, none⟩ (.int .i64 x0)).setCell ⟨g, k * 3 + 1, none⟩ (.int .i64 x1)).setCell ⟨g, k * 3 + 2, none⟩ (.string x2)) B (.slice (some ⟨g, 0, none⟩) n cap) (ps.set k (x0, x1, x2)) := by
  have h0 := h.set0 hn k hk x0
  have h1 := h0.set1 (by simpa using hn) k (by simpa using hk) x1
  have h2 := h1.set2 (by simpa using hn) k (by simpa using hk) x2
  simp only [List.set_set, getD_set_same hk] at h2
  exact h2
theorem grownMistake_put (w : World) (g k : Nat) (x0 : Int) (x1 : Int) (x2 : ByteArray) : w.grownBy (((w.setCell ⟨g, k * 3, none⟩ (.int .i64 x0)).setCell ⟨g, k * 3 + 1, none⟩ (.int .i64 x1)).setCell ⟨g, k * 3 + 2, none⟩ (.string x2)) (some g) :=
  grownBy_trans (grownBy_trans (set_grown _ _ _ _) (set_grown _ _ _ _)) (set_grown _ _ _ _)
theorem madeMistake {w w1 : World} {B n : Nat} {ps : List RMistake} (hn : n = ps.length) (h : w1.ownsRow B 55 3 (.slice (some ⟨w.heap.size, 0, none⟩) n n) n (madeCells (cMistake zMistake).toArray (n * 3)).toList) :
    OwnMistake w1 B (.slice (some ⟨w.heap.size, 0, none⟩) n n) (copyR zMistake ps 0) := by
  unfold OwnMistake
  rw [copyR_zero, ← hn, List.length_replicate]
  rw [made_flat cMistake_len zMistake n (by omega)] at h
  exact h







end Go.Proofs.YtjbomclildkjaaaDoor
