/- Slices of Mistake: what came in, what a call owns; the verifier's sz, to, eq, mark, held. Written by a program of mine (tools/gen_rec.py). -/
import Derived.Test.YtamodlmdlaeoiabDoorRec
import Derived.Test.YtamodlmdlaeoiabDoorOpen
import Derived.Test.YtamodlmdlaeoiabDoorKinds
import Derived.Deep.RegionHeldLaw
import Derived.Test.YtamodlmdlaeoiabDoorMark
namespace Go.Proofs.YtamodlmdlaeoiabDoor
open Go.ChangeShapes Go.WideShapes Go.ChangeAt Go.RowKit

abbrev RMistake := Int × Int × ByteArray
def zMistake : RMistake := (0, 0, ByteArray.empty)
def cMistake (p : RMistake) : List Value := [.int .i64 p.1, .int .i64 p.2.1, .string p.2.2]
theorem cMistake_len (p : RMistake) : (cMistake p).length = 3 := rfl
def OwnMistake (w : World) (B : Nat) (v : Value) (ps : List RMistake) : Prop := w.ownsRow B 50 3 v ps.length (ps.flatMap cMistake)
theorem OwnMistake.shape {w : World} {B : Nat} {v : Value} {ps : List RMistake} (h : OwnMistake w B v ps) :
    (v = .slice none 0 0 ∧ ps.length = 0) ∨ ∃ g cap, v = .slice (some ⟨g, 0, none⟩) ps.length cap ∧ B ≤ g ∧ g < w.heap.size ∧ ps.length ≤ cap ∧ cap ≤ 9223372036854775807 := by
  rcases h.2 with ⟨h1, h2⟩ | ⟨g, cap, cur, hv, hg, hh, hn, hcap, _⟩
  · exact .inl ⟨h1, h2⟩
  · exact .inr ⟨g, cap, hv, hg, lt_of_block hh, hn, by unfold maxLen at hcap; omega⟩
theorem OwnMistake.any {w : World} {B : Nat} {v : Value} {ps : List RMistake} (h : OwnMistake w B v ps) : ∃ ao cap, v = .slice ao ps.length cap := by
  rcases h.shape with ⟨h1, h2⟩ | ⟨g, cap, h1, _⟩
  · exact ⟨none, 0, by rw [h1, h2]⟩
  · exact ⟨_, _, h1⟩
theorem OwnMistake.point {w : World} {B : Nat} {v : Value} {ps : List RMistake} (h : OwnMistake w B v ps) (hn : 0 < ps.length) : ∃ g cap, v = .slice (some ⟨g, 0, none⟩) ps.length cap ∧ B ≤ g ∧ g < w.heap.size := by
  rcases h.shape with ⟨_, h2⟩ | ⟨g, cap, h1, h2, h3, _⟩
  · omega
  · exact ⟨g, cap, h1, h2, h3⟩
theorem OwnMistake.cell0 {w : World} {B g cap n : Nat} {ps : List RMistake} (h : OwnMistake w B (.slice (some ⟨g, 0, none⟩) n cap) ps) (hn : n = ps.length) (k : Nat) (hk : k < ps.length) : w.cell? ⟨g, k * 3, none⟩ = some (.int .i64 (ps.getD k zMistake).1) := by
  subst hn
  unfold OwnMistake at h
  have := flat_get cMistake_len zMistake ps k 0 hk (by omega)
  rw [h.cellAt (k * 3) (by have := Nat.mul_le_mul_right 3 (show k + 1 ≤ ps.length from hk); omega)]
  exact this
theorem OwnMistake.set0 {w : World} {B g cap n : Nat} {ps : List RMistake} (h : OwnMistake w B (.slice (some ⟨g, 0, none⟩) n cap) ps) (hn : n = ps.length) (k : Nat) (hk : k < ps.length) (z : Int) : OwnMistake (w.setCell ⟨g, k * 3, none⟩ (.int .i64 z)) B (.slice (some ⟨g, 0, none⟩) n cap) (ps.set k (z, (ps.getD k zMistake).2.1, (ps.getD k zMistake).2.2)) := by
  subst hn
  unfold OwnMistake at h ⊢
  rw [List.length_set, ← flat_set cMistake_len zMistake (.int .i64 z) _ ps k 0 hk (by omega) rfl]
  exact (h.stored (k * 3) _).1
theorem OwnMistake.cell1 {w : World} {B g cap n : Nat} {ps : List RMistake} (h : OwnMistake w B (.slice (some ⟨g, 0, none⟩) n cap) ps) (hn : n = ps.length) (k : Nat) (hk : k < ps.length) : w.cell? ⟨g, k * 3 + 1, none⟩ = some (.int .i64 (ps.getD k zMistake).2.1) := by
  subst hn
  unfold OwnMistake at h
  have := flat_get cMistake_len zMistake ps k 1 hk (by omega)
  rw [h.cellAt (k * 3 + 1) (by have := Nat.mul_le_mul_right 3 (show k + 1 ≤ ps.length from hk); omega)]
  exact this
theorem OwnMistake.set1 {w : World} {B g cap n : Nat} {ps : List RMistake} (h : OwnMistake w B (.slice (some ⟨g, 0, none⟩) n cap) ps) (hn : n = ps.length) (k : Nat) (hk : k < ps.length) (z : Int) : OwnMistake (w.setCell ⟨g, k * 3 + 1, none⟩ (.int .i64 z)) B (.slice (some ⟨g, 0, none⟩) n cap) (ps.set k ((ps.getD k zMistake).1, z, (ps.getD k zMistake).2.2)) := by
  subst hn
  unfold OwnMistake at h ⊢
  rw [List.length_set, ← flat_set cMistake_len zMistake (.int .i64 z) _ ps k 1 hk (by omega) rfl]
  exact (h.stored (k * 3 + 1) _).1
theorem OwnMistake.cell2 {w : World} {B g cap n : Nat} {ps : List RMistake} (h : OwnMistake w B (.slice (some ⟨g, 0, none⟩) n cap) ps) (hn : n = ps.length) (k : Nat) (hk : k < ps.length) : w.cell? ⟨g, k * 3 + 2, none⟩ = some (.string (ps.getD k zMistake).2.2) := by
  subst hn
  unfold OwnMistake at h
  have := flat_get cMistake_len zMistake ps k 2 hk (by omega)
  rw [h.cellAt (k * 3 + 2) (by have := Nat.mul_le_mul_right 3 (show k + 1 ≤ ps.length from hk); omega)]
  exact this
theorem OwnMistake.set2 {w : World} {B g cap n : Nat} {ps : List RMistake} (h : OwnMistake w B (.slice (some ⟨g, 0, none⟩) n cap) ps) (hn : n = ps.length) (k : Nat) (hk : k < ps.length) (z : ByteArray) : OwnMistake (w.setCell ⟨g, k * 3 + 2, none⟩ (.string z)) B (.slice (some ⟨g, 0, none⟩) n cap) (ps.set k ((ps.getD k zMistake).1, (ps.getD k zMistake).2.1, z)) := by
  subst hn
  unfold OwnMistake at h ⊢
  rw [List.length_set, ← flat_set cMistake_len zMistake (.string z) _ ps k 2 hk (by omega) rfl]
  exact (h.stored (k * 3 + 2) _).1
theorem OwnMistake.free {w : World} {B g cap n : Nat} {ps : List RMistake} (h : OwnMistake w B (.slice (some ⟨g, 0, none⟩) n cap) ps) (hn : n = ps.length) (j : Nat) : w.frozen? ⟨g, j, none⟩ = false := by
  subst hn
  unfold OwnMistake at h
  exact h.frozenAt j
theorem OwnMistake.below {w w' : World} {B C : Nat} {v : Value} {ps : List RMistake} (h : OwnMistake w B v ps) (hb : Below C w w') (hC : w.heap.size ≤ C) : OwnMistake w' B v ps := by
  unfold OwnMistake at h ⊢
  exact h.kept (row := none) ⟨hb.os, hb.tape, hb.output, hb.size, fun k hk _ => hb.block k (by omega)⟩ (by cases v.ownBlock <;> simp)
theorem OwnMistake.mono {w : World} {B B' : Nat} {v : Value} {ps : List RMistake} (h : OwnMistake w B v ps) (hb : B' ≤ B) : OwnMistake w B' v ps := by
  unfold OwnMistake at h ⊢
  refine ⟨h.1, ?_⟩
  rcases h.2 with h2 | ⟨g, cap, cur, a, b, r⟩
  · exact .inl h2
  · exact .inr ⟨g, cap, cur, a, Nat.le_trans hb b, r⟩
theorem OwnMistake.drewN {w : World} {B : Nat} {v : Value} {ps : List RMistake} (h : OwnMistake w B v ps) (n : Nat) : OwnMistake (w.drewN n) B v ps := h
theorem ownMistake_nil (w : World) (B : Nat) : OwnMistake w B (.slice none 0 0) [] := World.ownsRow_nil _ _ _ _
/-- a slice that came in reads as these -/
def CameMistake (w : World) (a : Option Addr) (len : Nat) (ps : List RMistake) : Prop := ps.length = len ∧ (0 < len → ∃ b off, a = some ⟨b, off, none⟩ ∧ ∀ k, k < len → w.cell? ⟨b, off + k * 3, none⟩ = some (.int .i64 (ps.getD k zMistake).1) ∧ w.cell? ⟨b, off + k * 3 + 1, none⟩ = some (.int .i64 (ps.getD k zMistake).2.1) ∧ w.cell? ⟨b, off + k * 3 + 2, none⟩ = some (.string (ps.getD k zMistake).2.2) ∧ (ps.getD k zMistake).2.2.size ≤ maxLen)
theorem CameMistake.below {w w' : World} {a : Option Addr} {len : Nat} {ps : List RMistake} (h : CameMistake w a len ps) (hb : Below w.heap.size w w') : CameMistake w' a len ps := by
  refine ⟨h.1, fun hp => ?_⟩
  obtain ⟨b, off, ha, hc⟩ := h.2 hp
  refine ⟨b, off, ha, fun k hk => ?_⟩
  obtain ⟨h0, h1, h2, hs⟩ := hc k hk
  exact ⟨(hb.cell (World.block_lt_of_cell? w _ h0)).trans h0, (hb.cell (World.block_lt_of_cell? w _ h1)).trans h1, (hb.cell (World.block_lt_of_cell? w _ h2)).trans h2, hs⟩
def smallMistake (ps : List RMistake) : Prop := ∀ p ∈ ps, p.2.2.size ≤ maxLen
theorem OwnMistake.cameC {w : World} {B : Nat} {v : Value} {ps : List RMistake} (h : OwnMistake w B v ps) (hs : smallMistake ps) : ∃ ao cap, v = .slice ao ps.length cap ∧ CameMistake w ao ps.length ps ∧ ps.length ≤ cap ∧ cap ≤ 9223372036854775807 := by
  rcases h.shape with ⟨h1, h2⟩ | ⟨g, cap, h1, _, _, h4, h5⟩
  · exact ⟨none, 0, by rw [h1, h2], ⟨rfl, fun hp => absurd hp (by omega)⟩, by omega, by omega⟩
  · subst h1
    refine ⟨_, cap, rfl, ⟨rfl, fun _ => ⟨g, 0, rfl, fun k hk => ?_⟩⟩, h4, h5⟩
    simp only [Nat.zero_add]
    refine ⟨h.cell0 rfl k hk, h.cell1 rfl k hk, h.cell2 rfl k hk, hs _ ?_⟩
    simp only [List.getD_eq_getElem?_getD, List.getElem?_eq_getElem hk, Option.getD_some]
    exact List.getElem_mem hk
theorem CameMistake.small {w : World} {a : Option Addr} {len : Nat} {ps : List RMistake} (h : CameMistake w a len ps) : smallMistake ps := fun p hp => by
  obtain ⟨k, hk, rfl⟩ := List.getElem_of_mem hp
  obtain ⟨b, off, _, hc⟩ := h.2 (by have := h.1; omega)
  obtain ⟨_, _, _, hs⟩ := hc k (by have := h.1; omega)
  simp only [List.getD_eq_getElem?_getD, List.getElem?_eq_getElem hk, Option.getD_some] at hs
  exact hs
theorem openMistake {H : Type} {enc : TypeId × Value → H} {w : World} {base : Nat} {spare : Nat → Bool} {held : Bool} {t e : TypeId} {f0 f1 f2 : Field} {fuel : Nat} {cs : List Value} {x : DataW H × List MemPlace} (ht : Tryd.prog.underlying t = some (.slice e)) (he : Tryd.prog.underlying e = some (.struct #[f0, f1, f2])) (hC : Tryd.prog.cellsOf e = 3)
    (q0 : f0.offset = 0 ∧ Tryd.prog.cellsOf f0.type = 1 ∧ Tryd.prog.underlying f0.type = some (.int .i64)) (q1 : f1.offset = 1 ∧ Tryd.prog.cellsOf f1.type = 1 ∧ Tryd.prog.underlying f1.type = some (.int .i64)) (q2 : f2.offset = 2 ∧ Tryd.prog.cellsOf f2.type = 1 ∧ Tryd.prog.underlying f2.type = some (.string)) (h : DataW.trod enc Tryd.prog w base spare held fuel t cs = some x) :
    cs = [.slice none 0 0] ∨ ∃ (a : Option Addr) (len cap : Nat) (ps : List RMistake), cs = [.slice a len cap] ∧ CameMistake w a len ps ∧ len ≤ cap ∧ cap ≤ maxLen := by
  rcases open_row 3 (by omega) ht he hC h with h0 | ⟨a, len, cap, hcs, hl, hm, hr⟩
  · exact .inl h0
  · rcases Nat.eq_zero_or_pos len with h0 | h0
    · subst h0
      exact .inr ⟨a, 0, cap, [], hcs, ⟨rfl, fun hp => absurd hp (by omega)⟩, hl, hm⟩
    · obtain ⟨b, off, rfl, hrow⟩ := hr h0
      have hex : ∀ i, ∃ p : RMistake, i < len → w.cell? ⟨b, off + i * 3, none⟩ = some (.int .i64 p.1) ∧ w.cell? ⟨b, off + i * 3 + 1, none⟩ = some (.int .i64 p.2.1) ∧ w.cell? ⟨b, off + i * 3 + 2, none⟩ = some (.string p.2.2) ∧ p.2.2.size ≤ maxLen := fun i => by
        by_cases hi : i < len
        · obtain ⟨c, n, xs, hcl, hat, hxl, hf⟩ := hrow i hi
          have t0 := hf 0 f0 rfl
          rw [q0.1, q0.2.1, one_drop (by omega), List.getElem?_eq_getElem (by rw [hxl]; simp)] at t0
          obtain ⟨x0, g0, _, _⟩ := DataW.trod_int q0.2.2 t0
          have c0 := hat 0 (by omega)
          rw [List.getElem?_eq_getElem (by omega)] at c0
          injection g0 with g0
          rw [g0] at c0
          have t1 := hf 1 f1 rfl
          rw [q1.1, q1.2.1, one_drop (by omega), List.getElem?_eq_getElem (by rw [hxl]; simp)] at t1
          obtain ⟨x1, g1, _, _⟩ := DataW.trod_int q1.2.2 t1
          have c1 := hat 1 (by omega)
          rw [List.getElem?_eq_getElem (by omega)] at c1
          injection g1 with g1
          rw [g1] at c1
          have t2 := hf 2 f2 rfl
          rw [q2.1, q2.2.1, one_drop (by omega), List.getElem?_eq_getElem (by rw [hxl]; simp)] at t2
          obtain ⟨x2, g2, _, s2⟩ := DataW.trod_string q2.2.2 t2
          have c2 := hat 2 (by omega)
          rw [List.getElem?_eq_getElem (by omega)] at c2
          injection g2 with g2
          rw [g2] at c2
          exact ⟨(x0, x1, x2), fun _ => ⟨c0, c1, c2, s2⟩⟩
        · exact ⟨zMistake, fun h => absurd h hi⟩
      refine .inr ⟨_, len, cap, (List.range len).map (fun i => Classical.choose (hex i)), hcs, ⟨by simp, fun _ => ⟨b, off, rfl, fun k hk => ?_⟩⟩, hl, hm⟩
      rw [getD_range _ len k hk]
      exact Classical.choose_spec (hex k) hk
def OwnIMistake (w : World) (lo hi : Nat) (v : Value) (ps : List RMistake) : Prop := OwnMistake w lo v ps ∧ ∀ k, v.ownBlock = some k → k < hi
theorem OwnIMistake.of {w : World} {lo : Nat} {v : Value} {ps : List RMistake} (h : OwnMistake w lo v ps) : OwnIMistake w lo w.heap.size v ps := ⟨h, fun k hk => (World.ownsRow.lt h k hk).2⟩
theorem OwnIMistake.below {w w' : World} {C lo hi : Nat} {v : Value} {ps : List RMistake} (h : OwnIMistake w lo hi v ps) (hb : Below C w w') (hC : hi ≤ C) : OwnIMistake w' lo hi v ps :=
  ⟨rec_same h.1 fun k e => hb.block k (Nat.lt_of_lt_of_le (h.2 k e) hC), h.2⟩
theorem OwnIMistake.betw {w w' : World} {l h lo hi : Nat} {v : Value} {ps : List RMistake} (ho : OwnIMistake w lo hi v ps) (hb : Betw l h w w') (hd : h ≤ lo ∨ hi ≤ l) (_hs : hi ≤ w.heap.size) : OwnIMistake w' lo hi v ps :=
  ⟨rec_same ho.1 fun k e => hb.block k (World.ownsRow.lt ho.1 k e).2 (by have := (World.ownsRow.lt ho.1 k e).1; have := ho.2 k e; omega), ho.2⟩
theorem Tryd.info_Mistake : (Tryd.prog.info? 50).map (fun i => (i.zero, i.size, i.bytes)) = some (some (.agg (cMistake zMistake).toArray), 3, 32) := by kernel_rfl

theorem OwnMistake.put {w : World} {B g cap n : Nat} {ps : List RMistake} (h : OwnMistake w B (.slice (some ⟨g, 0, none⟩) n cap) ps) (hn : n = ps.length) (k : Nat) (hk : k < ps.length) (x0 : Int) (x1 : Int) (x2 : ByteArray) : OwnMistake (((w.setCell ⟨g, k * 3, none⟩ (.int .i64 x0)).setCell ⟨g, k * 3 + 1, none⟩ (.int .i64 x1)).setCell ⟨g, k * 3 + 2, none⟩ (.string x2)) B (.slice (some ⟨g, 0, none⟩) n cap) (ps.set k (x0, x1, x2)) := by
  have h0 := h.set0 hn k hk x0
  have h1 := h0.set1 (by simpa using hn) k (by simpa using hk) x1
  have h2 := h1.set2 (by simpa using hn) k (by simpa using hk) x2
  simp only [List.set_set, getD_set_same hk] at h2
  exact h2
theorem grownMistake_put (w : World) (g k : Nat) (x0 : Int) (x1 : Int) (x2 : ByteArray) : w.grownBy (((w.setCell ⟨g, k * 3, none⟩ (.int .i64 x0)).setCell ⟨g, k * 3 + 1, none⟩ (.int .i64 x1)).setCell ⟨g, k * 3 + 2, none⟩ (.string x2)) (some g) :=
  grownBy_trans (grownBy_trans (set_grown _ _ _ _) (set_grown _ _ _ _)) (set_grown _ _ _ _)
theorem madeMistake {w w1 : World} {B n : Nat} {ps : List RMistake} (hn : n = ps.length) (h : w1.ownsRow B 50 3 (.slice (some ⟨w.heap.size, 0, none⟩) n n) n (madeCells (cMistake zMistake).toArray (n * 3)).toList) :
    OwnMistake w1 B (.slice (some ⟨w.heap.size, 0, none⟩) n n) (copyR zMistake ps 0) := by
  unfold OwnMistake
  rw [copyR_zero, ← hn, List.length_replicate]
  rw [made_flat cMistake_len zMistake n (by omega)] at h
  exact h
/-- the marks -/
def mkMistake (i : Nat) : RMistake := ((3 * (i : Int) + 1), (3 * (i : Int) + 2), markOf (3 * i + 3))
def marksMistake (n : Nat) : List RMistake := (List.range n).map mkMistake
@[simp] theorem length_marksMistake (n : Nat) : (marksMistake n).length = n := by simp [marksMistake]

set_option maxHeartbeats 1000000 in
theorem toMistake_any (x0 : Int) (x1 : Int) (x2 : ByteArray) (w : World) :
    Calls Tryd.prog 32 #[.agg #[.int .i64 x0, .int .i64 x1, .string x2]] w fun e w' => e = .returned (.agg #[.int .i64 x0, .int .i64 x1, .string x2]) ∧ Below w.heap.size w w' := by
  go_enter Tryd.func32, Tryd.ntmps32
  go_wp2
  refine bodyPost_ret (v := .agg #[.int .i64 x0, .int .i64 x1, .string x2]) (by simp [results, Tryd.results32, go_sem]) rfl ⟨rfl, ?_⟩
  exact ((((Below.refl _ _).alloc (Nat.le_refl _) _).alloc (by simp) _).alloc (by simp; omega) _)

set_option maxHeartbeats 2000000 in
theorem toMistakeS_any (w : World) (a : Option Addr) (len cap : Nat) (ps : List RMistake) (hl : len ≤ 1048576) (hc : CameMistake w a len ps) :
    Calls Tryd.prog 11 #[.slice a len cap] w fun e w' => ∃ v, e = .returned v ∧ OwnMistake w' w.heap.size v ps ∧ Below w.heap.size w w' := by
  obtain ⟨i0, hi, hz0, hz1, hz2⟩ := info_parts Tryd.info_Mistake
  have hzl := hc.1
  have HC := Lib.hid hc
  have HZL : Hid (len = ps.length) := Lib.hid hzl.symm
  clear hc hzl
  go_enter Tryd.func11, Tryd.ntmps11
  go_wp2_with (at_make; refine wpList_make_full _ rfl _ _ 26 rfl w.heap.size 50 i0 (.agg (cMistake zMistake).toArray) 3 Tryd.underlying26 hi hz0 hz1 .i64 .i64 _ _ len rfl rfl rfl rfl (by rw [hz2]; omega) (by unfold maxLen; omega) (Nat.le_refl _) ?_; intro w1 hown hgrow)
  have HO0 := Lib.hid (madeMistake HZL.out hown)
  have HB0 := Lib.hid (below_made hgrow)
  clear hown hgrow hi hz0 hz1 hz2
  go_loopw [4] (fun i wr => ∃ k : Nat, k ≤ len ∧ i = .int .i64 k ∧ Hid (OwnMistake wr w.heap.size (.slice (some ⟨w.heap.size, 0, none⟩) len len) (copyR zMistake ps k)) ∧ Hid (Below w.heap.size w wr)) (fun i _ => len - (intOf i).toNat)
  case atStart => exact ⟨0, Nat.zero_le _, rfl, HO0, HB0⟩
  case round =>
    obtain ⟨k, hk, rfl, HO, HB⟩ := hrel
    by_cases hlt : k < len
    · obtain ⟨b, off, rfl, hcell⟩ := (HC.out.below HB.out).2 (by omega)
      obtain ⟨e0, e1, e2, _hs⟩ := hcell k hlt
      have HS := Lib.hid (copyR_succ zMistake ps k (by have := HZL.out; omega) ((ps.getD k zMistake).1, (ps.getD k zMistake).2.1, (ps.getD k zMistake).2.2) rfl)
      obtain ⟨x0, hx0⟩ : ∃ x, x = (ps.getD k zMistake).1 := ⟨_, rfl⟩
      rw [← hx0] at e0 HS
      obtain ⟨x1, hx1⟩ : ∃ x, x = (ps.getD k zMistake).2.1 := ⟨_, rfl⟩
      rw [← hx1] at e1 HS
      obtain ⟨x2, hx2⟩ : ∃ x, x = (ps.getD k zMistake).2.2 := ⟨_, rfl⟩
      rw [← hx2] at e2 HS
      have HT := Lib.hid (fun w2 => toMistake_any x0 x1 x2 w2)
      have i1 : (0 : Int) ≤ (k : Int) := by omega
      have i2 : (k : Int) < (len : Int) := by omega
      clear hcell hx0 hx1 hx2
      go_wp2_with fail
      go_at_call 32
      refine (HT.out _).mono ?_
      rintro e w2 ⟨rfl, b2⟩
      have HO2 := Lib.hid (HO.out.below b2 (Nat.le_refl _))
      have HB2 : Hid (Below w.heap.size w w2) := Lib.hid (HB.out.trans (b2.mono HB.out.size))
      have hcl := length_copyR zMistake ps k (by have := HZL.out; omega)
      have hzl := HZL.out
      have c0 := HO2.out.cell0 (by omega) k (by omega)
      have f0 := HO2.out.free (by omega) (k * 3)
      obtain ⟨y0, hy0⟩ : ∃ x, x = ((copyR zMistake ps k).getD k zMistake).1 := ⟨_, rfl⟩
      rw [← hy0] at c0
      have c1 := HO2.out.cell1 (by omega) k (by omega)
      have f1 := HO2.out.free (by omega) (k * 3 + 1)
      obtain ⟨y1, hy1⟩ : ∃ x, x = ((copyR zMistake ps k).getD k zMistake).2.1 := ⟨_, rfl⟩
      rw [← hy1] at c1
      have c2 := HO2.out.cell2 (by omega) k (by omega)
      have f2 := HO2.out.free (by omega) (k * 3 + 2)
      obtain ⟨y2, hy2⟩ : ∃ x, x = ((copyR zMistake ps k).getD k zMistake).2.2 := ⟨_, rfl⟩
      rw [← hy2] at c2
      have HO3 : Hid (OwnMistake (((w2.setCell ⟨w.heap.size, k * 3, none⟩ (.int .i64 x0)).setCell ⟨w.heap.size, k * 3 + 1, none⟩ (.int .i64 x1)).setCell ⟨w.heap.size, k * 3 + 2, none⟩ (.string x2)) w.heap.size (.slice (some ⟨w.heap.size, 0, none⟩) len len) (copyR zMistake ps (k + 1))) := Lib.hid (by rw [← HS.out]; exact HO2.out.put (by omega) k (by omega) x0 x1 x2)
      have HB3 : Hid (Below w.heap.size w (((w2.setCell ⟨w.heap.size, k * 3, none⟩ (.int .i64 x0)).setCell ⟨w.heap.size, k * 3 + 1, none⟩ (.int .i64 x1)).setCell ⟨w.heap.size, k * 3 + 2, none⟩ (.string x2))) := Lib.hid (grownBy_below HB2.out (grownMistake_put w2 w.heap.size k x0 x1 x2) (Nat.le_refl _) (Nat.le_refl _))
      clear b2 hcl hzl hy0 hy1 hy2
      go_wp2
      go_roundw
      case rel => exact ⟨k + 1, by omega, by go_num, HO3, HB3⟩
      case measure => simp [intOf]; omega
    · have HE : Hid (copyR zMistake ps k = ps) := Lib.hid (by have := HZL.out; rw [show k = ps.length by omega]; exact copyR_all _ _)
      go_wp2
      go_ret
      exact ⟨_, rfl, by rw [← HE.out]; exact HO.out, HB.out⟩

set_option maxHeartbeats 400000 in
theorem szMistake_any (x0 : Int) (x1 : Int) (x2 : ByteArray) (l : Int) (h0 : 0 ≤ l) (h1 : l ≤ 1048576) (hs : x2.size ≤ maxLen) (w : World) :
    Calls Tryd.prog 28 #[.agg #[.int .i64 x0, .int .i64 x1, .string x2], .int .i64 l] w fun e w' => ∃ r : Int, e = .returned (.int .i64 r) ∧ -1 ≤ r ∧ r ≤ 1048576 ∧ Below w.heap.size w w' := by
  have hs2 : (x2.size : Int) ≤ 9223372036854775807 := by unfold maxLen at hs; omega
  clear hs
  by_cases h : l - (x2.size : Int) < 0
  · go_enter Tryd.func28, Tryd.ntmps28
    go_wp2
    go_ret
    exact ⟨_, rfl, by omega, by omega, (Below.refl _ _).alloc (Nat.le_refl _) _⟩
  · go_enter Tryd.func28, Tryd.ntmps28
    go_wp2
    go_ret
    exact ⟨_, rfl, by omega, by omega, (Below.refl _ _).alloc (Nat.le_refl _) _⟩
set_option maxHeartbeats 1000000 in
theorem szMistakeS_any (w : World) (a : Option Addr) (len cap : Nat) (ps : List RMistake) (hlen : len ≤ 9223372036854775807) (hc : CameMistake w a len ps) :
    Calls Tryd.prog 9 #[.slice a len cap, .int .i64 1048576] w fun e w' => ∃ r : Int, e = .returned (.int .i64 r) ∧ -1 ≤ r ∧ r ≤ 1048576 ∧ (0 ≤ r → len ≤ 1048576) ∧ Below w.heap.size w w' := by
  by_cases h : len ≤ 1048576
  · have HC := Lib.hid hc
    clear hc
    go_enter Tryd.func9, Tryd.ntmps9
    go_wp2
    go_loopw [1, 5] (fun q i wr => ∃ (k : Nat) (l : Int), k ≤ len ∧ i = .int .i64 k ∧ q = .int .i64 l ∧ 0 ≤ l ∧ l ≤ 1048576 ∧ Hid (Below w.heap.size w wr)) (fun _ i _ => len - (intOf i).toNat)
    case atStart => exact ⟨0, 1048576 - (len : Int), Nat.zero_le _, rfl, rfl, by omega, by omega, Below.refl _ _⟩
    case round =>
      obtain ⟨k, l, hk, rfl, rfl, hl0, hl1, HB⟩ := hrel
      by_cases hlt : k < len
      · obtain ⟨b, off, rfl, hcell⟩ := (HC.out.below HB.out).2 (by omega)
        obtain ⟨e0, e1, e2, hs⟩ := hcell k hlt
        obtain ⟨x0, hx0⟩ : ∃ x, x = (ps.getD k zMistake).1 := ⟨_, rfl⟩
        rw [← hx0] at e0
        obtain ⟨x1, hx1⟩ : ∃ x, x = (ps.getD k zMistake).2.1 := ⟨_, rfl⟩
        rw [← hx1] at e1
        obtain ⟨x2, hx2⟩ : ∃ x, x = (ps.getD k zMistake).2.2 := ⟨_, rfl⟩
        rw [← hx2] at e2 hs
        have HT := Lib.hid (fun w2 => szMistake_any x0 x1 x2 l hl0 hl1 hs w2)
        have i1 : (0 : Int) ≤ (k : Int) := by omega
        have i2 : (k : Int) < (len : Int) := by omega
        clear hcell hs hx0 hx1 hx2
        go_wp2_with fail
        go_at_call 28
        refine (HT.out _).mono ?_
        rintro e w2 ⟨r, rfl, hr0, hr1, b2⟩
        have HB2 : Hid (Below w.heap.size w w2) := Lib.hid (HB.out.trans (b2.mono HB.out.size))
        clear b2
        by_cases hneg : r < 0
        · go_wp2
          go_ret
          exact ⟨_, rfl, by omega, by omega, fun _ => h, HB2.out⟩
        · go_wp2
          go_roundw
          case rel => exact ⟨k + 1, r, by omega, by go_num, rfl, by omega, hr1, HB2⟩
          case measure => simp [intOf]; omega
      · go_wp2
        go_ret
        exact ⟨_, rfl, by omega, hl1, fun _ => h, HB.out⟩
  · clear hc
    go_enter Tryd.func9, Tryd.ntmps9
    go_wp2
    go_ret
    exact ⟨_, rfl, by omega, by omega, fun h2 => absurd h2 (by omega), Below.refl _ _⟩

set_option maxHeartbeats 1000000 in
theorem eqMistake_any (x0 : Int) (x1 : Int) (x2 : ByteArray) (w : World) :
    Calls Tryd.prog 37 #[.agg #[.int .i64 x0, .int .i64 x1, .string x2], .agg #[.int .i64 x0, .int .i64 x1, .string x2]] w fun e w' => e = .returned (.bool true) ∧ Below w.heap.size w w' := by
  go_enter Tryd.func37, Tryd.ntmps37
  go_wp2
  go_ret
  exact ⟨rfl, ((Below.refl _ _).alloc (Nat.le_refl _) _).alloc (by simp) _⟩

set_option maxHeartbeats 2000000 in
theorem eqMistakeS_same (w : World) (B1 B2 : Nat) (v1 v2 : Value) (ps : List RMistake) (hz : ps.length ≤ 4611686018427387904) (o1 : OwnMistake w B1 v1 ps) (o2 : OwnMistake w B2 v2 ps) :
    Calls Tryd.prog 13 #[v1, v2] w fun e w' => e = .returned (.bool true) ∧ Below w.heap.size w w' := by
  obtain ⟨n, hn⟩ : ∃ n, n = ps.length := ⟨_, rfl⟩
  have HN := Lib.hid hn
  rcases Nat.eq_zero_or_pos ps.length with h0 | h0
  · obtain ⟨a1, c1, rfl⟩ := o1.any
    obtain ⟨a2, c2, rfl⟩ := o2.any
    rw [h0]
    clear o1 o2 hn h0 hz
    go_enter Tryd.func13, Tryd.ntmps13
    go_wp2
    go_loop [5] (fun i => i = .int .i64 0) (fun _ => 0)
    case atStart => exact rfl
    case round =>
      obtain rfl := hrel
      go_wp2
      go_ret
      exact ⟨rfl, Below.refl _ _⟩
  · obtain ⟨g1, c1, rfl, _, l1⟩ := o1.point h0
    obtain ⟨g2, c2, rfl, _, l2⟩ := o2.point h0
    rw [← hn] at o1 o2 hz ⊢
    have H1 := Lib.hid o1
    have H2 := Lib.hid o2
    clear hn h0 o1 o2
    go_enter Tryd.func13, Tryd.ntmps13
    go_wp2
    go_loopw [5] (fun i wr => ∃ k : Nat, k ≤ n ∧ i = .int .i64 k ∧ Hid (Below w.heap.size w wr)) (fun i _ => n - (intOf i).toNat)
    case atStart => exact ⟨0, Nat.zero_le _, rfl, Below.refl _ _⟩
    case round =>
      obtain ⟨k, hk, rfl, HB⟩ := hrel
      by_cases hlt : k < n
      · have ho1 := H1.out.below HB.out (Nat.le_refl _)
        have ho2 := H2.out.below HB.out (Nat.le_refl _)
        have e0 := ho1.cell0 HN.out k (by have := HN.out; omega)
        have d0 := ho2.cell0 HN.out k (by have := HN.out; omega)
        obtain ⟨x0, hx0⟩ : ∃ x, x = (ps.getD k zMistake).1 := ⟨_, rfl⟩
        rw [← hx0] at e0 d0
        have e1 := ho1.cell1 HN.out k (by have := HN.out; omega)
        have d1 := ho2.cell1 HN.out k (by have := HN.out; omega)
        obtain ⟨x1, hx1⟩ : ∃ x, x = (ps.getD k zMistake).2.1 := ⟨_, rfl⟩
        rw [← hx1] at e1 d1
        have e2 := ho1.cell2 HN.out k (by have := HN.out; omega)
        have d2 := ho2.cell2 HN.out k (by have := HN.out; omega)
        obtain ⟨x2, hx2⟩ : ∃ x, x = (ps.getD k zMistake).2.2 := ⟨_, rfl⟩
        rw [← hx2] at e2 d2
        have HK : Hid (∀ w' : World, Below wr.heap.size wr w' → w'.cell? ⟨g1, k * 3, none⟩ = some (.int .i64 x0) ∧ w'.cell? ⟨g1, k * 3 + 1, none⟩ = some (.int .i64 x1) ∧ w'.cell? ⟨g1, k * 3 + 2, none⟩ = some (.string x2) ∧ w'.cell? ⟨g2, k * 3, none⟩ = some (.int .i64 x0) ∧ w'.cell? ⟨g2, k * 3 + 1, none⟩ = some (.int .i64 x1) ∧ w'.cell? ⟨g2, k * 3 + 2, none⟩ = some (.string x2)) := Lib.hid (fun w5 h5 => ⟨(h5.cell (World.block_lt_of_cell? wr _ e0)).trans e0, (h5.cell (World.block_lt_of_cell? wr _ e1)).trans e1, (h5.cell (World.block_lt_of_cell? wr _ e2)).trans e2, (h5.cell (World.block_lt_of_cell? wr _ d0)).trans d0, (h5.cell (World.block_lt_of_cell? wr _ d1)).trans d1, (h5.cell (World.block_lt_of_cell? wr _ d2)).trans d2⟩)
        have HT := Lib.hid (fun w2 => eqMistake_any x0 x1 x2 w2)
        have i1 : (0 : Int) ≤ (k : Int) := by omega
        have i2 : (k : Int) < (n : Int) := by omega
        clear ho1 ho2 hx0 hx1 hx2
        go_wp2_with fail
        go_region_held_law (fun w' : World => w'.cell? ⟨g1, k * 3, none⟩ = some (.int .i64 x0) ∧ w'.cell? ⟨g1, k * 3 + 1, none⟩ = some (.int .i64 x1) ∧ w'.cell? ⟨g1, k * 3 + 2, none⟩ = some (.string x2) ∧ w'.cell? ⟨g2, k * 3, none⟩ = some (.int .i64 x0) ∧ w'.cell? ⟨g2, k * 3 + 1, none⟩ = some (.int .i64 x1) ∧ w'.cell? ⟨g2, k * 3 + 2, none⟩ = some (.string x2)) (first | go_keep | exact HK.out _ ⟨b2.os, b2.tape, b2.output, b2.size, b2.block⟩)
          ((go_at_call 37; refine (HT.out _).mono ?_; rintro e w2 ⟨rfl, b2⟩))
        have HB2 : Hid (Below w.heap.size w w2) := Lib.hid (HB.out.trans (Below.mono ⟨b2.os, b2.tape, b2.output, b2.size, b2.block⟩ HB.out.size))
        clear b2
        go_wp2
        go_roundw
        case rel => exact ⟨k + 1, by omega, by go_num, HB2⟩
        case measure => simp [intOf]; omega
      · go_wp2
        go_ret
        exact ⟨rfl, HB.out⟩
theorem eqMistakeS_two (w : World) (lo hi lo' hi' : Nat) (v1 v2 : Value) (ps : List RMistake) (hz : ps.length ≤ 4611686018427387904) (o1 : OwnIMistake w lo hi v1 ps) (o2 : OwnIMistake w lo' hi' v2 ps) :
    Calls Tryd.prog 13 #[v1, v2] w fun e w' => e = .returned (.bool true) ∧ Below w.heap.size w w' := eqMistakeS_same w lo lo' v1 v2 ps hz o1.1 o2.1

theorem OwnMistake.putP {w : World} {B g cap n : Nat} {ps : List RMistake} (h : OwnMistake w B (.slice (some ⟨g, 0, none⟩) n cap) ps) (hn : n = ps.length) (k : Nat) (hk : k < ps.length) (x0 : Int) (x1 : Int) : OwnMistake ((w.setCell ⟨g, k * 3, none⟩ (.int .i64 x0)).setCell ⟨g, k * 3 + 1, none⟩ (.int .i64 x1)) B (.slice (some ⟨g, 0, none⟩) n cap) (ps.set k (x0, x1, (ps.getD k zMistake).2.2)) := by
  have h0 := h.set0 hn k hk x0
  have h1 := h0.set1 (by simpa using hn) k (by simpa using hk) x1
  simp only [List.set_set, getD_set_same hk] at h1
  exact h1
set_option maxHeartbeats 2000000 in
theorem markMistakeS_any (w : World) (B : Nat) (v : Value) (ps : List RMistake) (hz : ps.length ≤ 1048576) (o1 : OwnMistake w B v ps) :
    Calls Tryd.prog 17 #[v, .int .i64 1] w fun e w' => e = .returned (.int .i64 (3 * ((ps.length : Nat) : Int) + 1)) ∧ OwnMistake w' B v (marksMistake ps.length) ∧ w.grownBy w' v.ownBlock := by
  obtain ⟨n, hn⟩ : ∃ n, n = ps.length := ⟨_, rfl⟩
  have HN := Lib.hid hn
  rcases Nat.eq_zero_or_pos ps.length with h0 | h0
  · have hnil : ps = [] := List.eq_nil_of_length_eq_zero h0
    subst hnil
    obtain ⟨a1, c1, rfl⟩ := o1.any
    have H1 := Lib.hid o1
    clear o1 hn h0 hz HN
    go_enter Tryd.func17, Tryd.ntmps17
    go_wp2
    go_loop [1, 5] (fun q i => q = .int .i64 1 ∧ i = .int .i64 0) (fun _ _ => 0)
    case atStart => exact ⟨rfl, rfl⟩
    case round =>
      obtain ⟨rfl, rfl⟩ := hrel
      go_wp2
      go_ret
      exact ⟨ret_int (by simp), H1.out, World.grownBy.refl _ _⟩
  · obtain ⟨g1, c1, rfl, _, l1⟩ := o1.point h0
    rw [← hn] at hz
    have HE : Hid (markedR mkMistake ps n = marksMistake n) := Lib.hid (by rw [hn]; exact markedR_all mkMistake ps)
    have H0 : Hid (OwnMistake w B (.slice (some ⟨g1, 0, none⟩) n c1) (markedR mkMistake ps 0)) := Lib.hid (by rw [markedR_zero, hn]; exact o1)
    rw [← hn]
    clear hn h0 o1
    go_enter Tryd.func17, Tryd.ntmps17
    go_wp2
    go_loopw [1, 5] (fun q i wr => ∃ k : Nat, k ≤ n ∧ i = .int .i64 k ∧ q = .int .i64 (3 * (k : Int) + 1) ∧ Hid (OwnMistake wr B (.slice (some ⟨g1, 0, none⟩) n c1) (markedR mkMistake ps k)) ∧ Hid (w.grownBy wr (some g1))) (fun _ i _ => n - (intOf i).toNat)
    case atStart => exact ⟨0, Nat.zero_le _, rfl, by simp, H0, Lib.hid (World.grownBy.refl _ _)⟩
    case round =>
      obtain ⟨k, hk, rfl, rfl, HO, HG⟩ := hrel
      have hl := length_markedR mkMistake ps k (by have := HN.out; omega)
      obtain ⟨q, hq⟩ : ∃ q : Int, q = 3 * (k : Int) + 1 := ⟨_, rfl⟩
      rw [← hq]
      have hq0 : 1 ≤ q := by omega
      have hq1 : q ≤ 100000000 := by omega
      have HQ := Lib.hid hq
      by_cases hlt : k < n
      · have hnn := HN.out
        have i1 : (0 : Int) ≤ (k : Int) := by omega
        have i2 : (k : Int) < (n : Int) := by omega
        have ec0 := HO.out.cell0 (by omega) k (by omega)
        have f0 := HO.out.free (by omega) (k * 3)
        obtain ⟨y0, hy0⟩ : ∃ x, x = ((markedR mkMistake ps k).getD k zMistake).1 := ⟨_, rfl⟩
        rw [← hy0] at ec0
        have ec1 := HO.out.cell1 (by omega) k (by omega)
        have f1 := HO.out.free (by omega) (k * 3 + 1)
        obtain ⟨y1, hy1⟩ : ∃ x, x = ((markedR mkMistake ps k).getD k zMistake).2.1 := ⟨_, rfl⟩
        rw [← hy1] at ec1
        have HP : Hid (OwnMistake ((wr.setCell ⟨g1, k * 3, none⟩ (.int .i64 (q))).setCell ⟨g1, k * 3 + 1, none⟩ (.int .i64 (q + 1))) B (.slice (some ⟨g1, 0, none⟩) n c1) ((markedR mkMistake ps k).set k ((q), (q + 1), ((markedR mkMistake ps k).getD k zMistake).2.2))) := Lib.hid (HO.out.putP (by omega) k (by omega) (q) (q + 1))
        have HGP : Hid (w.grownBy ((wr.setCell ⟨g1, k * 3, none⟩ (.int .i64 (q))).setCell ⟨g1, k * 3 + 1, none⟩ (.int .i64 (q + 1))) (some g1)) := Lib.hid (grownBy_trans (grownBy_trans (HG.out) (set_grown _ _ _ _)) (set_grown _ _ _ _))
        have HM := fun w2 => markText_any (3 * k + 3) (by omega) (by omega) w2
        rw [show ((3 * k + 3 : Nat) : Int) = q + 1 + 1 by omega] at HM
        have HM := Lib.hid HM
        clear hl hq hy0 hy1 HO HG
        go_wp2_with fail
        go_at_call 40
        refine (HM.out _).mono ?_
        rintro e w2 ⟨rfl, b2⟩
        have HP2 := Lib.hid (HP.out.below b2 (Nat.le_refl _))
        have HG2 : Hid (w.grownBy w2 (some g1)) := Lib.hid (grownBy_trans HGP.out (below_grownBy b2 _))
        have hl := length_markedR mkMistake ps k (by omega)
        have d2 := HP2.out.cell2 (by rw [List.length_set]; omega) k (by rw [List.length_set]; omega)
        have f2 := HP2.out.free (by rw [List.length_set]; omega) (k * 3 + 2)
        obtain ⟨y2, hy2⟩ : ∃ x, x = (((markedR mkMistake ps k).set k ((q), (q + 1), ((markedR mkMistake ps k).getD k zMistake).2.2)).getD k zMistake).2.2 := ⟨_, rfl⟩
        rw [← hy2] at d2
        have HS : Hid (OwnMistake (w2.setCell ⟨g1, k * 3 + 2, none⟩ (.string (markOf (3 * k + 3)))) B (.slice (some ⟨g1, 0, none⟩) n c1) (markedR mkMistake ps (k + 1))) := Lib.hid (by
          have h1 := HP2.out.set2 (by rw [List.length_set]; omega) k (by rw [List.length_set]; omega) (markOf (3 * k + 3))
          simp only [List.set_set, getD_set_same (show k < (markedR mkMistake ps k).length by omega)] at h1
          rw [← markedR_succ mkMistake ps k (by omega) ((q), (q + 1), (markOf (3 * k + 3))) (by unfold mkMistake; rw [HQ.out]; congr 1 <;> (try congr 1) <;> (try omega))]
          exact h1)
        have HGS : Hid (w.grownBy (w2.setCell ⟨g1, k * 3 + 2, none⟩ (.string (markOf (3 * k + 3)))) (some g1)) := Lib.hid (grownBy_trans HG2.out (set_grown _ _ _ _))
        clear hl hnn hy2 HP HGP HP2 HG2 b2 HM
        go_wp2
        go_roundw
        case rel => exact ⟨k + 1, by omega, by go_num, int_eq (by have := HQ.out; omega), HS, HGS⟩
        case measure => simp [intOf]; omega
      · have hkn : k = n := by omega
        have HO2 : Hid (OwnMistake wr B (.slice (some ⟨g1, 0, none⟩) n c1) (marksMistake n)) := Lib.hid (by rw [← HE.out, ← hkn]; exact hkn ▸ HO.out)
        clear hl hq
        go_wp2
        go_ret
        exact ⟨ret_int (by rw [HQ.out, hkn]), HO2.out, HG.out⟩
theorem markMistakeS_in (w : World) (lo hi : Nat) (v : Value) (ps : List RMistake) (hz : ps.length ≤ 1048576) (o1 : OwnIMistake w lo hi v ps) :
    Calls Tryd.prog 17 #[v, .int .i64 1] w fun e w' => e = .returned (.int .i64 (3 * ((ps.length : Nat) : Int) + 1)) ∧ OwnIMistake w' lo hi v (marksMistake ps.length) ∧ Betw lo hi w w' :=
  (markMistakeS_any w lo v ps hz o1.1).mono fun _ _ ⟨he, ho, hg⟩ => ⟨he, ⟨ho, o1.2⟩, .of_grown hg fun k hk => ⟨(World.ownsRow.lt o1.1 k hk).1, o1.2 k hk⟩⟩

end Go.Proofs.YtamodlmdlaeoiabDoor
