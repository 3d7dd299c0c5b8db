/- Slices of Signal: what came in, what a call owns; the verifier's sz, to, eq, mark, held. Written by a program of mine (tools/gen_rec.py). -/
import Derived.Test.YtmlamcimncfmcaaRec
import Derived.Test.YtmlamcimncfmcaaOpen
import Derived.Test.YtmlamcimncfmcaaKinds
import Derived.Deep.RegionHeldLaw
namespace Go.Proofs.Ytmlamcimncfmcaa
open Go.ChangeShapes Go.WideShapes Go.ChangeAt Go.RowKit

abbrev RSignal := Int × Bool × Int
def zSignal : RSignal := (0, false, 0)
def cSignal (p : RSignal) : List Value := [.int .i64 p.1, .bool p.2.1, .int .i64 p.2.2]
theorem cSignal_len (p : RSignal) : (cSignal p).length = 3 := rfl
def OwnSignal (w : World) (B : Nat) (v : Value) (ps : List RSignal) : Prop := w.ownsRow B 33 3 v ps.length (ps.flatMap cSignal)
theorem OwnSignal.shape {w : World} {B : Nat} {v : Value} {ps : List RSignal} (h : OwnSignal w B v ps) :
    (v = .slice none 0 0 ∧ ps.length = 0) ∨ ∃ g cap, v = .slice (some ⟨g, 0, none⟩) ps.length cap ∧ B ≤ g ∧ g < w.heap.size ∧ ps.length ≤ cap ∧ cap ≤ 9223372036854775807 := by
  rcases h.2 with ⟨h1, h2⟩ | ⟨g, cap, cur, hv, hg, hh, hn, hcap, _⟩
  · exact .inl ⟨h1, h2⟩
  · exact .inr ⟨g, cap, hv, hg, lt_of_block hh, hn, by unfold maxLen at hcap; omega⟩
theorem OwnSignal.any {w : World} {B : Nat} {v : Value} {ps : List RSignal} (h : OwnSignal w B v ps) : ∃ ao cap, v = .slice ao ps.length cap := by
  rcases h.shape with ⟨h1, h2⟩ | ⟨g, cap, h1, _⟩
  · exact ⟨none, 0, by rw [h1, h2]⟩
  · exact ⟨_, _, h1⟩
theorem OwnSignal.point {w : World} {B : Nat} {v : Value} {ps : List RSignal} (h : OwnSignal w B v ps) (hn : 0 < ps.length) : ∃ g cap, v = .slice (some ⟨g, 0, none⟩) ps.length cap ∧ B ≤ g ∧ g < w.heap.size := by
  rcases h.shape with ⟨_, h2⟩ | ⟨g, cap, h1, h2, h3, _⟩
  · omega
  · exact ⟨g, cap, h1, h2, h3⟩
theorem OwnSignal.cell0 {w : World} {B g cap n : Nat} {ps : List RSignal} (h : OwnSignal w B (.slice (some ⟨g, 0, none⟩) n cap) ps) (hn : n = ps.length) (k : Nat) (hk : k < ps.length) : w.cell? ⟨g, k * 3, none⟩ = some (.int .i64 (ps.getD k zSignal).1) := by
  subst hn
  unfold OwnSignal at h
  have := flat_get cSignal_len zSignal ps k 0 hk (by omega)
  rw [h.cellAt (k * 3) (by have := Nat.mul_le_mul_right 3 (show k + 1 ≤ ps.length from hk); omega)]
  exact this
theorem OwnSignal.set0 {w : World} {B g cap n : Nat} {ps : List RSignal} (h : OwnSignal w B (.slice (some ⟨g, 0, none⟩) n cap) ps) (hn : n = ps.length) (k : Nat) (hk : k < ps.length) (z : Int) : OwnSignal (w.setCell ⟨g, k * 3, none⟩ (.int .i64 z)) B (.slice (some ⟨g, 0, none⟩) n cap) (ps.set k (z, (ps.getD k zSignal).2.1, (ps.getD k zSignal).2.2)) := by
  subst hn
  unfold OwnSignal at h ⊢
  rw [List.length_set, ← flat_set cSignal_len zSignal (.int .i64 z) _ ps k 0 hk (by omega) rfl]
  exact (h.stored (k * 3) _).1
theorem OwnSignal.cell1 {w : World} {B g cap n : Nat} {ps : List RSignal} (h : OwnSignal w B (.slice (some ⟨g, 0, none⟩) n cap) ps) (hn : n = ps.length) (k : Nat) (hk : k < ps.length) : w.cell? ⟨g, k * 3 + 1, none⟩ = some (.bool (ps.getD k zSignal).2.1) := by
  subst hn
  unfold OwnSignal at h
  have := flat_get cSignal_len zSignal ps k 1 hk (by omega)
  rw [h.cellAt (k * 3 + 1) (by have := Nat.mul_le_mul_right 3 (show k + 1 ≤ ps.length from hk); omega)]
  exact this
theorem OwnSignal.set1 {w : World} {B g cap n : Nat} {ps : List RSignal} (h : OwnSignal w B (.slice (some ⟨g, 0, none⟩) n cap) ps) (hn : n = ps.length) (k : Nat) (hk : k < ps.length) (z : Bool) : OwnSignal (w.setCell ⟨g, k * 3 + 1, none⟩ (.bool z)) B (.slice (some ⟨g, 0, none⟩) n cap) (ps.set k ((ps.getD k zSignal).1, z, (ps.getD k zSignal).2.2)) := by
  subst hn
  unfold OwnSignal at h ⊢
  rw [List.length_set, ← flat_set cSignal_len zSignal (.bool z) _ ps k 1 hk (by omega) rfl]
  exact (h.stored (k * 3 + 1) _).1
theorem OwnSignal.cell2 {w : World} {B g cap n : Nat} {ps : List RSignal} (h : OwnSignal w B (.slice (some ⟨g, 0, none⟩) n cap) ps) (hn : n = ps.length) (k : Nat) (hk : k < ps.length) : w.cell? ⟨g, k * 3 + 2, none⟩ = some (.int .i64 (ps.getD k zSignal).2.2) := by
  subst hn
  unfold OwnSignal at h
  have := flat_get cSignal_len zSignal ps k 2 hk (by omega)
  rw [h.cellAt (k * 3 + 2) (by have := Nat.mul_le_mul_right 3 (show k + 1 ≤ ps.length from hk); omega)]
  exact this
theorem OwnSignal.set2 {w : World} {B g cap n : Nat} {ps : List RSignal} (h : OwnSignal w B (.slice (some ⟨g, 0, none⟩) n cap) ps) (hn : n = ps.length) (k : Nat) (hk : k < ps.length) (z : Int) : OwnSignal (w.setCell ⟨g, k * 3 + 2, none⟩ (.int .i64 z)) B (.slice (some ⟨g, 0, none⟩) n cap) (ps.set k ((ps.getD k zSignal).1, (ps.getD k zSignal).2.1, z)) := by
  subst hn
  unfold OwnSignal at h ⊢
  rw [List.length_set, ← flat_set cSignal_len zSignal (.int .i64 z) _ ps k 2 hk (by omega) rfl]
  exact (h.stored (k * 3 + 2) _).1
theorem OwnSignal.free {w : World} {B g cap n : Nat} {ps : List RSignal} (h : OwnSignal w B (.slice (some ⟨g, 0, none⟩) n cap) ps) (hn : n = ps.length) (j : Nat) : w.frozen? ⟨g, j, none⟩ = false := by
  subst hn
  unfold OwnSignal at h
  exact h.frozenAt j
theorem OwnSignal.below {w w' : World} {B C : Nat} {v : Value} {ps : List RSignal} (h : OwnSignal w B v ps) (hb : Below C w w') (hC : w.heap.size ≤ C) : OwnSignal w' B v ps := by
  unfold OwnSignal at h ⊢
  exact h.kept (row := none) ⟨hb.os, hb.tape, hb.output, hb.size, fun k hk _ => hb.block k (by omega)⟩ (by cases v.ownBlock <;> simp)
theorem OwnSignal.mono {w : World} {B B' : Nat} {v : Value} {ps : List RSignal} (h : OwnSignal w B v ps) (hb : B' ≤ B) : OwnSignal w B' v ps := by
  unfold OwnSignal at h ⊢
  refine ⟨h.1, ?_⟩
  rcases h.2 with h2 | ⟨g, cap, cur, a, b, r⟩
  · exact .inl h2
  · exact .inr ⟨g, cap, cur, a, Nat.le_trans hb b, r⟩
theorem OwnSignal.drewN {w : World} {B : Nat} {v : Value} {ps : List RSignal} (h : OwnSignal w B v ps) (n : Nat) : OwnSignal (w.drewN n) B v ps := h
theorem ownSignal_nil (w : World) (B : Nat) : OwnSignal w B (.slice none 0 0) [] := World.ownsRow_nil _ _ _ _
/-- a slice that came in reads as these -/
def CameSignal (w : World) (a : Option Addr) (len : Nat) (ps : List RSignal) : Prop := ps.length = len ∧ (0 < len → ∃ b off, a = some ⟨b, off, none⟩ ∧ ∀ k, k < len → w.cell? ⟨b, off + k * 3, none⟩ = some (.int .i64 (ps.getD k zSignal).1) ∧ w.cell? ⟨b, off + k * 3 + 1, none⟩ = some (.bool (ps.getD k zSignal).2.1) ∧ w.cell? ⟨b, off + k * 3 + 2, none⟩ = some (.int .i64 (ps.getD k zSignal).2.2))
theorem CameSignal.below {w w' : World} {a : Option Addr} {len : Nat} {ps : List RSignal} (h : CameSignal w a len ps) (hb : Below w.heap.size w w') : CameSignal w' a len ps := by
  refine ⟨h.1, fun hp => ?_⟩
  obtain ⟨b, off, ha, hc⟩ := h.2 hp
  refine ⟨b, off, ha, fun k hk => ?_⟩
  obtain ⟨h0, h1, h2⟩ := hc k hk
  exact ⟨(hb.cell (World.block_lt_of_cell? w _ h0)).trans h0, (hb.cell (World.block_lt_of_cell? w _ h1)).trans h1, (hb.cell (World.block_lt_of_cell? w _ h2)).trans h2⟩
theorem OwnSignal.cameC {w : World} {B : Nat} {v : Value} {ps : List RSignal} (h : OwnSignal w B v ps) : ∃ ao cap, v = .slice ao ps.length cap ∧ CameSignal w ao ps.length ps ∧ ps.length ≤ cap ∧ cap ≤ 9223372036854775807 := by
  rcases h.shape with ⟨h1, h2⟩ | ⟨g, cap, h1, _, _, h4, h5⟩
  · exact ⟨none, 0, by rw [h1, h2], ⟨rfl, fun hp => absurd hp (by omega)⟩, by omega, by omega⟩
  · subst h1
    exact ⟨_, cap, rfl, ⟨rfl, fun _ => ⟨g, 0, rfl, fun k hk => by simp only [Nat.zero_add]; exact ⟨h.cell0 rfl k hk, h.cell1 rfl k hk, h.cell2 rfl k hk⟩⟩⟩, h4, h5⟩
theorem openSignal {H : Type} {enc : TypeId × Value → H} {w : World} {base : Nat} {spare : Nat → Bool} {held : Bool} {t e : TypeId} {f0 f1 f2 : Field} {fuel : Nat} {cs : List Value} {x : DataW H × List MemPlace} (ht : Try.prog.underlying t = some (.slice e)) (he : Try.prog.underlying e = some (.struct #[f0, f1, f2])) (hC : Try.prog.cellsOf e = 3)
    (q0 : f0.offset = 0 ∧ Try.prog.cellsOf f0.type = 1 ∧ Try.prog.underlying f0.type = some (.int .i64)) (q1 : f1.offset = 1 ∧ Try.prog.cellsOf f1.type = 1 ∧ Try.prog.underlying f1.type = some (.bool)) (q2 : f2.offset = 2 ∧ Try.prog.cellsOf f2.type = 1 ∧ Try.prog.underlying f2.type = some (.int .i64)) (h : DataW.trod enc Try.prog w base spare held fuel t cs = some x) :
    cs = [.slice none 0 0] ∨ ∃ (a : Option Addr) (len cap : Nat) (ps : List RSignal), cs = [.slice a len cap] ∧ CameSignal w a len ps ∧ len ≤ cap ∧ cap ≤ maxLen := by
  rcases open_row 3 (by omega) ht he hC h with h0 | ⟨a, len, cap, hcs, hl, hm, hr⟩
  · exact .inl h0
  · rcases Nat.eq_zero_or_pos len with h0 | h0
    · subst h0
      exact .inr ⟨a, 0, cap, [], hcs, ⟨rfl, fun hp => absurd hp (by omega)⟩, hl, hm⟩
    · obtain ⟨b, off, rfl, hrow⟩ := hr h0
      have hex : ∀ i, ∃ p : RSignal, i < len → w.cell? ⟨b, off + i * 3, none⟩ = some (.int .i64 p.1) ∧ w.cell? ⟨b, off + i * 3 + 1, none⟩ = some (.bool p.2.1) ∧ w.cell? ⟨b, off + i * 3 + 2, none⟩ = some (.int .i64 p.2.2) := fun i => by
        by_cases hi : i < len
        · obtain ⟨c, n, xs, hcl, hat, hxl, hf⟩ := hrow i hi
          have t0 := hf 0 f0 rfl
          rw [q0.1, q0.2.1, one_drop (by omega), List.getElem?_eq_getElem (by rw [hxl]; simp)] at t0
          obtain ⟨x0, g0, _, _⟩ := DataW.trod_int q0.2.2 t0
          have c0 := hat 0 (by omega)
          rw [List.getElem?_eq_getElem (by omega)] at c0
          injection g0 with g0
          rw [g0] at c0
          have t1 := hf 1 f1 rfl
          rw [q1.1, q1.2.1, one_drop (by omega), List.getElem?_eq_getElem (by rw [hxl]; simp)] at t1
          obtain ⟨x1, g1, _⟩ := DataW.trod_bool q1.2.2 t1
          have c1 := hat 1 (by omega)
          rw [List.getElem?_eq_getElem (by omega)] at c1
          injection g1 with g1
          rw [g1] at c1
          have t2 := hf 2 f2 rfl
          rw [q2.1, q2.2.1, one_drop (by omega), List.getElem?_eq_getElem (by rw [hxl]; simp)] at t2
          obtain ⟨x2, g2, _, _⟩ := DataW.trod_int q2.2.2 t2
          have c2 := hat 2 (by omega)
          rw [List.getElem?_eq_getElem (by omega)] at c2
          injection g2 with g2
          rw [g2] at c2
          exact ⟨(x0, x1, x2), fun _ => ⟨c0, c1, c2⟩⟩
        · exact ⟨zSignal, fun h => absurd h hi⟩
      refine .inr ⟨_, len, cap, (List.range len).map (fun i => Classical.choose (hex i)), hcs, ⟨by simp, fun _ => ⟨b, off, rfl, fun k hk => ?_⟩⟩, hl, hm⟩
      rw [getD_range _ len k hk]
      exact Classical.choose_spec (hex k) hk
def OwnISignal (w : World) (lo hi : Nat) (v : Value) (ps : List RSignal) : Prop := OwnSignal w lo v ps ∧ ∀ k, v.ownBlock = some k → k < hi
theorem OwnISignal.of {w : World} {lo : Nat} {v : Value} {ps : List RSignal} (h : OwnSignal w lo v ps) : OwnISignal w lo w.heap.size v ps := ⟨h, fun k hk => (World.ownsRow.lt h k hk).2⟩
theorem OwnISignal.below {w w' : World} {C lo hi : Nat} {v : Value} {ps : List RSignal} (h : OwnISignal w lo hi v ps) (hb : Below C w w') (hC : hi ≤ C) : OwnISignal w' lo hi v ps :=
  ⟨rec_same h.1 fun k e => hb.block k (Nat.lt_of_lt_of_le (h.2 k e) hC), h.2⟩
theorem OwnISignal.betw {w w' : World} {l h lo hi : Nat} {v : Value} {ps : List RSignal} (ho : OwnISignal w lo hi v ps) (hb : Betw l h w w') (hd : h ≤ lo ∨ hi ≤ l) (_hs : hi ≤ w.heap.size) : OwnISignal w' lo hi v ps :=
  ⟨rec_same ho.1 fun k e => hb.block k (World.ownsRow.lt ho.1 k e).2 (by have := (World.ownsRow.lt ho.1 k e).1; have := ho.2 k e; omega), ho.2⟩
theorem Try.info_Signal : (Try.prog.info? 33).map (fun i => (i.zero, i.size, i.bytes)) = some (some (.agg (cSignal zSignal).toArray), 3, 24) := by kernel_rfl

theorem OwnSignal.put {w : World} {B g cap n : Nat} {ps : List RSignal} (h : OwnSignal w B (.slice (some ⟨g, 0, none⟩) n cap) ps) (hn : n = ps.length) (k : Nat) (hk : k < ps.length) (x0 : Int) (x1 : Bool) (x2 : Int) : OwnSignal (((w.setCell ⟨g, k * 3, none⟩ (.int .i64 x0)).setCell ⟨g, k * 3 + 1, none⟩ (.bool x1)).setCell ⟨g, k * 3 + 2, none⟩ (.int .i64 x2)) B (.slice (some ⟨g, 0, none⟩) n cap) (ps.set k (x0, x1, x2)) := by
  have h0 := h.set0 hn k hk x0
  have h1 := h0.set1 (by simpa using hn) k (by simpa using hk) x1
  have h2 := h1.set2 (by simpa using hn) k (by simpa using hk) x2
  simp only [List.set_set, getD_set_same hk] at h2
  exact h2
theorem grownSignal_put (w : World) (g k : Nat) (x0 : Int) (x1 : Bool) (x2 : Int) : w.grownBy (((w.setCell ⟨g, k * 3, none⟩ (.int .i64 x0)).setCell ⟨g, k * 3 + 1, none⟩ (.bool x1)).setCell ⟨g, k * 3 + 2, none⟩ (.int .i64 x2)) (some g) :=
  grownBy_trans (grownBy_trans (set_grown _ _ _ _) (set_grown _ _ _ _)) (set_grown _ _ _ _)
theorem madeSignal {w w1 : World} {B n : Nat} {ps : List RSignal} (hn : n = ps.length) (h : w1.ownsRow B 33 3 (.slice (some ⟨w.heap.size, 0, none⟩) n n) n (madeCells (cSignal zSignal).toArray (n * 3)).toList) :
    OwnSignal w1 B (.slice (some ⟨w.heap.size, 0, none⟩) n n) (copyR zSignal ps 0) := by
  unfold OwnSignal
  rw [copyR_zero, ← hn, List.length_replicate]
  rw [made_flat cSignal_len zSignal n (by omega)] at h
  exact h
/-- the marks -/
def mkSignal (i : Nat) : RSignal := ((3 * (i : Int) + 1), decide ((3 * (i : Int) + 2) % 3 = 0), (3 * (i : Int) + 3))
def marksSignal (n : Nat) : List RSignal := (List.range n).map mkSignal
@[simp] theorem length_marksSignal (n : Nat) : (marksSignal n).length = n := by simp [marksSignal]

set_option maxHeartbeats 1000000 in
theorem toSignal_any (x0 : Int) (x1 : Bool) (x2 : Int) (w : World) :
    Calls Try.prog 19 #[.agg #[.int .i64 x0, .bool x1, .int .i64 x2]] w fun e w' => e = .returned (.agg #[.int .i64 x0, .bool x1, .int .i64 x2]) ∧ Below w.heap.size w w' := by
  go_enter Try.func19, Try.ntmps19
  go_wp2
  refine bodyPost_ret (v := .agg #[.int .i64 x0, .bool x1, .int .i64 x2]) (by simp [results, Try.results19, go_sem]) rfl ⟨rfl, ?_⟩
  exact ((((Below.refl _ _).alloc (Nat.le_refl _) _).alloc (by simp) _).alloc (by simp; omega) _)

set_option maxHeartbeats 2000000 in
theorem toSignalS_any (w : World) (a : Option Addr) (len cap : Nat) (ps : List RSignal) (hl : len ≤ 1048576) (hc : CameSignal w a len ps) :
    Calls Try.prog 15 #[.slice a len cap] w fun e w' => ∃ v, e = .returned v ∧ OwnSignal w' w.heap.size v ps ∧ Below w.heap.size w w' := by
  obtain ⟨i0, hi, hz0, hz1, hz2⟩ := info_parts Try.info_Signal
  have hzl := hc.1
  have HC := Lib.hid hc
  have HZL : Hid (len = ps.length) := Lib.hid hzl.symm
  clear hc hzl
  go_enter Try.func15, Try.ntmps15
  go_wp2_with (at_make; refine wpList_make_full _ rfl _ _ 25 rfl w.heap.size 33 i0 (.agg (cSignal zSignal).toArray) 3 Try.underlying25 hi hz0 hz1 .i64 .i64 _ _ len rfl rfl rfl rfl (by rw [hz2]; omega) (by unfold maxLen; omega) (Nat.le_refl _) ?_; intro w1 hown hgrow)
  have HO0 := Lib.hid (madeSignal HZL.out hown)
  have HB0 := Lib.hid (below_made hgrow)
  clear hown hgrow hi hz0 hz1 hz2
  go_loopw [4] (fun i wr => ∃ k : Nat, k ≤ len ∧ i = .int .i64 k ∧ Hid (OwnSignal wr w.heap.size (.slice (some ⟨w.heap.size, 0, none⟩) len len) (copyR zSignal ps k)) ∧ Hid (Below w.heap.size w wr)) (fun i _ => len - (intOf i).toNat)
  case atStart => exact ⟨0, Nat.zero_le _, rfl, HO0, HB0⟩
  case round =>
    obtain ⟨k, hk, rfl, HO, HB⟩ := hrel
    by_cases hlt : k < len
    · obtain ⟨b, off, rfl, hcell⟩ := (HC.out.below HB.out).2 (by omega)
      obtain ⟨e0, e1, e2⟩ := hcell k hlt
      have HS := Lib.hid (copyR_succ zSignal ps k (by have := HZL.out; omega) ((ps.getD k zSignal).1, (ps.getD k zSignal).2.1, (ps.getD k zSignal).2.2) rfl)
      obtain ⟨x0, hx0⟩ : ∃ x, x = (ps.getD k zSignal).1 := ⟨_, rfl⟩
      rw [← hx0] at e0 HS
      obtain ⟨x1, hx1⟩ : ∃ x, x = (ps.getD k zSignal).2.1 := ⟨_, rfl⟩
      rw [← hx1] at e1 HS
      obtain ⟨x2, hx2⟩ : ∃ x, x = (ps.getD k zSignal).2.2 := ⟨_, rfl⟩
      rw [← hx2] at e2 HS
      have HT := Lib.hid (fun w2 => toSignal_any x0 x1 x2 w2)
      have i1 : (0 : Int) ≤ (k : Int) := by omega
      have i2 : (k : Int) < (len : Int) := by omega
      clear hcell hx0 hx1 hx2
      go_wp2_with fail
      go_at_call 19
      refine (HT.out _).mono ?_
      rintro e w2 ⟨rfl, b2⟩
      have HO2 := Lib.hid (HO.out.below b2 (Nat.le_refl _))
      have HB2 : Hid (Below w.heap.size w w2) := Lib.hid (HB.out.trans (b2.mono HB.out.size))
      have hcl := length_copyR zSignal ps k (by have := HZL.out; omega)
      have hzl := HZL.out
      have c0 := HO2.out.cell0 (by omega) k (by omega)
      have f0 := HO2.out.free (by omega) (k * 3)
      obtain ⟨y0, hy0⟩ : ∃ x, x = ((copyR zSignal ps k).getD k zSignal).1 := ⟨_, rfl⟩
      rw [← hy0] at c0
      have c1 := HO2.out.cell1 (by omega) k (by omega)
      have f1 := HO2.out.free (by omega) (k * 3 + 1)
      obtain ⟨y1, hy1⟩ : ∃ x, x = ((copyR zSignal ps k).getD k zSignal).2.1 := ⟨_, rfl⟩
      rw [← hy1] at c1
      have c2 := HO2.out.cell2 (by omega) k (by omega)
      have f2 := HO2.out.free (by omega) (k * 3 + 2)
      obtain ⟨y2, hy2⟩ : ∃ x, x = ((copyR zSignal ps k).getD k zSignal).2.2 := ⟨_, rfl⟩
      rw [← hy2] at c2
      have HO3 : Hid (OwnSignal (((w2.setCell ⟨w.heap.size, k * 3, none⟩ (.int .i64 x0)).setCell ⟨w.heap.size, k * 3 + 1, none⟩ (.bool x1)).setCell ⟨w.heap.size, k * 3 + 2, none⟩ (.int .i64 x2)) w.heap.size (.slice (some ⟨w.heap.size, 0, none⟩) len len) (copyR zSignal ps (k + 1))) := Lib.hid (by rw [← HS.out]; exact HO2.out.put (by omega) k (by omega) x0 x1 x2)
      have HB3 : Hid (Below w.heap.size w (((w2.setCell ⟨w.heap.size, k * 3, none⟩ (.int .i64 x0)).setCell ⟨w.heap.size, k * 3 + 1, none⟩ (.bool x1)).setCell ⟨w.heap.size, k * 3 + 2, none⟩ (.int .i64 x2))) := Lib.hid (grownBy_below HB2.out (grownSignal_put w2 w.heap.size k x0 x1 x2) (Nat.le_refl _) (Nat.le_refl _))
      clear b2 hcl hzl hy0 hy1 hy2
      go_wp2
      go_roundw
      case rel => exact ⟨k + 1, by omega, by go_num, HO3, HB3⟩
      case measure => simp [intOf]; omega
    · have HE : Hid (copyR zSignal ps k = ps) := Lib.hid (by have := HZL.out; rw [show k = ps.length by omega]; exact copyR_all _ _)
      go_wp2
      go_ret
      exact ⟨_, rfl, by rw [← HE.out]; exact HO.out, HB.out⟩

set_option maxHeartbeats 400000 in
theorem szSignalS_any (w : World) (a : Option Addr) (len cap : Nat) (hlen : len ≤ 9223372036854775807) :
    Calls Try.prog 13 #[.slice a len cap, .int .i64 1048576] w fun e w' => ∃ r : Int, e = .returned (.int .i64 r) ∧ -1 ≤ r ∧ r ≤ 1048576 ∧ (0 ≤ r → len ≤ 1048576) ∧ Below w.heap.size w w' := by
  by_cases h : len ≤ 1048576
  · go_enter Try.func13, Try.ntmps13
    go_wp2
    go_ret
    exact ⟨_, rfl, by omega, by omega, fun _ => h, Below.refl _ _⟩
  · go_enter Try.func13, Try.ntmps13
    go_wp2
    go_ret
    exact ⟨_, rfl, by omega, by omega, fun h2 => absurd h2 (by omega), Below.refl _ _⟩

set_option maxHeartbeats 1000000 in
theorem eqSignal_any (x0 : Int) (x1 : Bool) (x2 : Int) (w : World) :
    Calls Try.prog 43 #[.agg #[.int .i64 x0, .bool x1, .int .i64 x2], .agg #[.int .i64 x0, .bool x1, .int .i64 x2]] w fun e w' => e = .returned (.bool true) ∧ Below w.heap.size w w' := by
  go_enter Try.func43, Try.ntmps43
  go_wp2
  go_ret
  exact ⟨rfl, ((Below.refl _ _).alloc (Nat.le_refl _) _).alloc (by simp) _⟩

set_option maxHeartbeats 2000000 in
theorem eqSignalS_same (w : World) (B1 B2 : Nat) (v1 v2 : Value) (ps : List RSignal) (hz : ps.length ≤ 4611686018427387904) (o1 : OwnSignal w B1 v1 ps) (o2 : OwnSignal w B2 v2 ps) :
    Calls Try.prog 17 #[v1, v2] w fun e w' => e = .returned (.bool true) ∧ Below w.heap.size w w' := by
  obtain ⟨n, hn⟩ : ∃ n, n = ps.length := ⟨_, rfl⟩
  have HN := Lib.hid hn
  rcases Nat.eq_zero_or_pos ps.length with h0 | h0
  · obtain ⟨a1, c1, rfl⟩ := o1.any
    obtain ⟨a2, c2, rfl⟩ := o2.any
    rw [h0]
    clear o1 o2 hn h0 hz
    go_enter Try.func17, Try.ntmps17
    go_wp2
    go_loop [5] (fun i => i = .int .i64 0) (fun _ => 0)
    case atStart => exact rfl
    case round =>
      obtain rfl := hrel
      go_wp2
      go_ret
      exact ⟨rfl, Below.refl _ _⟩
  · obtain ⟨g1, c1, rfl, _, l1⟩ := o1.point h0
    obtain ⟨g2, c2, rfl, _, l2⟩ := o2.point h0
    rw [← hn] at o1 o2 hz ⊢
    have H1 := Lib.hid o1
    have H2 := Lib.hid o2
    clear hn h0 o1 o2
    go_enter Try.func17, Try.ntmps17
    go_wp2
    go_loopw [5] (fun i wr => ∃ k : Nat, k ≤ n ∧ i = .int .i64 k ∧ Hid (Below w.heap.size w wr)) (fun i _ => n - (intOf i).toNat)
    case atStart => exact ⟨0, Nat.zero_le _, rfl, Below.refl _ _⟩
    case round =>
      obtain ⟨k, hk, rfl, HB⟩ := hrel
      by_cases hlt : k < n
      · have ho1 := H1.out.below HB.out (Nat.le_refl _)
        have ho2 := H2.out.below HB.out (Nat.le_refl _)
        have e0 := ho1.cell0 HN.out k (by have := HN.out; omega)
        have d0 := ho2.cell0 HN.out k (by have := HN.out; omega)
        obtain ⟨x0, hx0⟩ : ∃ x, x = (ps.getD k zSignal).1 := ⟨_, rfl⟩
        rw [← hx0] at e0 d0
        have e1 := ho1.cell1 HN.out k (by have := HN.out; omega)
        have d1 := ho2.cell1 HN.out k (by have := HN.out; omega)
        obtain ⟨x1, hx1⟩ : ∃ x, x = (ps.getD k zSignal).2.1 := ⟨_, rfl⟩
        rw [← hx1] at e1 d1
        have e2 := ho1.cell2 HN.out k (by have := HN.out; omega)
        have d2 := ho2.cell2 HN.out k (by have := HN.out; omega)
        obtain ⟨x2, hx2⟩ : ∃ x, x = (ps.getD k zSignal).2.2 := ⟨_, rfl⟩
        rw [← hx2] at e2 d2
        have HK : Hid (∀ w' : World, Below wr.heap.size wr w' → w'.cell? ⟨g1, k * 3, none⟩ = some (.int .i64 x0) ∧ w'.cell? ⟨g1, k * 3 + 1, none⟩ = some (.bool x1) ∧ w'.cell? ⟨g1, k * 3 + 2, none⟩ = some (.int .i64 x2) ∧ w'.cell? ⟨g2, k * 3, none⟩ = some (.int .i64 x0) ∧ w'.cell? ⟨g2, k * 3 + 1, none⟩ = some (.bool x1) ∧ w'.cell? ⟨g2, k * 3 + 2, none⟩ = some (.int .i64 x2)) := Lib.hid (fun w5 h5 => ⟨(h5.cell (World.block_lt_of_cell? wr _ e0)).trans e0, (h5.cell (World.block_lt_of_cell? wr _ e1)).trans e1, (h5.cell (World.block_lt_of_cell? wr _ e2)).trans e2, (h5.cell (World.block_lt_of_cell? wr _ d0)).trans d0, (h5.cell (World.block_lt_of_cell? wr _ d1)).trans d1, (h5.cell (World.block_lt_of_cell? wr _ d2)).trans d2⟩)
        have HT := Lib.hid (fun w2 => eqSignal_any x0 x1 x2 w2)
        have i1 : (0 : Int) ≤ (k : Int) := by omega
        have i2 : (k : Int) < (n : Int) := by omega
        clear ho1 ho2 hx0 hx1 hx2
        go_wp2_with fail
        go_region_held_law (fun w' : World => w'.cell? ⟨g1, k * 3, none⟩ = some (.int .i64 x0) ∧ w'.cell? ⟨g1, k * 3 + 1, none⟩ = some (.bool x1) ∧ w'.cell? ⟨g1, k * 3 + 2, none⟩ = some (.int .i64 x2) ∧ w'.cell? ⟨g2, k * 3, none⟩ = some (.int .i64 x0) ∧ w'.cell? ⟨g2, k * 3 + 1, none⟩ = some (.bool x1) ∧ w'.cell? ⟨g2, k * 3 + 2, none⟩ = some (.int .i64 x2)) (first | go_keep | exact HK.out _ ⟨b2.os, b2.tape, b2.output, b2.size, b2.block⟩)
          ((go_at_call 43; refine (HT.out _).mono ?_; rintro e w2 ⟨rfl, b2⟩))
        have HB2 : Hid (Below w.heap.size w w2) := Lib.hid (HB.out.trans (Below.mono ⟨b2.os, b2.tape, b2.output, b2.size, b2.block⟩ HB.out.size))
        clear b2
        go_wp2
        go_roundw
        case rel => exact ⟨k + 1, by omega, by go_num, HB2⟩
        case measure => simp [intOf]; omega
      · go_wp2
        go_ret
        exact ⟨rfl, HB.out⟩
theorem eqSignalS_two (w : World) (lo hi lo' hi' : Nat) (v1 v2 : Value) (ps : List RSignal) (hz : ps.length ≤ 4611686018427387904) (o1 : OwnISignal w lo hi v1 ps) (o2 : OwnISignal w lo' hi' v2 ps) :
    Calls Try.prog 17 #[v1, v2] w fun e w' => e = .returned (.bool true) ∧ Below w.heap.size w w' := eqSignalS_same w lo lo' v1 v2 ps hz o1.1 o2.1

set_option maxHeartbeats 2000000 in
theorem markSignalS_any (w : World) (B : Nat) (v : Value) (ps : List RSignal) (hz : ps.length ≤ 1048576) (o1 : OwnSignal w B v ps) :
    Calls Try.prog 34 #[v, .int .i64 1] w fun e w' => e = .returned (.int .i64 (3 * ((ps.length : Nat) : Int) + 1)) ∧ OwnSignal w' B v (marksSignal ps.length) ∧ w.grownBy w' v.ownBlock := by
  obtain ⟨n, hn⟩ : ∃ n, n = ps.length := ⟨_, rfl⟩
  have HN := Lib.hid hn
  rcases Nat.eq_zero_or_pos ps.length with h0 | h0
  · have hnil : ps = [] := List.eq_nil_of_length_eq_zero h0
    subst hnil
    obtain ⟨a1, c1, rfl⟩ := o1.any
    have H1 := Lib.hid o1
    clear o1 hn h0 hz HN
    go_enter Try.func34, Try.ntmps34
    go_wp2
    go_loop [1, 5] (fun q i => q = .int .i64 1 ∧ i = .int .i64 0) (fun _ _ => 0)
    case atStart => exact ⟨rfl, rfl⟩
    case round =>
      obtain ⟨rfl, rfl⟩ := hrel
      go_wp2
      go_ret
      exact ⟨ret_int (by simp), H1.out, World.grownBy.refl _ _⟩
  · obtain ⟨g1, c1, rfl, _, l1⟩ := o1.point h0
    rw [← hn] at hz
    have HE : Hid (markedR mkSignal ps n = marksSignal n) := Lib.hid (by rw [hn]; exact markedR_all mkSignal ps)
    have H0 : Hid (OwnSignal w B (.slice (some ⟨g1, 0, none⟩) n c1) (markedR mkSignal ps 0)) := Lib.hid (by rw [markedR_zero, hn]; exact o1)
    rw [← hn]
    clear hn h0 o1
    go_enter Try.func34, Try.ntmps34
    go_wp2
    go_loopw [1, 5] (fun q i wr => ∃ k : Nat, k ≤ n ∧ i = .int .i64 k ∧ q = .int .i64 (3 * (k : Int) + 1) ∧ Hid (OwnSignal wr B (.slice (some ⟨g1, 0, none⟩) n c1) (markedR mkSignal ps k)) ∧ Hid (w.grownBy wr (some g1))) (fun _ i _ => n - (intOf i).toNat)
    case atStart => exact ⟨0, Nat.zero_le _, rfl, by simp, H0, Lib.hid (World.grownBy.refl _ _)⟩
    case round =>
      obtain ⟨k, hk, rfl, rfl, HO, HG⟩ := hrel
      have hl := length_markedR mkSignal ps k (by have := HN.out; omega)
      obtain ⟨q, hq⟩ : ∃ q : Int, q = 3 * (k : Int) + 1 := ⟨_, rfl⟩
      rw [← hq]
      have hq0 : 1 ≤ q := by omega
      have hq1 : q ≤ 100000000 := by omega
      have HQ := Lib.hid hq
      by_cases hlt : k < n
      · have hnn := HN.out
        have i1 : (0 : Int) ≤ (k : Int) := by omega
        have i2 : (k : Int) < (n : Int) := by omega
        have ec0 := HO.out.cell0 (by omega) k (by omega)
        have f0 := HO.out.free (by omega) (k * 3)
        obtain ⟨y0, hy0⟩ : ∃ x, x = ((markedR mkSignal ps k).getD k zSignal).1 := ⟨_, rfl⟩
        rw [← hy0] at ec0
        have ec1 := HO.out.cell1 (by omega) k (by omega)
        have f1 := HO.out.free (by omega) (k * 3 + 1)
        obtain ⟨y1, hy1⟩ : ∃ x, x = ((markedR mkSignal ps k).getD k zSignal).2.1 := ⟨_, rfl⟩
        rw [← hy1] at ec1
        have ec2 := HO.out.cell2 (by omega) k (by omega)
        have f2 := HO.out.free (by omega) (k * 3 + 2)
        obtain ⟨y2, hy2⟩ : ∃ x, x = ((markedR mkSignal ps k).getD k zSignal).2.2 := ⟨_, rfl⟩
        rw [← hy2] at ec2
        have HS : Hid (OwnSignal (((wr.setCell ⟨g1, k * 3, none⟩ (.int .i64 (q))).setCell ⟨g1, k * 3 + 1, none⟩ (.bool (decide ((q + 1) % 3 = 0)))).setCell ⟨g1, k * 3 + 2, none⟩ (.int .i64 (q + 1 + 1))) B (.slice (some ⟨g1, 0, none⟩) n c1) (markedR mkSignal ps (k + 1))) := Lib.hid (by
          rw [← markedR_succ mkSignal ps k (by omega) ((q), (decide ((q + 1) % 3 = 0)), (q + 1 + 1)) (by unfold mkSignal; rw [hq]; congr 1 <;> (try congr 1) <;> (try congr 1) <;> (try omega))]
          exact HO.out.put (by omega) k (by omega) (q) (decide ((q + 1) % 3 = 0)) (q + 1 + 1))
        have HGS : Hid (w.grownBy (((wr.setCell ⟨g1, k * 3, none⟩ (.int .i64 (q))).setCell ⟨g1, k * 3 + 1, none⟩ (.bool (decide ((q + 1) % 3 = 0)))).setCell ⟨g1, k * 3 + 2, none⟩ (.int .i64 (q + 1 + 1))) (some g1)) := Lib.hid (grownBy_trans HG.out (grownSignal_put wr g1 k (q) (decide ((q + 1) % 3 = 0)) (q + 1 + 1)))
        clear hl hnn hq hy0 hy1 hy2 HO HG
        go_wp2
        go_roundw
        case rel => exact ⟨k + 1, by omega, by go_num, int_eq (by have := HQ.out; omega), HS, HGS⟩
        case measure => simp [intOf]; omega
      · have hkn : k = n := by omega
        have HO2 : Hid (OwnSignal wr B (.slice (some ⟨g1, 0, none⟩) n c1) (marksSignal n)) := Lib.hid (by rw [← HE.out, ← hkn]; exact hkn ▸ HO.out)
        clear hl hq
        go_wp2
        go_ret
        exact ⟨ret_int (by rw [HQ.out, hkn]), HO2.out, HG.out⟩
theorem markSignalS_in (w : World) (lo hi : Nat) (v : Value) (ps : List RSignal) (hz : ps.length ≤ 1048576) (o1 : OwnISignal w lo hi v ps) :
    Calls Try.prog 34 #[v, .int .i64 1] w fun e w' => e = .returned (.int .i64 (3 * ((ps.length : Nat) : Int) + 1)) ∧ OwnISignal w' lo hi v (marksSignal ps.length) ∧ Betw lo hi w w' :=
  (markSignalS_any w lo v ps hz o1.1).mono fun _ _ ⟨he, ho, hg⟩ => ⟨he, ⟨ho, o1.2⟩, .of_grown hg fun k hk => ⟨(World.ownsRow.lt o1.1 k hk).1, o1.2 k hk⟩⟩


end Go.Proofs.Ytmlamcimncfmcaa
