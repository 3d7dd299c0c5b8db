/- Slices of slices of ints that came in: what they read as; what a call owns read as what came in; the verifier's sz, to. -/
import Derived.Test.YtjdbmkphakpmbaaOwnSS
import Derived.Test.YtjdbmkphakpmbaaRec
import Derived.Test.YtjdbmkphakpmbaaAgg
import Derived.Deep.Matrix
namespace Go.Proofs.Ytjdbmkphakpmbaa
open Go.ChangeShapes Go.WideShapes Go.ChangeAt Go.RowKit

/-- a slice of slices that came in reads as these rows -/
def CameSS (w : World) (a : Option Addr) (len : Nat) (zss : List (List Int)) : Prop :=
  zss.length = len ∧ ∃ (A : Nat → Option Addr) (C : Nat → Nat), (∀ i, i < len → Came w (A i) (zss.getD i []).length (zss.getD i []) ∧ (zss.getD i []).length ≤ C i ∧ C i ≤ 9223372036854775807) ∧
    (0 < len → ∃ b off, a = some ⟨b, off, none⟩ ∧ ∀ j, j < len → w.cell? ⟨b, off + j, none⟩ = some (.slice (A j) (zss.getD j []).length (C j)))
theorem CameSS.below {w w' : World} {a : Option Addr} {len : Nat} {zss : List (List Int)} (h : CameSS w a len zss) (hb : Below w.heap.size w w') : CameSS w' a len zss := by
  obtain ⟨h1, A, C, h2, h3⟩ := h
  refine ⟨h1, A, C, fun i hi => ⟨(h2 i hi).1.below hb, (h2 i hi).2⟩, fun hp => ?_⟩
  obtain ⟨b, off, ha, hc⟩ := h3 hp
  exact ⟨b, off, ha, fun j hj => (hb.cell (World.block_lt_of_cell? w _ (hc j hj))).trans (hc j hj)⟩
theorem CameSS.at {w : World} {a : Option Addr} {len : Nat} {zss : List (List Int)} (h : CameSS w a len zss) (k : Nat) (hk : k < len) :
    ∃ b off ak ck, a = some ⟨b, off, none⟩ ∧ w.cell? ⟨b, off + k, none⟩ = some (.slice ak (zss.getD k []).length ck) ∧ Came w ak (zss.getD k []).length (zss.getD k []) ∧ (zss.getD k []).length ≤ ck ∧ ck ≤ 9223372036854775807 := by
  obtain ⟨_, A, C, h2, h3⟩ := h
  obtain ⟨b, off, ha, hc⟩ := h3 (by omega)
  exact ⟨b, off, A k, C k, ha, hc k hk, (h2 k hk).1, (h2 k hk).2.1, (h2 k hk).2.2⟩
theorem cameSS_nil (w : World) (a : Option Addr) : CameSS w a 0 [] := ⟨rfl, fun _ => none, fun _ => 0, fun i hi => absurd hi (by omega), fun h => absurd h (by omega)⟩
theorem OwnJ.cameC {w : World} {lo hi : Nat} {v : Value} {zss : List (List Int)} (h : OwnJ w lo hi v zss) : ∃ ao cap, v = .slice ao zss.length cap ∧ CameSS w ao zss.length zss ∧ zss.length ≤ cap ∧ cap ≤ 9223372036854775807 := by
  obtain ⟨vs, S⟩ := h
  have hlen := S.len
  rcases S.own.2 with ⟨e, h0⟩ | ⟨g, cap, cur, e, _, hg, hn, hcap, _⟩
  · have hz : zss = [] := List.eq_nil_of_length_eq_zero (by omega)
    subst hz
    exact ⟨none, 0, by rw [e]; rfl, cameSS_nil _ _, by simp, by omega⟩
  · have hex : ∀ i, ∃ (x : Option Addr × Nat), i < vs.length → vs.getD i undef = .slice x.1 (zss.getD i []).length x.2 ∧ Came w x.1 (zss.getD i []).length (zss.getD i []) ∧ (zss.getD i []).length ≤ x.2 ∧ x.2 ≤ 9223372036854775807 := fun i => by
      by_cases hi : i < vs.length
      · obtain ⟨ao, c, h1, h2, h3, h4⟩ := (S.row i hi).1.cameC
        exact ⟨(ao, c), fun _ => ⟨h1, h2, h3, h4⟩⟩
      · exact ⟨(none, 0), fun h => absurd h hi⟩
    refine ⟨some ⟨g, 0, none⟩, cap, by rw [e, hlen], ⟨rfl, fun i => (Classical.choose (hex i)).1, fun i => (Classical.choose (hex i)).2, fun i hi => ?_, fun hp => ⟨g, 0, rfl, fun j hj => ?_⟩⟩, by omega, by unfold maxLen at hcap; omega⟩
    · exact ((Classical.choose_spec (hex i)) (by omega)).2
    · rw [Nat.zero_add]
      have hj' : j < vs.length := by omega
      rw [← ((Classical.choose_spec (hex j)) hj').1]
      subst e
      have S' := S
      rw [hlen] at hn
      exact SS.cell (g := g) (cap := cap) (n := vs.length) S' j hj
theorem OwnSS.cameC {w : World} {B : Nat} {v : Value} {zss : List (List Int)} (h : OwnSS w B v zss) : ∃ ao cap, v = .slice ao zss.length cap ∧ CameSS w ao zss.length zss ∧ zss.length ≤ cap ∧ cap ≤ 9223372036854775807 := OwnJ.cameC h
def FitsSS (zss : List (List Int)) : Prop := zss.length ≤ 1048576 ∧ total zss ≤ 1048576
/-- not too many rows: their own lengths may be any -/
def LenSS (zss : List (List Int)) : Prop := zss.length ≤ 1048576 ∧ True
theorem FitsSS.len {zss : List (List Int)} (h : FitsSS zss) : LenSS zss := ⟨h.1, trivial⟩
theorem FitsSS.fits {zss : List (List Int)} (h : FitsSS zss) : zss.length ≤ 1000000000 ∧ total zss ≤ 1000000000 := by unfold FitsSS at h; omega
theorem FitsSS.row {zss : List (List Int)} (h : FitsSS zss) (k : Nat) : (zss.getD k []).length ≤ 1048576 := by
  by_cases hk : k < zss.length
  · have := row_le_total zss (zss.getD k []) (by simp only [List.getD_eq_getElem?_getD, List.getElem?_eq_getElem hk, Option.getD_some]; exact List.getElem_mem hk)
    unfold FitsSS at h; omega
  · simp [List.getD_eq_getElem?_getD, Nat.le_of_not_lt hk]

theorem openSS {H : Type} {enc : TypeId × Value → H} {w : World} {base : Nat} {held : Bool} {t e q : TypeId} {fuel : Nat} {cs : List Value} {x : DataW H × List MemPlace} (ht : Try.prog.underlying t = some (.slice e)) (he : Try.prog.underlying e = some (.slice q)) (hq : Try.prog.underlying q = some (.int .i64))
    (ce : Try.prog.cellsOf e = 1) (cq : Try.prog.cellsOf q = 1) (h : DataW.trod enc Try.prog w base (fun _ => true) held fuel t cs = some x) :
    ∃ (a : Option Addr) (len cap : Nat) (zss : List (List Int)), cs = [.slice a len cap] ∧ CameSS w a len zss ∧ len ≤ cap ∧ cap ≤ maxLen := by
  rcases Go.Deep.open_int_rows ht he hq ce cq h with ⟨h0, _⟩ | ⟨a, len, cap, A, L, C, Z, hcs, _, hl, hm, _, hr⟩
  · exact ⟨none, 0, 0, [], h0, cameSS_nil _ _, Nat.le_refl _, Nat.zero_le _⟩
  · refine ⟨some a, len, cap, (List.range len).map fun r => (Z r).take (L r), hcs, ⟨by simp, A, C, fun i hi => ?_, fun hp => ?_⟩, hl, hm⟩
    · obtain ⟨h1, h2, h3, h4, _, h6, h7⟩ := hr i (by omega)
      rw [getD_range _ len i hi]
      have hlen : ((Z i).take (L i)).length = L i := by rw [List.length_take]; omega
      rw [hlen]
      refine ⟨?_, h2, by unfold maxLen at h3; omega⟩
      rcases hA : A i with _ | a'
      · have := h6 hA
        exact ⟨hlen, fun hp => absurd hp (by omega)⟩
      · exact came_take h4 h2 (fun c hc => (h7 a' hA).2 c (by omega))
    · obtain ⟨b, off, spot⟩ := a
      have h0 := (hr 0 (by omega)).1
      have hspot : spot = none := by
        have := World.cell?_spot h0
        simpa [Addr.add] using this
      subst hspot
      refine ⟨b, off, rfl, fun j hj => ?_⟩
      rw [getD_range _ len j hj]
      obtain ⟨h1, h2, _, h4, _⟩ := hr j (by omega)
      rw [show ((Z j).take (L j)).length = L j by rw [List.length_take]; omega]
      rw [← Go.WideShapes.add_plain]
      exact h1

/-- a row is put in place -/
theorem SS.put {w : World} {lo hi hi' g n cap : Nat} {vs : List Value} {zss : List (List Int)} (h : SS w lo hi (.slice (some ⟨g, 0, none⟩) n cap) vs zss) (hn : n = vs.length) (i : Nat) (_hi : i < vs.length) (r : Value) (zs : List Int) (hr : Own w hi r zs) (hl : lo ≤ hi) (hh : hi ≤ hi') (hlt : ∀ k, r.ownBlock = some k → k < hi') :
    SS (w.setCell ⟨g, i, none⟩ r) lo hi' (.slice (some ⟨g, 0, none⟩) n cap) (vs.set i r) (zss.set i zs) := by
  subst hn
  have hg : g < hi := h.lid g rfl
  have hk : ∀ k, k ≠ g → (w.setCell ⟨g, i, none⟩ r).heap[k]? = w.heap[k]? := fun k hk => Below.heap_setCell _ _ _ _ (fun e => hk (by rw [e]))
  refine ⟨by rw [List.length_set]; exact (h.own.stored i r).1, by rw [List.length_set, List.length_set]; exact h.len, fun j hj => ?_, fun k ek => Nat.lt_of_lt_of_le (h.lid k ek) hh, fun j1 j2 hj1 hj2 hne k ek => ?_⟩
  · rw [List.length_set] at hj
    rw [getD_setRow, getD_set]
    by_cases e : i = j
    · subst e
      rw [if_pos ⟨rfl, hj⟩, if_pos ⟨rfl, by rw [← h.len]; exact hj⟩]
      refine ⟨(hr.mono hl).same fun k ek => hk k (fun e2 => ?_), hlt⟩
      have := (World.ownsRow.lt hr k ek).1
      omega
    · rw [if_neg (fun x => e x.1), if_neg (fun x => e x.1)]
      exact ⟨(h.row j hj).1.same fun k ek => hk k (fun e2 => h.outer rfl j hj (e2 ▸ ek)), fun k ek => Nat.lt_of_lt_of_le ((h.row j hj).2 k ek) hh⟩
  · rw [List.length_set] at hj1 hj2
    rw [getD_set] at ek ⊢
    by_cases e1 : i = j1
    · subst e1
      rw [if_pos ⟨rfl, hj1⟩] at ek
      rw [if_neg (fun x => hne x.1)]
      intro e2
      have := (World.ownsRow.lt hr k ek).1
      have := (h.row j2 hj2).2 k e2
      omega
    · rw [if_neg (fun x => e1 x.1)] at ek
      by_cases e2 : i = j2
      · subst e2
        rw [if_pos ⟨rfl, hj2⟩]
        intro e3
        have := (World.ownsRow.lt hr k e3).1
        have := (h.row j1 hj1).2 k ek
        omega
      · rw [if_neg (fun x => e2 x.1)]
        exact h.apart j1 j2 hj1 hj2 hne k ek
theorem OwnSS.put {w wr : World} {B g n cap : Nat} {zss : List (List Int)} (h : OwnSS wr B (.slice (some ⟨g, 0, none⟩) n cap) zss) (hb : Below wr.heap.size wr w) (hn : n = zss.length) (i : Nat) (hi : i < zss.length) (r : Value) (zs : List Int) (hr : Own w wr.heap.size r zs) (hB : B ≤ wr.heap.size) :
    OwnSS (w.setCell ⟨g, i, none⟩ r) B (.slice (some ⟨g, 0, none⟩) n cap) (zss.set i zs) := by
  obtain ⟨vs, S⟩ := (show OwnJ wr B wr.heap.size _ zss from h).below hb (Nat.le_refl _)
  have hv := S.len
  refine ⟨vs.set i r, ?_⟩
  have := S.put (hn.trans hv.symm) i (by omega) r zs hr hB hb.size (fun k ek => (World.ownsRow.lt hr k ek).2)
  rw [show (w.setCell ⟨g, i, none⟩ r).heap.size = w.heap.size from by simp [World.setCell]]
  exact this
theorem OwnSS.free {w : World} {B g n cap : Nat} {zss : List (List Int)} (h : OwnSS w B (.slice (some ⟨g, 0, none⟩) n cap) zss) (hn : n = zss.length) (j : Nat) : w.frozen? ⟨g, j, none⟩ = false := by
  obtain ⟨vs, S⟩ := h
  have := S.own
  rw [S.len, ← hn] at this
  exact this.frozenAt j
theorem OwnSS.cell {w : World} {B g n cap : Nat} {zss : List (List Int)} (h : OwnSS w B (.slice (some ⟨g, 0, none⟩) n cap) zss) (j : Nat) (hj : j < zss.length) : ∃ ao c, w.cell? ⟨g, j, none⟩ = some (.slice ao (zss.getD j []).length c) := by
  obtain ⟨vs, S⟩ := h
  have h1 := S.cell j hj
  obtain ⟨ao, c, e⟩ := (S.row j (by rw [S.len]; exact hj)).1.any
  exact ⟨ao, c, by rw [h1, e]⟩
theorem made_ownSS {w1 : World} {B g n : Nat} (zss : List (List Int)) (hn : n = zss.length) (h : w1.ownsRow B 30 1 (.slice (some ⟨g, 0, none⟩) n n) n (madeCells #[.slice none 0 0] (n * 1)).toList) :
    OwnSS w1 B (.slice (some ⟨g, 0, none⟩) n n) (copyR [] zss 0) := by
  rw [Nat.mul_one, toList_madeCells_one] at h
  refine ⟨List.replicate n (.slice none 0 0), ?_⟩
  have hg := (World.ownsRow.lt h g rfl).2
  refine ⟨by rw [List.length_replicate]; exact h, by rw [copyR_zero, List.length_replicate, List.length_replicate]; exact hn, fun i hi => ?_, fun k ek => (World.ownsRow.lt h k ek).2, fun i j hi _ _ k ek => ?_⟩
  · rw [List.length_replicate] at hi
    rw [copyR_zero, show (List.replicate n (Value.slice none 0 0)).getD i undef = .slice none 0 0 from by simp [List.getD_eq_getElem?_getD, hi], show (List.replicate zss.length ([] : List Int)).getD i [] = [] from by simp [List.getD_eq_getElem?_getD, ← hn, hi]]
    exact ⟨own_nil _ _, fun k ek => by simp [Value.ownBlock] at ek⟩
  · rw [List.length_replicate] at hi
    rw [show (List.replicate n (Value.slice none 0 0)).getD i undef = .slice none 0 0 from by simp [List.getD_eq_getElem?_getD, hi]] at ek
    simp [Value.ownBlock] at ek



end Go.Proofs.Ytjdbmkphakpmbaa
