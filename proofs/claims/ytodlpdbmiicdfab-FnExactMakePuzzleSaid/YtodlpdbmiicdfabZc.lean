/- Chapter 9, the program: slices.Clone and slices.Delete at clues. -/
import Derived.Test.YtodlpdbmiicdfabAppC
import Derived.Test.YtodlpdbmiicdfabAgg
import Derived.StillTailTactics
import Derived.Deep.RegionLaw
import Derived.Lib.SliceRun
namespace Go.Proofs.Ytodlpdbmiicdfab
open Go.ChangeShapes Go.WideShapes Go.ChangeAt Go.RowKit

@[go_sem] theorem eql_nil_clues (a : Option Addr) (l c : Nat) (w : World) : (binOp .eql 29 (.slice a l c) (.slice none 0 0)).run Try.prog w = .ok (.bool a.isNone) w := by
  simp [binOp, run_equal_slice_nil w 29 _ a l c Try.underlying29]
set_option maxHeartbeats 1000000 in
theorem cloneClues_any (w : World) (b off len cap : Nat) (ps : List RClue) (hl : len ≤ 1000000000) (hc : CameClue w (some ⟨b, off, none⟩) len ps) :
    Calls Try.prog 71 #[.slice (some ⟨b, off, none⟩) len cap] w fun e w' => ∃ v, e = .returned v ∧ OwnClue w' w.heap.size v ps ∧ Below w.heap.size w w' := by
  have HB : Hid (Below w.heap.size w (w.alloc (.cells #[] 64))) := Lib.hid ((Below.refl _ _).alloc (Nat.le_refl _) _)
  have HS := Lib.hid (src_cameC (hc.below HB.out))
  have HL : Hid (ps.length = len) := Lib.hid hc.1
  clear hc
  go_enter Try.func71, Try.ntmps71
  go_wp2_with (at_builtin; refine wpList_appClue rfl _ _ rfl w.heap.size _ [] ps _ _ _ rfl rfl (ownClue_made w) HL.out HS.out HB.out.size (by simpa using hl) ?_; intro v' w' hO hB hG; have HO : Hid (OwnClue w' w.heap.size v' ps) := Lib.hid hO; have HB2 : Hid (Below w.heap.size w w') := Lib.hid (HB.out.trans hB); clear hO hB hG)
  go_ret
  exact ⟨_, rfl, HO.out, HB2.out⟩

/-- values laid one behind the other -/
def setL (xs : List Value) (o : Nat) : List Value → List Value
  | [] => xs
  | v :: r => setL (xs.set o v) (o + 1) r
theorem length_setL : ∀ (vs xs : List Value) (o : Nat), (setL xs o vs).length = xs.length
  | [], _, _ => rfl
  | v :: r, xs, o => by rw [setL, length_setL r]; simp
theorem take_setL : ∀ (vs xs : List Value) (o : Nat), o + vs.length ≤ xs.length → (setL xs o vs).take (o + vs.length) = xs.take o ++ vs
  | [], xs, o, _ => by simp [setL]
  | v :: r, xs, o, h => by
    simp only [List.length_cons] at h
    rw [setL, List.length_cons, show o + (r.length + 1) = o + 1 + r.length by omega, take_setL r (xs.set o v) (o + 1) (by simp; omega), List.take_add_one, List.take_set_of_le (Nat.le_refl _)]
    simp [show o < xs.length by omega]
theorem take_setL_lo : ∀ (vs xs : List Value) (o n : Nat), n ≤ o → (setL xs o vs).take n = xs.take n
  | [], _, _, _, _ => rfl
  | v :: r, xs, o, n, h => by rw [setL, take_setL_lo r _ _ _ (by omega), List.take_set_of_le h]
theorem owns_setL {B g cap n size : Nat} {e : TypeId} : ∀ (vs xs : List Value) (o : Nat) (w : World), w.ownsRow B e size (.slice (some ⟨g, 0, none⟩) n cap) n xs → (w.setCells g o vs).ownsRow B e size (.slice (some ⟨g, 0, none⟩) n cap) n (setL xs o vs)
  | [], _, _, _, h => h
  | v :: r, xs, o, _, h => owns_setL r (xs.set o v) (o + 1) _ (h.stored o v).1
theorem below_setL {B g : Nat} {w0 : World} (hg : B ≤ g) : ∀ (vs : List Value) (o : Nat) (w : World), Below B w0 w → Below B w0 (w.setCells g o vs)
  | [], _, _, h => h
  | v :: r, o, _, h => below_setL hg r (o + 1) _ (h.setCell (p := ⟨g, o, none⟩) hg v)
theorem grown_setL {g : Nat} : ∀ (vs : List Value) (o : Nat) (w : World), w.grownBy (w.setCells g o vs) (some g)
  | [], _, _ => World.grownBy.refl _ _
  | v :: r, o, w => grownBy_trans (set_grown w g o v) (grown_setL r (o + 1) _)
theorem grown_drew (w : World) (r : Option Nat) : w.grownBy w.drew r := ⟨rfl, rfl, rfl, Nat.le_refl _, fun _ _ _ => rfl⟩
theorem owns_first {w : World} {B g cap n m size : Nat} {e : TypeId} {xs : List Value} (h : w.ownsRow B e size (.slice (some ⟨g, 0, none⟩) n cap) n xs) (hm : m ≤ n) : w.ownsRow B e size (.slice (some ⟨g, 0, none⟩) m cap) m (xs.take (m * size)) := by
  have hms : m * size ≤ n * size := Nat.mul_le_mul_right _ hm
  refine ⟨by rw [List.length_take, h.1]; omega, .inr ?_⟩
  rcases h.2 with ⟨h1, _⟩ | ⟨g', cap', cur, hv, hg, hh, hn, hcap, hsz, htk⟩
  · cases h1
  · injection hv with e1 e2 e3
    injection e1 with e1
    injection e1 with e1
    subst e1 e3
    exact ⟨g, cap, cur, rfl, hg, hh, by omega, hcap, hsz, by rw [← htk, List.take_take, Nat.min_eq_left hms]⟩
theorem owns_cap {w : World} {B g cap n size : Nat} {e : TypeId} {xs : List Value} (h : w.ownsRow B e size (.slice (some ⟨g, 0, none⟩) n cap) n xs) : n ≤ cap ∧ cap ≤ 9223372036854775807 ∧ B ≤ g := by
  rcases h.2 with ⟨h1, _⟩ | ⟨g', cap', cur, hv, hg, hh, hn, hcap, hsz, htk⟩
  · cases h1
  · injection hv with e1 e2 e3
    injection e1 with e1
    injection e1 with e1
    subst e1 e3
    unfold maxLen at hcap
    exact ⟨hn, by omega, hg⟩
theorem flat_take (ps : List RClue) (k : Nat) : (ps.flatMap cClue).take (k * 4) = (ps.take k).flatMap cClue := by
  induction ps generalizing k with
  | nil => simp
  | cons p ps ih =>
    rcases k with _ | k
    · simp
    · rw [List.flatMap_cons, List.take_succ_cons, List.flatMap_cons, ← ih k, List.take_append, List.take_of_length_le (by rw [cClue_len]; omega), cClue_len, show (k + 1) * 4 - 4 = k * 4 by omega]

theorem run_clear_clue (w : World) (ty : TypeId) (b o c : Nat) (hc : ∀ j, j < 4 → (w.cell? ⟨b, o + j, none⟩).isSome = true) (hf : ∀ j, j < 4 → w.frozen? ⟨b, o + j, none⟩ = false) :
    (Builtin.clear_ #[29] ty #[.slice (some ⟨b, o, none⟩) 1 c]).run Try.prog w = .ok (.tuple #[]) (w.setCells b o [.int .i64 0, .int .i64 0, .int .i64 0, .int .i64 0]) := by
  have hst := run_storeCells_cells (P := Try.prog) b o [.int .i64 0, .int .i64 0, .int .i64 0, .int .i64 0] 0 w (by simpa using hc) (by simpa using hf) (by simp [Value.oneCell'])
  simp only [Nat.add_zero] at hst
  have hv : (zeroValue 64).run Try.prog w = .ok (.agg #[.int .i64 0, .int .i64 0, .int .i64 0, .int .i64 0]) w := Try.zeroValue64 w
  have hzc : (Builtin.zeroCells (Value.agg #[.int .i64 0, .int .i64 0, .int .i64 0, .int .i64 0]).cells 1).toList = [.int .i64 0, .int .i64 0, .int .i64 0, .int .i64 0] := by simp [Builtin.zeroCells, Value.cells, List.range, List.range.loop]
  simp [Builtin.clear_, run_underlying Try.underlying29, hv, hzc, hst]
set_option maxHeartbeats 4000000 in
theorem deleteClue_any (w : World) (B g cap k m : Nat) (ps : List RClue) (hn : ps.length = k + 1 + m) (h6 : ps.length ≤ 6) (hown : OwnClue w B (.slice (some ⟨g, 0, none⟩) (k + 1 + m) cap) ps) :
    Calls Try.prog 70 #[.slice (some ⟨g, 0, none⟩) (k + 1 + m) cap, .int .i64 (k : Int), .int .i64 ((k : Int) + 1)] w fun e w' => e = .returned (.slice (some ⟨g, 0, none⟩) (k + m) cap) ∧ OwnClue w' B (.slice (some ⟨g, 0, none⟩) (k + m) cap) (ps.take k ++ ps.drop (k + 1)) ∧ w.grownBy w' (some g) := by
  have hown2 : w.ownsRow B 64 4 (.slice (some ⟨g, 0, none⟩) (k + 1 + m) cap) (k + 1 + m) (ps.flatMap cClue) := by
    have h : w.ownsRow B 64 4 (.slice (some ⟨g, 0, none⟩) (k + 1 + m) cap) ps.length (ps.flatMap cClue) := hown
    rwa [hn] at h
  obtain ⟨hcp, hcm, hBg⟩ := owns_cap hown2
  obtain ⟨xs, hxs⟩ : ∃ xs, xs = ps.flatMap cClue := ⟨_, rfl⟩
  have hxl : xs.length = (k + 1 + m) * 4 := by rw [hxs, flat_len cClue_len, hn]
  rw [← hxs] at hown2
  obtain ⟨news, hnews⟩ : ∃ news, news = (ps.drop (k + 1)).flatMap cClue := ⟨_, rfl⟩
  have hlen : news.length = m * 4 := by rw [hnews, flat_len cClue_len, List.length_drop, hn]; omega
  have hone : ∀ u ∈ news, u.oneCell' = true := by
    rw [hnews]
    intro u hu
    obtain ⟨p, _, hp⟩ := List.mem_flatMap.1 hu
    unfold cClue at hp
    simp only [List.mem_cons, List.not_mem_nil, or_false] at hp
    rcases hp with rfl | rfl | rfl | rfl <;> rfl
  have hcame : CameClue w (some ⟨g, 0, none⟩) (k + 1 + m) ps := by
    have h := OwnClue.cameC (hn.symm ▸ hown : OwnClue w B (.slice (some ⟨g, 0, none⟩) ps.length cap) ps)
    obtain ⟨ao, c, h1, h2, _⟩ := h
    injection h1 with e1
    rw [← e1, hn] at h2
    exact h2
  obtain ⟨A, hA, HSRC⟩ : ∃ A : Addr, (if cap = k + 1 then (some ⟨g, 0, none⟩ : Option Addr) else some ⟨g, (k + 1) * 4, none⟩) = some A ∧ Hid (∀ j u, news[j]? = some u → w.drew.cell? (A.add j) = some u) := by
    by_cases h : cap = k + 1
    · refine ⟨⟨g, 0, none⟩, by simp [h], Lib.hid (fun j u hj => ?_)⟩
      have h0 : news.length = 0 := by rw [hlen]; omega
      rw [List.length_eq_zero_iff.1 h0] at hj
      simp at hj
    · refine ⟨⟨g, (k + 1) * 4, none⟩, by simp [h], Lib.hid (fun j u hj => ?_)⟩
      rw [hnews] at hj
      have h3 := hcame.dropC (k := k + 1)
      rw [Nat.zero_add] at h3
      exact src_cameC h3 j u hj
  obtain ⟨W1, hW1⟩ : ∃ W1, W1 = w.drew.setCells g (0 + k * 4) news := ⟨_, rfl⟩
  have hown3 : W1.ownsRow B 64 4 (.slice (some ⟨g, 0, none⟩) (k + 1 + m) cap) (k + 1 + m) (setL xs (k * 4) news) := by
    rw [hW1, Nat.zero_add]; exact owns_setL news xs _ w.drew hown2
  have hown4 : (W1.setCells g ((k + m) * 4) [.int .i64 0, .int .i64 0, .int .i64 0, .int .i64 0]).ownsRow B 64 4 (.slice (some ⟨g, 0, none⟩) (k + 1 + m) cap) (k + 1 + m) (setL (setL xs (k * 4) news) ((k + m) * 4) [.int .i64 0, .int .i64 0, .int .i64 0, .int .i64 0]) := owns_setL _ _ _ _ hown3
  have HR : Hid (OwnClue (W1.setCells g ((k + m) * 4) [.int .i64 0, .int .i64 0, .int .i64 0, .int .i64 0]) B (.slice (some ⟨g, 0, none⟩) (k + m) cap) (ps.take k ++ ps.drop (k + 1))) := Lib.hid (by
    have h := owns_first hown4 (m := k + m) (by omega)
    rw [take_setL_lo _ _ _ _ (Nat.le_refl _)] at h
    have e : (k + m) * 4 = k * 4 + news.length := by rw [hlen]; omega
    have e2 : (setL xs (k * 4) news).take ((k + m) * 4) = (ps.take k ++ ps.drop (k + 1)).flatMap cClue := by
      rw [e, take_setL _ _ _ (by omega), List.flatMap_append, ← flat_take, ← hxs, hnews]
    rw [e2] at h
    have e3 : (ps.take k ++ ps.drop (k + 1)).length = k + m := by rw [List.length_append, List.length_take, List.length_drop]; omega
    unfold OwnClue
    rw [e3]
    exact h)
  have HBL : Hid (w.grownBy (W1.setCells g ((k + m) * 4) [.int .i64 0, .int .i64 0, .int .i64 0, .int .i64 0]) (some g)) := Lib.hid (by
    rw [hW1]
    exact grownBy_trans (grown_drew w _) (grownBy_trans (grown_setL _ _ _) (grown_setL _ _ _)))
  have HSP : Hid (∀ j, j < news.length → (w.drew.cell? ⟨g, 0 + k * 4 + j, none⟩).isSome = true ∧ w.drew.frozen? ⟨g, 0 + k * 4 + j, none⟩ = false) := Lib.hid (fun j hj => by
    have hj2 : k * 4 + j < (k + 1 + m) * 4 := by rw [hlen] at hj; omega
    refine ⟨?_, ?_⟩
    · show (w.cell? ⟨g, 0 + k * 4 + j, none⟩).isSome = true
      rw [Nat.zero_add, hown2.cellAt (k * 4 + j) hj2, List.getElem?_eq_getElem (by rw [hxl]; exact hj2)]; rfl
    · show w.frozen? ⟨g, 0 + k * 4 + j, none⟩ = false
      exact hown2.frozenAt _)
  have hcl : ∀ ty c, (Builtin.clear_ #[29] ty #[.slice (some ⟨g, (k + m) * 4, none⟩) 1 c]).run Try.prog W1 = .ok (.tuple #[]) (W1.setCells g ((k + m) * 4) [.int .i64 0, .int .i64 0, .int .i64 0, .int .i64 0]) := fun ty c =>
    run_clear_clue W1 ty g ((k + m) * 4) c (fun j hj => by
      have hj2 : (k + m) * 4 + j < (k + 1 + m) * 4 := by omega
      rw [hown3.cellAt ((k + m) * 4 + j) hj2, List.getElem?_eq_getElem (by rw [length_setL, hxl]; exact hj2)]; rfl) (fun j _ => hown3.frozenAt _)
  have HL := Lib.hid hlen
  have HON := Lib.hid hone
  have hW : Hid (W1 = w.drew.setCells g (0 + k * 4) news) := Lib.hid hW1
  obtain ⟨i0, hi0, hz0, hz1, hz2⟩ := info_parts Try.info_Clue
  have HI0 := Lib.hid hi0
  have HZ1 := Lib.hid hz1
  have g1 : k + 1 ≤ cap := by omega
  have i1 : (0 : Int) ≤ (k : Int) := by omega
  have i2 : (k : Int) ≤ (cap : Int) := by omega
  have i3 : (0 : Int) ≤ (k : Int) + 1 := by omega
  have i4 : (k : Int) + 1 ≤ (k : Int) + 1 + (m : Int) := by omega
  have i5 : ((k : Int) + 1).toNat = k + 1 := by omega
  have i6 : k + 1 + m - (k + 1) = m := by omega
  have i7 : (0 : Int) ≤ (k : Int) + (m : Int) := by omega
  have i8 : (k : Int) + (m : Int) ≤ (k : Int) + 1 + (m : Int) := by omega
  have i9 : (k : Int) + 1 + (m : Int) ≤ (cap : Int) := by omega
  have i10 : ((k : Int) + (m : Int)).toNat = k + m := by omega
  have i11 : ((k : Int) + 1 + (m : Int)).toNat = k + 1 + m := by omega
  have i12 : k + 1 + m - (k + m) = 1 := by omega
  have g2 : ¬ cap = k + m := by omega
  have hq : ((k : Int) == (k : Int) + 1) = false := by rw [beq_eq_false_iff_ne]; omega
  have hk6 : k + 1 + m ≤ 6 := by omega
  clear hown hown2 hown3 hown4 hnews hlen hone hcame hW1 hxs hxl hn h6 hi0 hz0 hz1 hz2
  go_enter Try.func70, Try.ntmps70
  go_wp2_with fail
  go_region_law (refine step_append_room rfl (.tmp 22) (.tmp 25) 29 rfl 64 i0 4 Try.underlying29 HI0.out HZ1.out g 0 k cap (by simp [Act.eval, Act.put]) A m (cap - (k + 1)) news (by simp [Act.eval, Act.put]) HL.out HSRC.out HON.out (by omega) HSP.out ?_; rw [← hW.out])
  go_wp2
  go_ret
  exact ⟨rfl, HR.out, HBL.out⟩

end Go.Proofs.Ytodlpdbmiicdfab
