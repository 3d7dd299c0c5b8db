/- Chapter 5, the program: slices.Delete of one pace; DropPace. -/
import Derived.Test.YthnbimfdodfhoaaJe
import Derived.Test.YthnbimfdodfhoaaPj
import Derived.Deep.RegionLaw
import Derived.Lib.SliceRun
namespace Go.Proofs.Ythnbimfdodfhoaa
open Go.ChangeShapes Go.WideShapes Go.ChangeAt Go.RowKit
open Pa

/-- values laid one behind the other -/
def setL (xs : List Value) (o : Nat) : List Value → List Value
  | [] => xs
  | v :: r => setL (xs.set o v) (o + 1) r
theorem length_setL : ∀ (vs xs : List Value) (o : Nat), (setL xs o vs).length = xs.length
  | [], _, _ => rfl
  | v :: r, xs, o => by rw [setL, length_setL r]; simp
theorem take_setL : ∀ (vs xs : List Value) (o : Nat), o + vs.length ≤ xs.length → (setL xs o vs).take (o + vs.length) = xs.take o ++ vs
  | [], xs, o, _ => by simp [setL]
  | v :: r, xs, o, h => by
    simp only [List.length_cons] at h
    rw [setL, List.length_cons, show o + (r.length + 1) = o + 1 + r.length by omega, take_setL r (xs.set o v) (o + 1) (by simp; omega), List.take_add_one, List.take_set_of_le (Nat.le_refl _)]
    simp [show o < xs.length by omega]
theorem take_setL_lo : ∀ (vs xs : List Value) (o n : Nat), n ≤ o → (setL xs o vs).take n = xs.take n
  | [], _, _, _, _ => rfl
  | v :: r, xs, o, n, h => by rw [setL, take_setL_lo r _ _ _ (by omega), List.take_set_of_le h]
theorem owns_setL {B g cap n size : Nat} {e : TypeId} : ∀ (vs xs : List Value) (o : Nat) (w : World), w.ownsRow B e size (.slice (some ⟨g, 0, none⟩) n cap) n xs → (w.setCells g o vs).ownsRow B e size (.slice (some ⟨g, 0, none⟩) n cap) n (setL xs o vs)
  | [], _, _, _, h => h
  | v :: r, xs, o, _, h => owns_setL r (xs.set o v) (o + 1) _ (h.stored o v).1
theorem below_setL {B g : Nat} {w0 : World} (hg : B ≤ g) : ∀ (vs : List Value) (o : Nat) (w : World), Below B w0 w → Below B w0 (w.setCells g o vs)
  | [], _, _, h => h
  | v :: r, o, _, h => below_setL hg r (o + 1) _ (h.setCell (p := ⟨g, o, none⟩) hg v)
theorem owns_first {w : World} {B g cap n m size : Nat} {e : TypeId} {xs : List Value} (h : w.ownsRow B e size (.slice (some ⟨g, 0, none⟩) n cap) n xs) (hm : m ≤ n) : w.ownsRow B e size (.slice (some ⟨g, 0, none⟩) m cap) m (xs.take (m * size)) := by
  have hms : m * size ≤ n * size := Nat.mul_le_mul_right _ hm
  refine ⟨by rw [List.length_take, h.1]; omega, .inr ?_⟩
  rcases h.2 with ⟨h1, _⟩ | ⟨g', cap', cur, hv, hg, hh, hn, hcap, hsz, htk⟩
  · cases h1
  · injection hv with e1 e2 e3
    injection e1 with e1
    injection e1 with e1
    subst e1 e3
    exact ⟨g, cap, cur, rfl, hg, hh, by omega, hcap, hsz, by rw [← htk, List.take_take, Nat.min_eq_left hms]⟩
theorem owns_cap {w : World} {B g cap n size : Nat} {e : TypeId} {xs : List Value} (h : w.ownsRow B e size (.slice (some ⟨g, 0, none⟩) n cap) n xs) : n ≤ cap ∧ cap ≤ 9223372036854775807 ∧ B ≤ g := by
  rcases h.2 with ⟨h1, _⟩ | ⟨g', cap', cur, hv, hg, hh, hn, hcap, hsz, htk⟩
  · cases h1
  · injection hv with e1 e2 e3
    injection e1 with e1
    injection e1 with e1
    subst e1 e3
    unfold maxLen at hcap
    exact ⟨hn, by omega, hg⟩
theorem flat_take (ps : List RPace) (k : Nat) : (ps.flatMap cPace).take (k * 2) = (ps.take k).flatMap cPace := by
  induction ps generalizing k with
  | nil => simp
  | cons p ps ih =>
    rcases k with _ | k
    · simp
    · rw [List.flatMap_cons, List.take_succ_cons, List.flatMap_cons, ← ih k, List.take_append, List.take_of_length_le (by rw [cPace_len]; omega), cPace_len, show (k + 1) * 2 - 2 = k * 2 by omega]

theorem run_clear_pace (w : World) (ty : TypeId) (b o c : Nat) (hc : ∀ j, j < 2 → (w.cell? ⟨b, o + j, none⟩).isSome = true) (hf : ∀ j, j < 2 → w.frozen? ⟨b, o + j, none⟩ = false) :
    (Builtin.clear_ #[25] ty #[.slice (some ⟨b, o, none⟩) 1 c]).run Try.prog w = .ok (.tuple #[]) (w.setCells b o [.int .i64 0, .int .i64 0]) := by
  have hst := run_storeCells_cells (P := Try.prog) b o [.int .i64 0, .int .i64 0] 0 w (by simpa using hc) (by simpa using hf) (by simp [Value.oneCell'])
  simp only [Nat.add_zero] at hst
  have hv : (zeroValue 48).run Try.prog w = .ok (.agg #[.int .i64 0, .int .i64 0]) w := Try.zeroValue48 w
  have hzc : (Builtin.zeroCells (Value.agg #[.int .i64 0, .int .i64 0]).cells 1).toList = [.int .i64 0, .int .i64 0] := by simp [Builtin.zeroCells, Value.cells, List.range, List.range.loop]
  simp [Builtin.clear_, run_underlying Try.underlying25, hv, hzc, hst]
set_option maxHeartbeats 4000000 in
theorem deletePace_any (w : World) (B g cap k m : Nat) (ps : List RPace) (hn : ps.length = k + 1 + m) (h6 : ps.length ≤ 6) (hown : OwnPace w B (.slice (some ⟨g, 0, none⟩) (k + 1 + m) cap) ps) :
    Calls Try.prog 60 #[.slice (some ⟨g, 0, none⟩) (k + 1 + m) cap, .int .i64 (k : Int), .int .i64 ((k : Int) + 1)] w fun e w' => e = .returned (.slice (some ⟨g, 0, none⟩) (k + m) cap) ∧ OwnPace w' B (.slice (some ⟨g, 0, none⟩) (k + m) cap) (ps.take k ++ ps.drop (k + 1)) ∧ Below B w w' := by
  have hown2 : w.ownsRow B 48 2 (.slice (some ⟨g, 0, none⟩) (k + 1 + m) cap) (k + 1 + m) (ps.flatMap cPace) := by
    have h : w.ownsRow B 48 2 (.slice (some ⟨g, 0, none⟩) (k + 1 + m) cap) ps.length (ps.flatMap cPace) := hown
    rwa [hn] at h
  obtain ⟨hcp, hcm, hBg⟩ := owns_cap hown2
  obtain ⟨xs, hxs⟩ : ∃ xs, xs = ps.flatMap cPace := ⟨_, rfl⟩
  have hxl : xs.length = (k + 1 + m) * 2 := by rw [hxs, flat_len cPace_len, hn]
  rw [← hxs] at hown2
  obtain ⟨news, hnews⟩ : ∃ news, news = (ps.drop (k + 1)).flatMap cPace := ⟨_, rfl⟩
  have hlen : news.length = m * 2 := by rw [hnews, flat_len cPace_len, List.length_drop, hn]; omega
  have hone : ∀ u ∈ news, u.oneCell' = true := by
    rw [hnews]
    intro u hu
    obtain ⟨p, _, hp⟩ := List.mem_flatMap.1 hu
    unfold cPace at hp
    simp only [List.mem_cons, List.not_mem_nil, or_false] at hp
    rcases hp with rfl | rfl <;> rfl
  have hcame : CamePace w (some ⟨g, 0, none⟩) (k + 1 + m) ps := by
    have h := OwnPace.cameC (hn.symm ▸ hown : OwnPace w B (.slice (some ⟨g, 0, none⟩) ps.length cap) ps)
    obtain ⟨ao, c, h1, h2, _⟩ := h
    injection h1 with e1
    rw [← e1, hn] at h2
    exact h2
  obtain ⟨A, hA, HSRC⟩ : ∃ A : Addr, (if cap = k + 1 then (some ⟨g, 0, none⟩ : Option Addr) else some ⟨g, (k + 1) * 2, none⟩) = some A ∧ Hid (∀ j u, news[j]? = some u → w.drew.cell? (A.add j) = some u) := by
    by_cases h : cap = k + 1
    · refine ⟨⟨g, 0, none⟩, by simp [h], Lib.hid (fun j u hj => ?_)⟩
      have h0 : news.length = 0 := by rw [hlen]; omega
      rw [List.length_eq_zero_iff.1 h0] at hj
      simp at hj
    · refine ⟨⟨g, (k + 1) * 2, none⟩, by simp [h], Lib.hid (fun j u hj => ?_)⟩
      rw [hnews] at hj
      have h3 := hcame.dropP (k := k + 1)
      rw [Nat.zero_add] at h3
      exact src_came h3 j u hj
  obtain ⟨W1, hW1⟩ : ∃ W1, W1 = w.drew.setCells g (0 + k * 2) news := ⟨_, rfl⟩
  have hown3 : W1.ownsRow B 48 2 (.slice (some ⟨g, 0, none⟩) (k + 1 + m) cap) (k + 1 + m) (setL xs (k * 2) news) := by
    rw [hW1, Nat.zero_add]; exact owns_setL news xs _ w.drew hown2
  have hown4 : (W1.setCells g ((k + m) * 2) [.int .i64 0, .int .i64 0]).ownsRow B 48 2 (.slice (some ⟨g, 0, none⟩) (k + 1 + m) cap) (k + 1 + m) (setL (setL xs (k * 2) news) ((k + m) * 2) [.int .i64 0, .int .i64 0]) := owns_setL _ _ _ _ hown3
  have HR : Hid (OwnPace (W1.setCells g ((k + m) * 2) [.int .i64 0, .int .i64 0]) B (.slice (some ⟨g, 0, none⟩) (k + m) cap) (ps.take k ++ ps.drop (k + 1))) := Lib.hid (by
    have h := owns_first hown4 (m := k + m) (by omega)
    rw [take_setL_lo _ _ _ _ (Nat.le_refl _)] at h
    have e : (k + m) * 2 = k * 2 + news.length := by rw [hlen]; omega
    have e2 : (setL xs (k * 2) news).take ((k + m) * 2) = (ps.take k ++ ps.drop (k + 1)).flatMap cPace := by
      rw [e, take_setL _ _ _ (by omega), List.flatMap_append, ← flat_take, ← hxs, hnews]
    rw [e2] at h
    have e3 : (ps.take k ++ ps.drop (k + 1)).length = k + m := by rw [List.length_append, List.length_take, List.length_drop]; omega
    unfold OwnPace
    rw [e3]
    exact h)
  have HBL : Hid (Below B w (W1.setCells g ((k + m) * 2) [.int .i64 0, .int .i64 0])) := Lib.hid (by
    rw [hW1]
    exact below_setL hBg _ _ _ (below_setL hBg _ _ _ (below_drew1 (Below.refl _ _))))
  have HSP : Hid (∀ j, j < news.length → (w.drew.cell? ⟨g, 0 + k * 2 + j, none⟩).isSome = true ∧ w.drew.frozen? ⟨g, 0 + k * 2 + j, none⟩ = false) := Lib.hid (fun j hj => by
    have hj2 : k * 2 + j < (k + 1 + m) * 2 := by rw [hlen] at hj; omega
    refine ⟨?_, ?_⟩
    · show (w.cell? ⟨g, 0 + k * 2 + j, none⟩).isSome = true
      rw [Nat.zero_add, hown2.cellAt (k * 2 + j) hj2, List.getElem?_eq_getElem (by rw [hxl]; exact hj2)]; rfl
    · show w.frozen? ⟨g, 0 + k * 2 + j, none⟩ = false
      exact hown2.frozenAt _)
  have hcl : ∀ ty c, (Builtin.clear_ #[25] ty #[.slice (some ⟨g, (k + m) * 2, none⟩) 1 c]).run Try.prog W1 = .ok (.tuple #[]) (W1.setCells g ((k + m) * 2) [.int .i64 0, .int .i64 0]) := fun ty c =>
    run_clear_pace W1 ty g ((k + m) * 2) c (fun j hj => by
      have hj2 : (k + m) * 2 + j < (k + 1 + m) * 2 := by omega
      rw [hown3.cellAt ((k + m) * 2 + j) hj2, List.getElem?_eq_getElem (by rw [length_setL, hxl]; exact hj2)]; rfl) (fun j _ => hown3.frozenAt _)
  have HL := Lib.hid hlen
  have HON := Lib.hid hone
  have hW : Hid (W1 = w.drew.setCells g (0 + k * 2) news) := Lib.hid hW1
  obtain ⟨i0, hi0, hz0, hz1, hz2⟩ := info_parts Try.info_Pace
  have HI0 := Lib.hid hi0
  have HZ1 := Lib.hid hz1
  have g1 : k + 1 ≤ cap := by omega
  have i1 : (0 : Int) ≤ (k : Int) := by omega
  have i2 : (k : Int) ≤ (cap : Int) := by omega
  have i3 : (0 : Int) ≤ (k : Int) + 1 := by omega
  have i4 : (k : Int) + 1 ≤ (k : Int) + 1 + (m : Int) := by omega
  have i5 : ((k : Int) + 1).toNat = k + 1 := by omega
  have i6 : k + 1 + m - (k + 1) = m := by omega
  have i7 : (0 : Int) ≤ (k : Int) + (m : Int) := by omega
  have i8 : (k : Int) + (m : Int) ≤ (k : Int) + 1 + (m : Int) := by omega
  have i9 : (k : Int) + 1 + (m : Int) ≤ (cap : Int) := by omega
  have i10 : ((k : Int) + (m : Int)).toNat = k + m := by omega
  have i11 : ((k : Int) + 1 + (m : Int)).toNat = k + 1 + m := by omega
  have i12 : k + 1 + m - (k + m) = 1 := by omega
  have g2 : ¬ cap = k + m := by omega
  have hq : ((k : Int) == (k : Int) + 1) = false := by rw [beq_eq_false_iff_ne]; omega
  have hk6 : k + 1 + m ≤ 6 := by omega
  clear hown hown2 hown3 hown4 hnews hlen hone hcame hW1 hxs hxl hn h6 hi0 hz0 hz1 hz2
  go_enter Try.func60, Try.ntmps60
  go_wp2_with fail
  go_region_law (refine step_append_room rfl (.tmp 22) (.tmp 25) 25 rfl 48 i0 2 Try.underlying25 HI0.out HZ1.out g 0 k cap (by simp [Act.eval, Act.put]) A m (cap - (k + 1)) news (by simp [Act.eval, Act.put]) HL.out HSRC.out HON.out (by omega) HSP.out ?_; rw [← hW.out])
  go_wp2
  go_ret
  exact ⟨rfl, HR.out, HBL.out⟩

set_option maxHeartbeats 4000000 in
theorem implDropPace_any (w : World) (a : Option Addr) (len cap : Nat) (ps : List RPace) (t : Int) (_wt : (Lit.int .i64 t).wf = true) (hl : len ≤ 1048576) (hc : CamePace w a len ps) :
    Calls Try.prog 40 #[.slice a len cap, .int .i64 t] w fun e w' => ∃ v0, e = .returned (.tuple #[v0, .bool (outDropPace_1 ps t)]) ∧ OwnPace w' w.heap.size v0 (outDropPace_0 ps t) ∧ Below w.heap.size w w' := by
  have HG := Lib.hid (arePaces_any w a len cap ps hl hc)
  have HC := Lib.hid hc
  have HZ : Hid (ps.length = len) := Lib.hid hc.1
  clear _wt hc
  rcases hb : goodP ps with _ | _
  · have H0 : Hid (outDropPace_0 ps t = [] ∧ outDropPace_1 ps t = false) := Lib.hid (by unfold outDropPace_0 outDropPace_1 dropB; rw [hb]; exact ⟨rfl, rfl⟩)
    rw [hb] at HG
    clear hb
    go_enter Try.func40, Try.ntmps40
    go_wp2_with (go_at_call 16; refine HG.out.mono ?_; rintro e w2 ⟨rfl, b2⟩; have B2 := Lib.hid b2; clear b2)
    go_ret2
    exact ⟨_, by rw [H0.out.2]; exact rfl, by rw [H0.out.1]; exact ownPace_nil _ _, B2.out⟩
  have h6 : len ≤ 6 := by have := good_len hb; have := HZ.out; omega
  have h1 : 1 ≤ len := by have h := hb; unfold goodP at h; rw [Bool.and_eq_true] at h; have := inB_yes h.1; have := HZ.out; omega
  rw [hb] at HG
  by_cases hno : t < 0 ∨ (len : Int) ≤ t ∨ len = 1
  · have H0 : Hid (outDropPace_0 ps t = [] ∧ outDropPace_1 ps t = false) := Lib.hid (by
      have hd : dropB ps t = false := by
        unfold dropB
        rw [HZ.out]
        by_cases e : len = 1
        · rw [decide_eq_false (fun h => h e), Bool.and_false]
        · rw [inB_no (n := t) (by omega), Bool.and_false, Bool.false_and]
      unfold outDropPace_0 outDropPace_1; rw [hd]; exact ⟨rfl, rfl⟩)
    clear hb
    by_cases c1 : t < 0
    · clear hno
      go_enter Try.func40, Try.ntmps40
      go_wp2_with (go_at_call 16; refine HG.out.mono ?_; rintro e w2 ⟨rfl, b2⟩; have B2 := Lib.hid b2; clear b2)
      go_ret2
      exact ⟨_, by rw [H0.out.2]; exact rfl, by rw [H0.out.1]; exact ownPace_nil _ _, B2.out⟩
    by_cases c2 : (len : Int) ≤ t
    · clear hno
      go_enter Try.func40, Try.ntmps40
      go_wp2_with (go_at_call 16; refine HG.out.mono ?_; rintro e w2 ⟨rfl, b2⟩; have B2 := Lib.hid b2; clear b2)
      go_ret2
      exact ⟨_, by rw [H0.out.2]; exact rfl, by rw [H0.out.1]; exact ownPace_nil _ _, B2.out⟩
    have c3 : ((len : Int) == 1) = true := by rw [beq_iff_eq]; omega
    clear hno
    go_enter Try.func40, Try.ntmps40
    go_wp2_with (go_at_call 16; refine HG.out.mono ?_; rintro e w2 ⟨rfl, b2⟩; have B2 := Lib.hid b2; clear b2)
    go_ret2
    exact ⟨_, by rw [H0.out.2]; exact rfl, by rw [H0.out.1]; exact ownPace_nil _ _, B2.out⟩
  · have c1 : ¬ t < 0 := fun h => hno (.inl h)
    have c2 : ¬ (len : Int) ≤ t := fun h => hno (.inr (.inl h))
    have hone : ¬ len = 1 := fun h => hno (.inr (.inr h))
    have c3 : ((len : Int) == 1) = false := by rw [beq_eq_false_iff_ne]; omega
    obtain ⟨K, rfl⟩ : ∃ T : Nat, t = (T : Int) := ⟨t.toNat, by omega⟩
    have H0 : Hid (outDropPace_0 ps K = ps.take K ++ ps.drop (K + 1) ∧ outDropPace_1 ps K = true) := Lib.hid (by unfold outDropPace_0 outDropPace_1 dropB; rw [hb, HZ.out, inB_of (by omega), decide_eq_true hone]; exact ⟨rfl, rfl⟩)
    obtain ⟨m, hm⟩ : ∃ m, len = K + 1 + m := ⟨len - (K + 1), by omega⟩
    obtain ⟨b, off, rfl, _⟩ := HC.out.2 (by omega)
    have HCL := Lib.hid (fun w2 (h : Below w.heap.size w w2) => clonePaces_any w2 b off len cap ps (by omega) (HC.out.below h))
    have HM := Lib.hid hm
    clear hb hno hm
    go_enter Try.func40, Try.ntmps40
    go_wp2_with fail
    go_at_call 16
    refine HG.out.mono ?_
    rintro e w2 ⟨rfl, b2⟩
    have B2 := Lib.hid b2
    have HCL2 := Lib.hid (HCL.out w2 b2)
    clear b2
    go_wp2_with fail
    go_at_call 57
    refine HCL2.out.mono ?_
    rintro e w3 ⟨v, rfl, o3, b3⟩
    have B3 : Hid (Below w.heap.size w w3) := Lib.hid (B2.out.trans (b3.mono B2.out.size))
    obtain ⟨g, cp, rfl, hg1, _⟩ := o3.point (by rw [HZ.out]; omega)
    rw [HZ.out] at o3 ⊢
    have HD := Lib.hid (deletePace_any w3 w.heap.size g cp K m ps (by rw [HZ.out]; exact HM.out) (by rw [HZ.out]; exact h6) (by rw [← HM.out]; exact o3.mono B2.out.size))
    rw [← HM.out] at HD
    clear o3 b3 hg1
    go_wp2_with fail
    go_at_call 60
    refine HD.out.mono ?_
    rintro e w4 ⟨rfl, o4, b4⟩
    have O4 := Lib.hid o4
    have B4 : Hid (Below w.heap.size w w4) := Lib.hid (B3.out.trans b4)
    clear o4 b4
    go_wp2
    go_ret2
    exact ⟨_, by rw [H0.out.2]; exact rfl, by rw [H0.out.1]; exact O4.out, B4.out⟩

end Go.Proofs.Ythnbimfdodfhoaa
