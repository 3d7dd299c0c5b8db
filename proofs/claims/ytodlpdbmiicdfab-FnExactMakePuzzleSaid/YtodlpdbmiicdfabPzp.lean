/- Chapter 9: the model's MakePuzzle. -/
import Derived.Test.YtodlpdbmiicdfabPzo
namespace Go.Proofs.Ytodlpdbmiicdfab
open Go.ChangeShapes Go.WideShapes Go.ChangeAt Go.RowKit
open Pz

namespace Pz
/-- the clues that are made from here on -/
def makeL (l : List Bool) : Nat → Nat → List RClue
  | _, 0 => []
  | z, m + 1 => clueOf (nextZ z % 5) (nextZ (nextZ z)) l :: makeL l (nextZ (nextZ z)) m
theorem makeL_len (l : List Bool) : ∀ m z, (makeL l z m).length = m
  | 0, _ => rfl
  | m + 1, z => by rw [makeL, List.length_cons, makeL_len l m]
open Classical in
/-- the row that a text is -/
noncomputable def rowOf (s : ByteArray) : List Bool := if h : ∃ l, s = Rw.str l then h.choose else []
theorem rowOf_str {s : ByteArray} (h : ∃ l, s = Rw.str l) : s = Rw.str (rowOf s) := by
  unfold rowOf; rw [dif_pos h]; exact h.choose_spec
end Pz

/-- both boxes, and the clues made so far -/
def KM (w wr : World) (n : Nat) (v : Value) (ps : List RClue) : Prop :=
  Below w.heap.size w wr ∧ Blk wr w.heap.size 31 [.int .i64 0, .slice none 0 0] ∧ Blk wr (w.heap.size + 1) 31 [.int .i64 (n : Int), v] ∧ OwnClue wr (w.heap.size + 2) v ps ∧ w.heap.size + 2 ≤ wr.heap.size
theorem KM.more {w wr w2 : World} {n : Nat} {v : Value} {ps : List RClue} (h : KM w wr n v ps) (b : Below wr.heap.size wr w2) : KM w w2 n v ps :=
  ⟨h.1.trans (b.mono h.1.size), h.2.1.below b h.2.1.lt, h.2.2.1.below b h.2.2.1.lt, h.2.2.2.1.below b (Nat.le_refl _), Nat.le_trans h.2.2.2.2 b.size⟩
theorem KM.p0 {w wr : World} {n : Nat} {v : Value} {ps : List RClue} (h : KM w wr n v ps) : wr.cell? ⟨w.heap.size + 1, 0, none⟩ = some (.int .i64 (n : Int)) := h.2.2.1.cell 0
theorem KM.p1 {w wr : World} {n : Nat} {v : Value} {ps : List RClue} (h : KM w wr n v ps) : wr.cell? ⟨w.heap.size + 1, 1, none⟩ = some v := h.2.2.1.cell 1
theorem KM.q1 {w wr : World} {n : Nat} {v : Value} {ps : List RClue} (h : KM w wr n v ps) : wr.frozen? ⟨w.heap.size + 1, 1, none⟩ = false := h.2.2.1.free 1
theorem KM.r0 {w wr : World} {n : Nat} {v : Value} {ps : List RClue} (h : KM w wr n v ps) : wr.cell? ⟨w.heap.size, 0, none⟩ = some (.int .i64 0) := h.2.1.cell 0
theorem KM.r1 {w wr : World} {n : Nat} {v : Value} {ps : List RClue} (h : KM w wr n v ps) : wr.cell? ⟨w.heap.size, 1, none⟩ = some (.slice none 0 0) := h.2.1.cell 1
theorem KM.f0 {w wr : World} {n : Nat} {v : Value} {ps : List RClue} (h : KM w wr n v ps) : wr.frozen? ⟨w.heap.size, 0, none⟩ = false := h.2.1.free 0
theorem KM.f1 {w wr : World} {n : Nat} {v : Value} {ps : List RClue} (h : KM w wr n v ps) : wr.frozen? ⟨w.heap.size, 1, none⟩ = false := h.2.1.free 1
/-- an append, and the store of what it gave -/
theorem KM.put {w wr w2 : World} {n : Nat} {v v2 : Value} {ps qs : List RClue} (h : KM w wr n v ps) (o : OwnClue w2 (w.heap.size + 2) v2 qs) (b : Below (w.heap.size + 2) wr w2) :
    KM w (w2.setCell ⟨w.heap.size + 1, 1, none⟩ v2) n v2 qs := by
  have h1 := h.2.1.below b (by omega)
  have h2 := h.2.2.1.below b (by omega)
  refine ⟨?_, ?_, ?_, ?_, ?_⟩
  · exact (h.1.trans (b.mono (by omega))).setCell (by show w.heap.size ≤ w.heap.size + 1; omega) _
  · exact h1.grown (set_grown w2 _ 1 _) (fun e => by have := Option.some.inj e; omega)
  · exact h2.set 1 v2
  · exact ownZ_set o (by omega) 1 v2
  · have := b.size; have := h.2.2.2.2
    simp [World.setCell]; omega

noncomputable def okMakePuzzle (s : ByteArray) (m z : Int) : Bool := hidB s && (inB m 0 6 && inB z 0 9999)
noncomputable def outMakePuzzle_0 (s : ByteArray) (m z : Int) : Int := if okMakePuzzle s m z then s.size else 0
noncomputable def outMakePuzzle_1 (s : ByteArray) (m z : Int) : List RClue := if okMakePuzzle s m z then makeL (rowOf s) z.toNat m.toNat else []
noncomputable def outMakePuzzle_2 (s : ByteArray) (m z : Int) : Bool := okMakePuzzle s m z
theorem lenMakePuzzle_1 (s : ByteArray) (m z : Int) : (outMakePuzzle_1 s m z).length ≤ 1048576 := by
  unfold outMakePuzzle_1
  split
  · rename_i h
    unfold okMakePuzzle at h
    rw [Bool.and_eq_true, Bool.and_eq_true] at h
    have := inB_yes h.2.1
    rw [makeL_len]; omega
  · simp
set_option maxHeartbeats 4000000 in
set_option maxRecDepth 20000 in
theorem specMakePuzzle_any (w : World) (s : ByteArray) (m z : Int) (hs : s.size ≤ maxLen) :
    Calls Try.prog 24 #[.string s, .int .i64 m, .int .i64 z] w fun e w' => ∃ v0, e = .returned (.tuple #[.agg #[.int .i64 (outMakePuzzle_0 s m z), v0], .bool (outMakePuzzle_2 s m z)]) ∧ OwnClue w' w.heap.size v0 (outMakePuzzle_1 s m z) ∧ Below w.heap.size w w' := by
  have HH := Lib.hid (fun w2 => pzHidden_any s w2 hs)
  have HI1 := Lib.hid (fun w2 => l1In_any m 0 6 w2)
  have HI2 := Lib.hid (fun w2 => l1In_any z 0 9999 w2)
  have HF : okMakePuzzle s m z = false → Hid (outMakePuzzle_0 s m z = 0 ∧ outMakePuzzle_1 s m z = [] ∧ outMakePuzzle_2 s m z = false) := fun h => Lib.hid (by unfold outMakePuzzle_0 outMakePuzzle_1 outMakePuzzle_2; rw [h]; exact ⟨rfl, rfl, rfl⟩)
  obtain ⟨w1, hw1⟩ : ∃ w1, w1 = w.alloc (.cells #[.int .i64 0, .slice none 0 0] 31) := ⟨_, rfl⟩
  have HB1 : Hid (Below w.heap.size w w1) := Lib.hid (by rw [hw1]; exact (Below.refl _ _).alloc (Nat.le_refl _) _)
  have HK1 : Hid (Blk w1 w.heap.size 31 [.int .i64 0, .slice none 0 0]) := Lib.hid (by rw [hw1]; exact heap_alloc_new w _)
  have HZ1 : Hid (w1.heap.size = w.heap.size + 1) := Lib.hid (by rw [hw1]; exact pz_size1 _ _)
  have r0 : w1.cell? ⟨w.heap.size, 0, none⟩ = some (.int .i64 0) := HK1.out.cell 0
  have r1 : w1.cell? ⟨w.heap.size, 1, none⟩ = some (.slice none 0 0) := HK1.out.cell 1
  have f0 := HK1.out.free 0
  have f1 := HK1.out.free 1
  rcases hb : hidB s with _ | _
  · have HE := HF (by unfold okMakePuzzle; rw [hb]; rfl)
    rw [hb] at HH
    clear hb HF
    go_enter Try.func24, Try.ntmps24
    go_wp2_with fail
    rw [← hw1]
    clear hw1
    go_at_call 43
    refine (HH.out _).mono ?_
    rintro e ww ⟨rfl, rfl⟩
    go_wp2
    (try simp only [Exit.inBlock, Exit.then])
    refine bodyPost_ret (results_cellZ rfl _ _ w.heap.size 0 (.slice none 0 0) rfl rfl (setZ0 r0 r1) (setZ1 r0 r1)) rfl ?_
    exact ⟨.slice none 0 0, by rw [HE.out.1, HE.out.2.2]; exact rfl, by rw [HE.out.2.1]; exact ownClue_nil _ _, HB1.out.setCell (Nat.le_refl _) _ |>.setCell (Nat.le_refl _) _⟩
  rcases hb1 : inB m 0 6 with _ | _
  · have HE := HF (by unfold okMakePuzzle; rw [hb1]; simp)
    rw [hb] at HH
    rw [hb1] at HI1
    clear hb hb1 HF
    go_enter Try.func24, Try.ntmps24
    go_wp2_with fail
    rw [← hw1]
    clear hw1
    go_at_call 43
    refine (HH.out _).mono ?_
    rintro e ww ⟨rfl, rfl⟩
    go_wp2_with fail
    go_at_call 44
    refine (HI1.out _).mono ?_
    rintro e ww ⟨rfl, rfl⟩
    go_wp2
    (try simp only [Exit.inBlock, Exit.then])
    refine bodyPost_ret (results_cellZ rfl _ _ w.heap.size 0 (.slice none 0 0) rfl rfl (setZ0 r0 r1) (setZ1 r0 r1)) rfl ?_
    exact ⟨.slice none 0 0, by rw [HE.out.1, HE.out.2.2]; exact rfl, by rw [HE.out.2.1]; exact ownClue_nil _ _, HB1.out.setCell (Nat.le_refl _) _ |>.setCell (Nat.le_refl _) _⟩
  rcases hb2 : inB z 0 9999 with _ | _
  · have HE := HF (by unfold okMakePuzzle; rw [hb2]; simp)
    rw [hb] at HH
    rw [hb1] at HI1
    rw [hb2] at HI2
    clear hb hb1 hb2 HF
    go_enter Try.func24, Try.ntmps24
    go_wp2_with fail
    rw [← hw1]
    clear hw1
    go_at_call 43
    refine (HH.out _).mono ?_
    rintro e ww ⟨rfl, rfl⟩
    go_wp2_with fail
    go_at_call 44
    refine (HI1.out _).mono ?_
    rintro e ww ⟨rfl, rfl⟩
    go_wp2_with fail
    go_at_call 44
    refine (HI2.out _).mono ?_
    rintro e ww ⟨rfl, rfl⟩
    go_wp2
    (try simp only [Exit.inBlock, Exit.then])
    refine bodyPost_ret (results_cellZ rfl _ _ w.heap.size 0 (.slice none 0 0) rfl rfl (setZ0 r0 r1) (setZ1 r0 r1)) rfl ?_
    exact ⟨.slice none 0 0, by rw [HE.out.1, HE.out.2.2]; exact rfl, by rw [HE.out.2.1]; exact ownClue_nil _ _, HB1.out.setCell (Nat.le_refl _) _ |>.setCell (Nat.le_refl _) _⟩
  have HE : Hid (outMakePuzzle_0 s m z = s.size ∧ outMakePuzzle_1 s m z = makeL (rowOf s) z.toNat m.toNat ∧ outMakePuzzle_2 s m z = true) := Lib.hid (by
    have h : okMakePuzzle s m z = true := by unfold okMakePuzzle; rw [hb, hb1, hb2]; rfl
    unfold outMakePuzzle_0 outMakePuzzle_1 outMakePuzzle_2; rw [h]; exact ⟨rfl, rfl, rfl⟩)
  obtain ⟨l0, hl0, _⟩ := hid_row hb
  have hrow := rowOf_str ⟨l0, hl0⟩
  have hsz : s.size = (rowOf s).length := by rw [hrow, Rw.size_str, ← hrow]
  obtain ⟨hq1, hq2⟩ : 1 ≤ (rowOf s).length ∧ (rowOf s).length ≤ 8 := by
    obtain ⟨l1, h1, h2, h3⟩ := hid_row hb
    have : s.size = l1.length := by rw [h1, Rw.size_str]
    omega
  clear hl0
  obtain ⟨l, hl⟩ : ∃ l, l = rowOf s := ⟨_, rfl⟩
  rw [← hl] at hrow hsz hq1 hq2 HE
  clear hl
  obtain ⟨M, rfl⟩ : ∃ M : Nat, m = (M : Int) := ⟨m.toNat, by have := inB_yes hb1; omega⟩
  obtain ⟨S, rfl⟩ : ∃ S : Nat, z = (S : Int) := ⟨z.toNat, by have := inB_yes hb2; omega⟩
  have hM : M ≤ 6 := by have := inB_yes hb1; omega
  have hS : S ≤ 100000 := by have := inB_yes hb2; omega
  have HML : Hid ((makeL l (S : Int).toNat (M : Int).toNat) = makeL l S M) := Lib.hid rfl
  rw [HML.out] at HE
  have HPO := Lib.hid (fun k y (h4 : k ≤ 4) (hy : y ≤ 100000) w2 => pzOf_any k y l hq1 hq2 h4 hy w2)
  rw [← hrow] at HPO
  obtain ⟨n, hn⟩ : ∃ n, n = s.size := ⟨_, rfl⟩
  have HE2 := HE
  rw [← hn] at HE2
  have hsi : (s.size : Int) = (n : Int) := by rw [hn]
  rw [hb] at HH
  rw [hb1] at HI1
  rw [hb2] at HI2
  obtain ⟨w2, hw2⟩ : ∃ w2, w2 = w1.alloc (.cells #[.int .i64 (n : Int), .slice none 0 0] 31) := ⟨_, rfl⟩
  have HK2 : Hid (KM w w2 n (.slice none 0 0) []) := Lib.hid (by
    have hbb : Below w1.heap.size w1 w2 := by rw [hw2]; exact (Below.refl _ _).alloc (Nat.le_refl _) _
    refine ⟨HB1.out.trans (hbb.mono HB1.out.size), HK1.out.below hbb HK1.out.lt, ?_, ownClue_nil _ _, ?_⟩
    · rw [← HZ1.out, hw2]; exact heap_alloc_new w1 _
    · rw [hw2, pz_size1, HZ1.out]; exact Nat.le_refl _)
  clear hb hb1 hb2 HF hn hrow hsz HE HML
  have hz1 := HZ1.out
  go_enter Try.func24, Try.ntmps24
  go_wp2_with fail
  rw [← hw1]
  clear hw1
  go_at_call 43
  refine (HH.out _).mono ?_
  rintro e ww ⟨rfl, rfl⟩
  go_wp2_with fail
  go_at_call 44
  refine (HI1.out _).mono ?_
  rintro e ww ⟨rfl, rfl⟩
  go_wp2_with fail
  go_at_call 44
  refine (HI2.out _).mono ?_
  rintro e ww ⟨rfl, rfl⟩
  go_wp2
  rw [← hw2]
  clear hw2 r0 r1 f0 f1
  go_loopw [1, 9] (fun c x wr => ∃ (k y : Nat) (v : Value) (ps : List RClue), c = .int .i64 (k : Int) ∧ x = .int .i64 (y : Int) ∧ y ≤ 100000 ∧ ps.length + k ≤ 6 ∧ Hid (ps ++ makeL l y k = makeL l S M) ∧ Hid (KM w wr n v ps)) (fun c _ _ => (intOf c).toNat)
  case atStart => exact ⟨M, S, _, [], rfl, rfl, hS, by simpa using hM, Lib.hid rfl, HK2⟩
  case round =>
    obtain ⟨k, y, v, ps, rfl, rfl, hy, hps, HL, HK⟩ := hrel
    obtain ⟨ao, cp, rfl⟩ := HK.out.2.2.2.1.any
    obtain ⟨q, hq⟩ : ∃ q, q = ps.length := ⟨_, rfl⟩
    have HQ := Lib.hid hq
    rw [← hq] at hps HK
    clear hq
    rcases k with _ | k
    · have HF : Hid (ps = makeL l S M) := Lib.hid (by have h := HL.out; rwa [makeL, List.append_nil] at h)
      have p0 := HK.out.p0
      have p1 := HK.out.p1
      have r0 := HK.out.r0
      have r1 := HK.out.r1
      have f0 := HK.out.f0
      have f1 := HK.out.f1
      go_wp2
      (try simp only [Exit.inBlock, Exit.then])
      refine bodyPost_ret (results_cellZ rfl _ _ w.heap.size (n : Int) (.slice ao q cp) rfl rfl (setZ0 r0 r1) (setZ1 r0 r1)) rfl ?_
      refine ⟨.slice ao q cp, by rw [HE2.out.1, HE2.out.2.2]; exact rfl, ?_, HK.out.1.setCell (Nat.le_refl _) _ |>.setCell (Nat.le_refl _) _⟩
      rw [HE2.out.2.1, ← HF.out]
      exact (ownZ_set (ownZ_set HK.out.2.2.2.1 (by omega) 0 _) (by omega) 1 _).mono (by omega)
    · have HN1 := Lib.hid (pzNext_any y hy wr)
      have h1 := nextZ_lt y
      have HN2 := Lib.hid (pzNext_any (nextZ y) (by omega) wr)
      have h2 := nextZ_lt (nextZ y)
      obtain ⟨y1, hy1⟩ : ∃ a, a = nextZ y := ⟨_, rfl⟩
      obtain ⟨y2, hy2⟩ : ∃ a, a = nextZ (nextZ y) := ⟨_, rfl⟩
      have HL2 : Hid ((ps ++ [clueOf (y1 % 5) y2 l]) ++ makeL l y2 k = makeL l S M) := Lib.hid (by
        rw [← HL.out, List.append_assoc, makeL, hy1, hy2]; rfl)
      rw [← hy2] at h2 HN2
      rw [← hy1] at h1 HN1 HN2
      clear hy1 hy2
      obtain ⟨d, hd⟩ : ∃ d, d = y1 % 5 := ⟨_, rfl⟩
      have hd4 : d ≤ 4 := by omega
      have hde : (y1 : Int) % 5 = (d : Int) := by omega
      rw [← hd] at HL2
      clear hd
      have HP1 := Lib.hid (HPO.out d y2 hd4 (by omega) wr.drew)
      obtain ⟨cl, hcl⟩ : ∃ c, c = clueOf d y2 l := ⟨_, rfl⟩
      rw [← hcl] at HP1 HL2
      clear hcl
      obtain ⟨x0, x1, x2, x3⟩ := cl
      have HKD : Hid (KM w wr.drew n (.slice ao q cp) ps) := Lib.hid (HK.out.more (drewN_down wr 1))
      have HP : Hid (Calls Try.prog 46 #[.int .i64 (d : Int), .int .i64 (y2 : Int), .string s] wr.drew fun e w5 => e = .returned (.agg #[.int .i64 x0, .int .i64 x1, .int .i64 x2, .int .i64 x3]) ∧ KM w w5 n (.slice ao q cp) ps ∧ KM w (w5.alloc (.cells #[.int .i64 x0, .int .i64 x1, .int .i64 x2, .int .i64 x3] 64)) n (.slice ao q cp) ps) := Lib.hid (HP1.out.mono (by
        rintro e w5 ⟨rfl, b5⟩
        exact ⟨rfl, HKD.out.more b5, (HKD.out.more b5).more ((Below.refl _ _).alloc (Nat.le_refl _) _)⟩))
      have cd := HKD.out.p1
      have cr := HK.out.p1
      have i0 : (0 : Int) < ((k + 1 : Nat) : Int) := by omega
      have hlen : ps.length + 1 ≤ 1000000000 := by rw [← HQ.out]; omega
      clear HP1
      go_wp2_with fail
      go_at_call 45
      refine HN1.out.mono ?_
      rintro e ww ⟨rfl, rfl⟩
      go_wp2_with fail
      go_at_call 45
      refine HN2.out.mono ?_
      rintro e ww ⟨rfl, rfl⟩
      go_wp2_with fail
      go_region_law (first
        | (refine step_appClue rfl _ _ rfl (w.heap.size + 2) _ ps [(x0, x1, x2, x3)] _ _ _ rfl rfl k6.2.2.2.1 rfl (src_oneC (w := w5) x0 x1 x2 x3 rfl) k6.2.2.2.2 hlen ?_; intro v7 w7 hO7 hB7 hG7; obtain ⟨ao7, cp7, hv7⟩ := hO7.any; obtain ⟨q7, hq7⟩ : ∃ q, q = (ps ++ [((x0, x1, x2, x3) : RClue)]).length := ⟨_, rfl⟩; rw [← hq7] at hv7; subst hv7; have HQ7 := Lib.hid hq7; clear hq7; have k8 := k6.put hO7 hB7; have s1 : w7.cell? ⟨w.heap.size + 1, 1, none⟩ = some (.slice ao q cp) := (k6.2.2.1.below hB7 (by omega)).cell 1; have s2 := (k6.2.2.1.below hB7 (by omega)).free 1)
        | (go_simp; refine HP.out.mono ?_; rintro e w5 ⟨rfl, k5, k6⟩; have c5 := k5.p1; have c6 := k6.p1; dsimp only))
      all_goals
        have HK8 : Hid (KM w (w7.setCell ⟨w.heap.size + 1, 1, none⟩ (.slice ao7 q7 cp7)) n (.slice ao7 q7 cp7) (ps ++ [(x0, x1, x2, x3)])) := Lib.hid k8
        clear k5 k6 k8 hO7 hB7 hG7 c5 c6 s1 s2
        go_wp2
        go_roundw
        case rel => exact ⟨k, y2, .slice ao7 q7 cp7, ps ++ [(x0, x1, x2, x3)], by go_num, rfl, by omega, by rw [List.length_append, ← HQ.out]; simp; omega, HL2, HK8⟩
        case measure => simp [intOf]

end Go.Proofs.Ytodlpdbmiicdfab
