/- Chapter 9, the program: MakePuzzle. -/
import Derived.Test.YtodlpdbmiicdfabZt
import Derived.Test.YtodlpdbmiicdfabZk
import Derived.Test.YtodlpdbmiicdfabPzp
import Derived.Deep.RegionLaw
namespace Go.Proofs.Ytodlpdbmiicdfab
open Go.ChangeShapes Go.WideShapes Go.ChangeAt Go.RowKit
open Pz

/-- the three boxes (the result, the number, the puzzle), and the clues made so far -/
def KN (w wr : World) (n y : Nat) (v : Value) (ps : List RClue) : Prop :=
  Below w.heap.size w wr ∧ Blk wr w.heap.size 31 [.int .i64 0, .slice none 0 0] ∧ Blk wr (w.heap.size + 1) 3 [.int .i64 (y : Int)] ∧ Blk wr (w.heap.size + 2) 31 [.int .i64 (n : Int), v] ∧ OwnClue wr (w.heap.size + 3) v ps ∧ w.heap.size + 3 ≤ wr.heap.size
theorem KN.more {w wr w2 : World} {n y : Nat} {v : Value} {ps : List RClue} (h : KN w wr n y v ps) (b : Below wr.heap.size wr w2) : KN w w2 n y v ps :=
  ⟨h.1.trans (b.mono h.1.size), h.2.1.below b h.2.1.lt, h.2.2.1.below b h.2.2.1.lt, h.2.2.2.1.below b h.2.2.2.1.lt, h.2.2.2.2.1.below b (Nat.le_refl _), Nat.le_trans h.2.2.2.2.2 b.size⟩
theorem KN.p0 {w wr : World} {n y : Nat} {v : Value} {ps : List RClue} (h : KN w wr n y v ps) : wr.cell? ⟨w.heap.size + 2, 0, none⟩ = some (.int .i64 (n : Int)) := h.2.2.2.1.cell 0
theorem KN.p1 {w wr : World} {n y : Nat} {v : Value} {ps : List RClue} (h : KN w wr n y v ps) : wr.cell? ⟨w.heap.size + 2, 1, none⟩ = some v := h.2.2.2.1.cell 1
theorem KN.z0 {w wr : World} {n y : Nat} {v : Value} {ps : List RClue} (h : KN w wr n y v ps) : wr.cell? ⟨w.heap.size + 1, 0, none⟩ = some (.int .i64 (y : Int)) := h.2.2.1.cell 0
theorem KN.g0 {w wr : World} {n y : Nat} {v : Value} {ps : List RClue} (h : KN w wr n y v ps) : wr.frozen? ⟨w.heap.size + 1, 0, none⟩ = false := h.2.2.1.free 0
theorem KN.r0 {w wr : World} {n y : Nat} {v : Value} {ps : List RClue} (h : KN w wr n y v ps) : wr.cell? ⟨w.heap.size, 0, none⟩ = some (.int .i64 0) := h.2.1.cell 0
theorem KN.r1 {w wr : World} {n y : Nat} {v : Value} {ps : List RClue} (h : KN w wr n y v ps) : wr.cell? ⟨w.heap.size, 1, none⟩ = some (.slice none 0 0) := h.2.1.cell 1
theorem KN.f0 {w wr : World} {n y : Nat} {v : Value} {ps : List RClue} (h : KN w wr n y v ps) : wr.frozen? ⟨w.heap.size, 0, none⟩ = false := h.2.1.free 0
theorem KN.f1 {w wr : World} {n y : Nat} {v : Value} {ps : List RClue} (h : KN w wr n y v ps) : wr.frozen? ⟨w.heap.size, 1, none⟩ = false := h.2.1.free 1
/-- the next number -/
theorem KN.next {w wr : World} {n y : Nat} {v : Value} {ps : List RClue} (h : KN w wr n y v ps) (x : Nat) : KN w (wr.setCell ⟨w.heap.size + 1, 0, none⟩ (.int .i64 (x : Int))) n x v ps := by
  refine ⟨h.1.setCell (by show w.heap.size ≤ w.heap.size + 1; omega) _, ?_, h.2.2.1.set 0 _, ?_, ownZ_set h.2.2.2.2.1 (by omega) 0 _, by have := h.2.2.2.2.2; simpa [World.setCell] using this⟩
  · exact h.2.1.grown (set_grown wr _ 0 _) (fun e => by have := Option.some.inj e; omega)
  · exact h.2.2.2.1.grown (set_grown wr _ 0 _) (fun e => by have := Option.some.inj e; omega)
/-- an append, and the store of what it gave -/
theorem KN.put {w wr w2 : World} {n y : Nat} {v v2 : Value} {ps qs : List RClue} (h : KN w wr n y v ps) (o : OwnClue w2 (w.heap.size + 3) v2 qs) (b : Below (w.heap.size + 3) wr w2) :
    KN w (w2.setCell ⟨w.heap.size + 2, 1, none⟩ v2) n y v2 qs := by
  have h1 := h.2.1.below b (by omega)
  have h2 := h.2.2.1.below b (by omega)
  have h3 := h.2.2.2.1.below b (by omega)
  refine ⟨?_, ?_, ?_, h3.set 1 v2, ownZ_set o (by omega) 1 v2, ?_⟩
  · exact (h.1.trans (b.mono (by omega))).setCell (by show w.heap.size ≤ w.heap.size + 2; omega) _
  · exact h1.grown (set_grown w2 _ 1 _) (fun e => by have := Option.some.inj e; omega)
  · exact h2.grown (set_grown w2 _ 1 _) (fun e => by have := Option.some.inj e; omega)
  · have := b.size; have := h.2.2.2.2.2
    simp [World.setCell]; omega
set_option maxHeartbeats 1000000 in
theorem next_any (w wr : World) (n y : Nat) (v : Value) (ps : List RClue) (hy : y ≤ 100000) (h : KN w wr n y v ps) :
    Calls Try.prog 50 #[.pointer (some ⟨w.heap.size + 1, 0, none⟩)] wr fun e w' => e = .returned (.int .i64 (nextZ y : Nat)) ∧ KN w w' n (nextZ y) v ps := by
  have HE : Hid (((y : Int) * 223 + 2161) % 10007 = ((nextZ y : Nat) : Int)) := Lib.hid (by unfold nextZ; omega)
  have HK := Lib.hid (h.next (nextZ y))
  have z0 := h.z0
  have g0 := h.g0
  obtain ⟨x, hx⟩ : ∃ x, x = nextZ y := ⟨_, rfl⟩
  rw [← hx] at HE HK ⊢
  have he := HE.out
  clear h hx
  go_enter Try.func50, Try.ntmps50
  go_wp2
  go_ret
  exact ⟨rfl, HK.out⟩
set_option maxHeartbeats 8000000 in
set_option maxRecDepth 20000 in
theorem implMakePuzzle_any (w : World) (s : ByteArray) (m z : Int) (hs : s.size ≤ maxLen) :
    Calls Try.prog 25 #[.string s, .int .i64 m, .int .i64 z] w fun e w' => ∃ v0, e = .returned (.tuple #[.agg #[.int .i64 (outMakePuzzle_0 s m z), v0], .bool (outMakePuzzle_2 s m z)]) ∧ OwnClue w' w.heap.size v0 (outMakePuzzle_1 s m z) ∧ Below w.heap.size w w' := by
  have hmf : ∀ (fn : Fn) (first cap : Array Value) (w : World), (Instr.makeFunc fn first cap).run Try.prog w = .ok (.func fn first cap) w := fun _ _ _ _ => rfl
  have HMF := Lib.hid hmf
  clear hmf
  have HH := Lib.hid (fun w2 => Tp.isRow_any s w2 hs)
  have HC := Lib.hid (fun w2 => isHidden_any (s.size : Int) w2)
  have HI1 := Lib.hid (fun w2 => isUpTo_any 6 m w2)
  have HI2 := Lib.hid (fun w2 => isUpTo_any 9999 z w2)
  have HF : okMakePuzzle s m z = false → Hid (outMakePuzzle_0 s m z = 0 ∧ outMakePuzzle_1 s m z = [] ∧ outMakePuzzle_2 s m z = false) := fun h => Lib.hid (by unfold outMakePuzzle_0 outMakePuzzle_1 outMakePuzzle_2; rw [h]; exact ⟨rfl, rfl, rfl⟩)
  obtain ⟨w1, hw1⟩ : ∃ w1, w1 = w.alloc (.cells #[.int .i64 0, .slice none 0 0] 31) := ⟨_, rfl⟩
  have HB1 : Hid (Below w.heap.size w w1) := Lib.hid (by rw [hw1]; exact (Below.refl _ _).alloc (Nat.le_refl _) _)
  have HK1 : Hid (Blk w1 w.heap.size 31 [.int .i64 0, .slice none 0 0]) := Lib.hid (by rw [hw1]; exact heap_alloc_new w _)
  have HZ1 : Hid (w1.heap.size = w.heap.size + 1) := Lib.hid (by rw [hw1]; exact pz_size1 _ _)
  have r0 : w1.cell? ⟨w.heap.size, 0, none⟩ = some (.int .i64 0) := HK1.out.cell 0
  have r1 : w1.cell? ⟨w.heap.size, 1, none⟩ = some (.slice none 0 0) := HK1.out.cell 1
  have f0 := HK1.out.free 0
  have f1 := HK1.out.free 1
  rcases hb : Rx.goodB s with _ | _
  · have HE := HF (by unfold okMakePuzzle hidB; rw [hb]; rfl)
    rw [hb] at HH
    clear hb HF
    go_enter Try.func25, Try.ntmps25
    go_wp2_with fail
    rw [← hw1]
    clear hw1
    go_at_call 47
    refine (HH.out _).mono ?_
    rintro e ww ⟨rfl, rfl⟩
    go_wp2
    (try simp only [Exit.inBlock, Exit.then])
    refine bodyPost_ret (results_cellZ rfl _ _ w.heap.size 0 (.slice none 0 0) rfl rfl (setZ0 r0 r1) (setZ1 r0 r1)) rfl ?_
    exact ⟨.slice none 0 0, by rw [HE.out.1, HE.out.2.2]; exact rfl, by rw [HE.out.2.1]; exact ownClue_nil _ _, HB1.out.setCell (Nat.le_refl _) _ |>.setCell (Nat.le_refl _) _⟩
  rcases hb0 : inB (s.size : Int) 1 8 with _ | _
  · have HE := HF (by
      have h : hidB s = false := by
        unfold hidB; rw [hb, Bool.true_and]
        have h1 := inB_not hb0
        obtain ⟨l, rfl, h2, _⟩ := Rx.goodB_row hb
        rw [Rw.size_str] at h1 ⊢
        rw [decide_eq_false_iff_not]; omega
      unfold okMakePuzzle; rw [h]; rfl)
    rw [hb] at HH
    rw [hb0] at HC
    clear hb hb0 HF
    go_enter Try.func25, Try.ntmps25
    go_wp2_with fail
    rw [← hw1]
    clear hw1
    go_at_call 47
    refine (HH.out _).mono ?_
    rintro e ww ⟨rfl, rfl⟩
    go_wp2_with fail
    go_at_call 48
    refine (HC.out _).mono ?_
    rintro e ww ⟨rfl, rfl⟩
    go_wp2
    (try simp only [Exit.inBlock, Exit.then])
    refine bodyPost_ret (results_cellZ rfl _ _ w.heap.size 0 (.slice none 0 0) rfl rfl (setZ0 r0 r1) (setZ1 r0 r1)) rfl ?_
    exact ⟨.slice none 0 0, by rw [HE.out.1, HE.out.2.2]; exact rfl, by rw [HE.out.2.1]; exact ownClue_nil _ _, HB1.out.setCell (Nat.le_refl _) _ |>.setCell (Nat.le_refl _) _⟩
  have hhid : hidB s = true := by
    unfold hidB; rw [hb, decide_eq_true (by have := inB_yes hb0; omega)]; rfl
  rcases hb1 : inB m 0 6 with _ | _
  · have HE := HF (by unfold okMakePuzzle; rw [hb1]; simp)
    rw [hb] at HH
    rw [hb0] at HC
    rw [hb1] at HI1
    clear hb hb0 hb1 HF hhid
    go_enter Try.func25, Try.ntmps25
    go_wp2_with fail
    rw [← hw1]
    clear hw1
    go_at_call 47
    refine (HH.out _).mono ?_
    rintro e ww ⟨rfl, rfl⟩
    go_wp2_with fail
    go_at_call 48
    refine (HC.out _).mono ?_
    rintro e ww ⟨rfl, rfl⟩
    go_wp2_with fail
    go_at_call 49
    refine (HI1.out _).mono ?_
    rintro e ww ⟨rfl, rfl⟩
    go_wp2
    (try simp only [Exit.inBlock, Exit.then])
    refine bodyPost_ret (results_cellZ rfl _ _ w.heap.size 0 (.slice none 0 0) rfl rfl (setZ0 r0 r1) (setZ1 r0 r1)) rfl ?_
    exact ⟨.slice none 0 0, by rw [HE.out.1, HE.out.2.2]; exact rfl, by rw [HE.out.2.1]; exact ownClue_nil _ _, HB1.out.setCell (Nat.le_refl _) _ |>.setCell (Nat.le_refl _) _⟩
  rcases hb2 : inB z 0 9999 with _ | _
  · have HE := HF (by unfold okMakePuzzle; rw [hb2]; simp)
    rw [hb] at HH
    rw [hb0] at HC
    rw [hb1] at HI1
    rw [hb2] at HI2
    clear hb hb0 hb1 hb2 HF hhid
    go_enter Try.func25, Try.ntmps25
    go_wp2_with fail
    rw [← hw1]
    clear hw1
    go_at_call 47
    refine (HH.out _).mono ?_
    rintro e ww ⟨rfl, rfl⟩
    go_wp2_with fail
    go_at_call 48
    refine (HC.out _).mono ?_
    rintro e ww ⟨rfl, rfl⟩
    go_wp2_with fail
    go_at_call 49
    refine (HI1.out _).mono ?_
    rintro e ww ⟨rfl, rfl⟩
    go_wp2_with fail
    go_at_call 49
    refine (HI2.out _).mono ?_
    rintro e ww ⟨rfl, rfl⟩
    go_wp2
    (try simp only [Exit.inBlock, Exit.then])
    refine bodyPost_ret (results_cellZ rfl _ _ w.heap.size 0 (.slice none 0 0) rfl rfl (setZ0 r0 r1) (setZ1 r0 r1)) rfl ?_
    exact ⟨.slice none 0 0, by rw [HE.out.1, HE.out.2.2]; exact rfl, by rw [HE.out.2.1]; exact ownClue_nil _ _, HB1.out.setCell (Nat.le_refl _) _ |>.setCell (Nat.le_refl _) _⟩
  have HE : Hid (outMakePuzzle_0 s m z = s.size ∧ outMakePuzzle_1 s m z = makeL (rowOf s) z.toNat m.toNat ∧ outMakePuzzle_2 s m z = true) := Lib.hid (by
    have h : okMakePuzzle s m z = true := by unfold okMakePuzzle; rw [hhid, hb1, hb2]; rfl
    unfold outMakePuzzle_0 outMakePuzzle_1 outMakePuzzle_2; rw [h]; exact ⟨rfl, rfl, rfl⟩)
  obtain ⟨l0, hl0, _⟩ := hid_row hhid
  have hrow := rowOf_str ⟨l0, hl0⟩
  have hsz : s.size = (rowOf s).length := by rw [hrow, Rw.size_str, ← hrow]
  obtain ⟨hq1, hq2⟩ : 1 ≤ (rowOf s).length ∧ (rowOf s).length ≤ 8 := by
    obtain ⟨l1, h1, h2, h3⟩ := hid_row hhid
    have : s.size = l1.length := by rw [h1, Rw.size_str]
    omega
  clear hl0
  obtain ⟨l, hl⟩ : ∃ l, l = rowOf s := ⟨_, rfl⟩
  rw [← hl] at hrow hsz hq1 hq2 HE
  clear hl
  obtain ⟨M, rfl⟩ : ∃ M : Nat, m = (M : Int) := ⟨m.toNat, by have := inB_yes hb1; omega⟩
  obtain ⟨S, rfl⟩ : ∃ S : Nat, z = (S : Int) := ⟨z.toNat, by have := inB_yes hb2; omega⟩
  have hM : M ≤ 6 := by have := inB_yes hb1; omega
  have hS : S ≤ 100000 := by have := inB_yes hb2; omega
  have HML : Hid ((makeL l (S : Int).toNat (M : Int).toNat) = makeL l S M) := Lib.hid rfl
  rw [HML.out] at HE
  have HPO := Lib.hid (fun k y (h4 : k ≤ 4) (hy : y ≤ 100000) w2 => madeClue_any k y l hq1 hq2 h4 hy w2)
  rw [← hrow] at HPO
  obtain ⟨n, hn⟩ : ∃ n, n = s.size := ⟨_, rfl⟩
  have HE2 := HE
  rw [← hn] at HE2
  have hsi : (s.size : Int) = (n : Int) := by rw [hn]
  rw [hb] at HH
  rw [hb0, hsi] at HC
  rw [hb1] at HI1
  rw [hb2] at HI2
  obtain ⟨w2, hw2⟩ : ∃ w2, w2 = (w1.alloc (.cells #[.int .i64 (S : Int)] 3)).alloc (.cells #[.int .i64 (n : Int), .slice none 0 0] 31) := ⟨_, rfl⟩
  have HK2 : Hid (KN w w2 n S (.slice none 0 0) []) := Lib.hid (by
    have hba : Below w1.heap.size w1 (w1.alloc (.cells #[.int .i64 (S : Int)] 3)) := (Below.refl _ _).alloc (Nat.le_refl _) _
    have hbb : Below (w1.alloc (.cells #[.int .i64 (S : Int)] 3)).heap.size (w1.alloc (.cells #[.int .i64 (S : Int)] 3)) w2 := by rw [hw2]; exact (Below.refl _ _).alloc (Nat.le_refl _) _
    have hbc : Below w1.heap.size w1 w2 := hba.trans (hbb.mono hba.size)
    refine ⟨HB1.out.trans (hbc.mono HB1.out.size), HK1.out.below hbc HK1.out.lt, ?_, ?_, ownClue_nil _ _, ?_⟩
    · rw [← HZ1.out]
      exact (blk_new w1 3 [.int .i64 (S : Int)]).below hbb (Blk.lt (blk_new w1 3 [.int .i64 (S : Int)]))
    · have h := blk_new (w1.alloc (.cells #[.int .i64 (S : Int)] 3)) 31 [.int .i64 (n : Int), .slice none 0 0]
      rw [pz_size1, HZ1.out] at h
      rw [hw2]; exact h
    · rw [hw2, pz_size1, pz_size1, HZ1.out]; exact Nat.le_refl _)
  clear hb hb0 hb1 hb2 HF hn hrow hsz HE HML hhid
  have hz1 := HZ1.out
  have hmf := HMF.out
  go_enter Try.func25, Try.ntmps25
  go_wp2_with fail
  rw [← hw1]
  clear hw1
  go_at_call 47
  refine (HH.out _).mono ?_
  rintro e ww ⟨rfl, rfl⟩
  go_wp2_with fail
  go_at_call 48
  refine (HC.out _).mono ?_
  rintro e ww ⟨rfl, rfl⟩
  go_wp2_with fail
  go_at_call 49
  refine (HI1.out _).mono ?_
  rintro e ww ⟨rfl, rfl⟩
  go_wp2_with fail
  go_at_call 49
  refine (HI2.out _).mono ?_
  rintro e ww ⟨rfl, rfl⟩
  go_wp2
  rw [← hw2]
  clear hw2 r0 r1 f0 f1 hmf
  go_loopw [38] (fun c wr => ∃ (i y : Nat) (v : Value) (ps : List RClue), c = .int .i64 (i : Int) ∧ i ≤ M ∧ y ≤ 100000 ∧ ps.length = i ∧ Hid (ps ++ makeL l y (M - i) = makeL l S M) ∧ Hid (KN w wr n y v ps)) (fun c _ => M - (intOf c).toNat)
  case atStart => exact ⟨0, S, _, [], rfl, Nat.zero_le _, hS, rfl, Lib.hid rfl, HK2⟩
  case round =>
    obtain ⟨i, y, v, ps, rfl, hi, hy, hps, HL, HK⟩ := hrel
    obtain ⟨ao, cp, rfl⟩ := HK.out.2.2.2.2.1.any
    rw [hps] at HK
    have HPS := Lib.hid hps
    clear hps
    by_cases hlt : i < M
    · obtain ⟨k, hk⟩ : ∃ k, M - i = k + 1 := ⟨M - i - 1, by omega⟩
      have HN1 := Lib.hid (next_any w wr n y (.slice ao i cp) ps hy HK.out)
      have h1 := nextZ_lt y
      have HN2 := Lib.hid (fun w5 (h : KN w w5 n (nextZ y) (.slice ao i cp) ps) => next_any w w5 n (nextZ y) (.slice ao i cp) ps (by omega) h)
      have h2 := nextZ_lt (nextZ y)
      obtain ⟨y1, hy1⟩ : ∃ a, a = nextZ y := ⟨_, rfl⟩
      obtain ⟨y2, hy2⟩ : ∃ a, a = nextZ (nextZ y) := ⟨_, rfl⟩
      have HL2 : Hid ((ps ++ [clueOf (y1 % 5) y2 l]) ++ makeL l y2 (M - (i + 1)) = makeL l S M) := Lib.hid (by
        rw [← HL.out, hk, List.append_assoc, makeL, hy1, hy2, show M - (i + 1) = k by omega]; rfl)
      rw [← hy2] at h2 HN2
      rw [← hy1] at h1 HN1 HN2
      clear hy1 hy2 hk
      obtain ⟨d, hd⟩ : ∃ d, d = y1 % 5 := ⟨_, rfl⟩
      have hd4 : d ≤ 4 := by omega
      have hde : (y1 : Int) % 5 = (d : Int) := by omega
      rw [← hd] at HL2
      clear hd
      have HP1 := Lib.hid (fun w5 => HPO.out d y2 hd4 (by omega) w5)
      obtain ⟨cl, hcl⟩ : ∃ c, c = clueOf d y2 l := ⟨_, rfl⟩
      rw [← hcl] at HP1 HL2
      clear hcl
      obtain ⟨x0, x1, x2, x3⟩ := cl
      have HP := Lib.hid (fun w4 (k4 : KN w w4 n y2 (.slice ao i cp) ps) => show Calls Try.prog 51 #[.string s, .int .i64 (d : Int), .int .i64 (y2 : Int)] w4 (fun e w5 => e = .returned (.agg #[.int .i64 x0, .int .i64 x1, .int .i64 x2, .int .i64 x3]) ∧ KN w w5 n y2 (.slice ao i cp) ps ∧ KN w (w5.alloc (.cells #[.int .i64 x0, .int .i64 x1, .int .i64 x2, .int .i64 x3] 64)) n y2 (.slice ao i cp) ps) from (HP1.out w4).mono (by
        rintro e w5 ⟨rfl, b5⟩
        exact ⟨rfl, k4.more b5, (k4.more b5).more ((Below.refl _ _).alloc (Nat.le_refl _) _)⟩))
      have i0 : (i : Int) < (M : Int) := by omega
      have hlen : ps.length + 1 ≤ 1000000000 := by rw [HPS.out]; omega
      clear HP1
      go_wp2_with fail
      go_at_call 50
      refine HN1.out.mono ?_
      rintro e wm ⟨rfl, km⟩
      have HKM := Lib.hid km
      have HKD : Hid (KN w wm.drew n y1 (.slice ao i cp) ps) := Lib.hid (km.more (drewN_down wm 1))
      have HND := Lib.hid (HN2.out wm.drew HKD.out)
      have cm := km.p1
      have cd := HKD.out.p1
      clear km
      go_wp2_with fail
      go_region_law (first
        | (refine step_appClue rfl _ _ rfl (w.heap.size + 3) _ ps [(x0, x1, x2, x3)] _ _ _ rfl rfl k6.2.2.2.2.1 rfl (src_oneC (w := w5) x0 x1 x2 x3 rfl) k6.2.2.2.2.2 hlen ?_; intro v7 w7 hO7 hB7 hG7; obtain ⟨ao7, cp7, hv7⟩ := hO7.any; obtain ⟨q7, hq7⟩ : ∃ q, q = (ps ++ [((x0, x1, x2, x3) : RClue)]).length := ⟨_, rfl⟩; rw [← hq7] at hv7; subst hv7; have HQ7 := Lib.hid hq7; clear hq7; have k8 := k6.put hO7 hB7; have s1 : w7.cell? ⟨w.heap.size + 2, 1, none⟩ = some (.slice ao i cp) := (k6.2.2.2.1.below hB7 (by omega)).cell 1; have s2 := (k6.2.2.2.1.below hB7 (by omega)).free 1)
        | (go_simp; refine HND.out.mono ?_; rintro e w4 ⟨rfl, k4⟩; have c4 := k4.p1; dsimp only)
        | (go_simp; refine (HP.out w4 k4).mono ?_; rintro e w5 ⟨rfl, k5, k6⟩; have c5 := k5.p1; have c6 := k6.p1; dsimp only))
      all_goals
        have HK8 : Hid (KN w (w7.setCell ⟨w.heap.size + 2, 1, none⟩ (.slice ao7 q7 cp7)) n y2 (.slice ao7 q7 cp7) (ps ++ [(x0, x1, x2, x3)])) := Lib.hid k8
        clear k4 k5 k6 k8 hO7 hB7 hG7 c4 c5 c6 s1 s2 cm cd
        go_wp2
        go_roundw
        case rel => exact ⟨i + 1, y2, .slice ao7 q7 cp7, ps ++ [(x0, x1, x2, x3)], by go_num, by omega, by omega, by rw [List.length_append, HPS.out]; rfl, HL2, HK8⟩
        case measure => simp [intOf]; omega
    · have HF : Hid (ps = makeL l S M) := Lib.hid (by have h := HL.out; rwa [show M - i = 0 by omega, makeL, List.append_nil] at h)
      have p0 := HK.out.p0
      have p1 := HK.out.p1
      have r0 := HK.out.r0
      have r1 := HK.out.r1
      have f0 := HK.out.f0
      have f1 := HK.out.f1
      go_wp2
      (try simp only [Exit.inBlock, Exit.then])
      refine bodyPost_ret (results_cellZ rfl _ _ w.heap.size (n : Int) (.slice ao i cp) rfl rfl (setZ0 r0 r1) (setZ1 r0 r1)) rfl ?_
      refine ⟨.slice ao i cp, by rw [HE2.out.1, HE2.out.2.2]; exact rfl, ?_, HK.out.1.setCell (Nat.le_refl _) _ |>.setCell (Nat.le_refl _) _⟩
      rw [HE2.out.2.1, ← HF.out]
      exact (ownZ_set (ownZ_set HK.out.2.2.2.2.1 (by omega) 0 _) (by omega) 1 _).mono (by omega)

end Go.Proofs.Ytodlpdbmiicdfab
