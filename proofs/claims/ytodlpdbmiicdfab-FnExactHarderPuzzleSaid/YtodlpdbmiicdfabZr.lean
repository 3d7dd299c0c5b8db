/- Chapter 9, the program: harder, HarderPuzzle. -/
import Derived.Test.YtodlpdbmiicdfabZh
import Derived.Test.YtodlpdbmiicdfabZk
import Derived.Test.YtodlpdbmiicdfabPzn
namespace Go.Proofs.Ytodlpdbmiicdfab
open Go.ChangeShapes Go.WideShapes Go.ChangeAt Go.RowKit
open Pz

theorem own_apart {w : World} {B b : Nat} {v : Value} {ps : List RClue} (h : OwnClue w B v ps) (hb : ∀ k, v.ownBlock = some k → k ≠ b) (j : Nat) (x : Value) : OwnClue (w.setCell ⟨b, j, none⟩ x) B v ps := by
  unfold OwnClue at h ⊢
  refine h.kept (set_grown w b j x) ?_
  rcases hv : v.ownBlock with _ | k
  · exact .inl rfl
  · exact .inr (fun e => hb k hv (Option.some.inj e))
theorem own_past {w : World} {B b : Nat} {v : Value} {ps : List RClue} (h : OwnClue w B v ps) (hb : b < B) : ∀ k, v.ownBlock = some k → k ≠ b := fun k hk => by
  have := (World.ownsRow.lt h k hk).1; omega
theorem own_under {w : World} {B b : Nat} {v : Value} {ps : List RClue} (h : OwnClue w B v ps) (hb : w.heap.size ≤ b) : ∀ k, v.ownBlock = some k → k ≠ b := fun k hk => by
  have := (World.ownsRow.lt h k hk).2; omega
/-- behind so many rounds: the box holds clues of the call's own, from which the rest is taken out as from all -/
structure Hrd (w wr : World) (n H : Nat) (cs cs2 : List RClue) (k : Nat) (v : Value) : Prop where
  left : ∃ f, f + k = cs2.length ∧ hard n f cs2 k = hardL n cs
  box : Blk wr H 31 [.int .i64 (n : Int), v]
  own : OwnClue wr (w.heap.size + 2) v cs2
  apart : ∀ b, v.ownBlock = some b → b ≠ H
  few : cs2.length ≤ 6
  clues : ∀ j, j < cs2.length → clueB (n : Int) (cs2.getD j zClue) = true
  res : Blk wr (w.heap.size + 1) 31 [.int .i64 0, .slice none 0 0]
  down : Below w.heap.size w wr
  far : w.heap.size + 2 ≤ H ∧ H < wr.heap.size
theorem Hrd.more {w wr w2 : World} {n H : Nat} {cs cs2 : List RClue} {k : Nat} {v : Value} (h : Hrd w wr n H cs cs2 k v) (b : Below wr.heap.size wr w2) : Hrd w w2 n H cs cs2 k v :=
  ⟨h.left, h.box.below b h.box.lt, h.own.below b (Nat.le_refl _), h.apart, h.few, h.clues, h.res.below b h.res.lt, h.down.trans (b.mono h.down.size), ⟨h.far.1, Nat.lt_of_lt_of_le h.far.2 b.size⟩⟩
theorem hard_more {n f k : Nat} {cs2 : List RClue} (h : (solL n (without cs2 k)).length = 1) : hard n (f + 1) cs2 k = hard n f (without cs2 k) k := by rw [hard, if_pos h]
theorem hard_skip {n f k : Nat} {cs2 : List RClue} (h : ¬ (solL n (without cs2 k)).length = 1) : hard n (f + 1) cs2 k = hard n f cs2 (k + 1) := by rw [hard, if_neg h]
theorem Hrd.skip {w wr : World} {n H : Nat} {cs cs2 : List RClue} {k : Nat} {v : Value} (h : Hrd w wr n H cs cs2 k v) (hk : k < cs2.length) (hn : ¬ (solL n (without cs2 k)).length = 1) : Hrd w wr n H cs cs2 (k + 1) v := by
  obtain ⟨f, h1, h2⟩ := h.left
  obtain ⟨f', rfl⟩ : ∃ f', f = f' + 1 := ⟨f - 1, by omega⟩
  rw [hard_skip hn] at h2
  exact ⟨⟨f', by omega, h2⟩, h.box, h.own, h.apart, h.few, h.clues, h.res, h.down, h.far⟩
theorem Hrd.take {w wr w2 : World} {n H : Nat} {cs cs2 : List RClue} {k : Nat} {v v2 : Value} (h : Hrd w wr n H cs cs2 k v) (hk : k < cs2.length) (hy : (solL n (without cs2 k)).length = 1) (b : Below wr.heap.size wr w2)
    (o : OwnClue w2 wr.heap.size v2 (without cs2 k)) : Hrd w ((w2.setCell ⟨H, 0, none⟩ (.int .i64 (n : Int))).setCell ⟨H, 1, none⟩ v2) n H cs (without cs2 k) k v2 := by
  obtain ⟨f, h1, h2⟩ := h.left
  obtain ⟨f', rfl⟩ : ∃ f', f = f' + 1 := ⟨f - 1, by omega⟩
  rw [hard_more hy] at h2
  have hb := h.box.below b h.box.lt
  have hr := h.res.below b h.res.lt
  have hap := own_past o h.far.2
  have hlw := length_without hk
  have hHR : some H ≠ some (w.heap.size + 1) := fun e => by have := Option.some.inj e; have := h.far.1; omega
  refine ⟨⟨f', by rw [hlw]; omega, h2⟩, (hb.set 0 _).set 1 _, ?_, hap, by rw [hlw]; have := h.few; omega, clues_without h.clues, ?_, ?_, ?_⟩
  · exact (own_apart (own_apart o hap 0 _) hap 1 _).mono (by have := h.far; omega)
  · exact (hr.grown (set_grown _ _ _ _) hHR).grown (set_grown _ _ _ _) hHR
  · exact ((h.down.trans (b.mono h.down.size)).setCell (by show w.heap.size ≤ H; have := h.far.1; omega) _).setCell (by show w.heap.size ≤ H; have := h.far.1; omega) _
  · refine ⟨h.far.1, ?_⟩
    have := b.size; have := h.far.2
    simp [World.setCell]; omega
/-- how many clues the box's list has -/
def lenAt (w : World) (H : Nat) : Nat := match w.cell? ⟨H, 1, none⟩ with | some (.slice _ n _) => n | _ => 0
theorem lenAt_of {w : World} {H : Nat} {x : Value} {a : Option Addr} {n c : Nat} (h : Blk w H 31 [x, .slice a n c]) : lenAt w H = n := by
  have e : w.cell? ⟨H, 1, none⟩ = some (.slice a n c) := h.cell 1
  unfold lenAt; rw [e]
set_option maxHeartbeats 8000000 in
set_option maxRecDepth 20000 in
theorem harder_any (w : World) (n : Nat) (h1 : 1 ≤ n) (h8 : n ≤ 8) (a : Option Addr) (len cap : Nat) (cs : List RClue) (h0 : 0 < len) (hl : len ≤ 6) (hcl : ∀ k, k < cs.length → clueB (n : Int) (cs.getD k zClue) = true) (hc : CameClue w a len cs) :
    Calls Try.prog 41 #[.agg #[.int .i64 (n : Int), .slice a len cap]] w fun e w' => ∃ v, e = .returned (.agg #[.int .i64 (n : Int), v]) ∧ OwnClue w' w.heap.size v (hardL n cs) ∧ Below w.heap.size w w' := by
  have HC := Lib.hid hc
  have HZ : Hid (cs.length = len) := Lib.hid hc.1
  have HCL := Lib.hid hcl
  have HCP := Lib.hid (fun w2 (h : Below w.heap.size w w2) => copied_any w2 (n : Int) a len cap cs h0 hl (HC.out.below h))
  have HST : Hid (KZ2 w n a len cap ((w.alloc (.cells #[.int .i64 (n : Int), .slice a len cap] 31)).alloc (.cells #[.int .i64 0, .slice none 0 0] 31))) := Lib.hid (KZ2.start ..)
  have c0 := HST.out.one.c0
  have c1 := HST.out.one.c1
  clear hc hcl
  go_enter Try.func41, Try.ntmps41
  go_wp2_with fail
  go_at_call 64
  refine (HCP.out _ HST.out.one.down).mono ?_
  rintro e w2 ⟨g, c, rfl, o2, b2⟩
  have HK2 : Hid (KZ2 w n a len cap w2) := Lib.hid (HST.out.more b2)
  have HO2 : Hid (OwnClue w2 (w.heap.size + 2) (.slice (some ⟨g, 0, none⟩) len c) cs) := Lib.hid (o2.mono (by have := HST.out.big; omega))
  clear b2 o2 c0 c1
  obtain ⟨H, hH⟩ : ∃ H, H = w2.heap.size := ⟨_, rfl⟩
  obtain ⟨w3, hw3⟩ : ∃ w3, w3 = w2.alloc (.cells #[.int .i64 (n : Int), .slice (some ⟨g, 0, none⟩) len c] 31) := ⟨_, rfl⟩
  have HR : Hid (Hrd w w3 n H cs cs 0 (.slice (some ⟨g, 0, none⟩) len c)) := Lib.hid (by
    have hb : Blk w3 H 31 [.int .i64 (n : Int), .slice (some ⟨g, 0, none⟩) len c] := by rw [hw3, hH]; exact blk_new w2 _ [_, _]
    refine ⟨⟨cs.length, by omega, rfl⟩, hb, by rw [hw3]; exact ownClue_alloc HO2.out _, ?_, by rw [HZ.out]; exact hl, HCL.out, by rw [hw3]; exact Blk.alloc HK2.out.res _, ?_, ⟨by rw [hH]; exact HK2.out.big, hb.lt⟩⟩
    · exact own_under HO2.out (by omega)
    · rw [hw3]; exact HK2.out.one.down.alloc HK2.out.one.down.size _)
  go_wp2_with fail
  rw [← hw3, ← hH]
  clear hw3 hH
  go_loopw [4] (fun i wr => ∃ (k : Nat) (cs2 : List RClue) (va : Option Addr) (vc : Nat), k ≤ cs2.length ∧ k ≤ 6 ∧ i = .int .i64 (k : Int) ∧ Hid (Hrd w wr n H cs cs2 k (.slice va cs2.length vc))) (fun i wr => lenAt wr H - (intOf i).toNat)
  case atStart => exact ⟨0, cs, _, _, Nat.zero_le _, Nat.zero_le _, rfl, Lib.hid (by rw [HZ.out]; exact HR.out)⟩
  case round =>
    obtain ⟨k, cs2, va, vc, hk, hk6, rfl, HR2⟩ := hrel
    have c0 : wr.cell? ⟨H, 0, none⟩ = some (.int .i64 (n : Int)) := HR2.out.box.cell 0
    have c1 : wr.cell? ⟨H, 1, none⟩ = some (.slice va cs2.length vc) := HR2.out.box.cell 1
    obtain ⟨N, hN⟩ : ∃ N, N = cs2.length := ⟨_, rfl⟩
    have HN := Lib.hid hN
    rw [← hN] at c1 hk HR2
    by_cases hlt : k < N
    · have hfew := HR2.out.few
      have hcm : CameClue wr va N cs2 := by
        obtain ⟨ao, cp, e1, h2, _⟩ := HR2.out.own.cameC
        injection e1 with e1 _ _
        subst e1
        rw [HN.out]; exact h2
      have HWO := Lib.hid (without_any wr (n : Int) va N vc cs2 k hlt (by omega) hcm)
      have HLW : Hid ((without cs2 k).length ≤ 6) := Lib.hid (by rw [length_without (by omega)]; omega)
      have HL1 := lenAt_of HR2.out.box
      have i1 : (k : Int) < (N : Int) := by omega
      have i2 : IntKind.i64.wrap ((k : Int) + 1) = (k : Int) + 1 := IntWalk.i64_in _ (by omega)
      clear hcm hfew hN
      go_wp2_with fail
      go_at_call 59
      refine HWO.out.mono ?_
      rintro e w4 ⟨v, rfl, o4, b4⟩
      have B4 := Lib.hid b4
      obtain ⟨ao, cp, rfl, hca, _⟩ := o4.cameC
      obtain ⟨q, hq⟩ : ∃ q, q = (without cs2 k).length := ⟨_, rfl⟩
      have HQ := Lib.hid hq
      rw [← hq] at o4 hca HLW ⊢
      have HO4 := Lib.hid o4
      obtain ⟨w5, hw5⟩ : ∃ w5, w5 = w4.alloc (.cells #[.int .i64 (n : Int), .slice ao q cp] 31) := ⟨_, rfl⟩
      obtain ⟨G, hG⟩ : ∃ G, G = w4.heap.size := ⟨_, rfl⟩
      have HB5 : Hid (Blk w5 G 31 [.int .i64 (n : Int), .slice ao q cp]) := Lib.hid (by rw [hw5, hG]; exact blk_new w4 _ [_, _])
      have HW5 : Hid (Below wr.heap.size wr w5) := Lib.hid (by rw [hw5]; exact B4.out.alloc B4.out.size _)
      have HO5 : Hid (OwnClue w5 wr.heap.size (.slice ao q cp) (without cs2 k)) := Lib.hid (by rw [hw5]; exact ownClue_alloc HO4.out _)
      have HIS := Lib.hid (isSolved_any w5 n h1 h8 ao q cp (without cs2 k) HLW.out (clues_without HR2.out.clues) (by rw [hw5]; exact hca.below ((Below.refl _ _).alloc (Nat.le_refl _) _)))
      have d0 : w5.cell? ⟨G, 0, none⟩ = some (.int .i64 (n : Int)) := HB5.out.cell 0
      have d1 : w5.cell? ⟨G, 1, none⟩ = some (.slice ao q cp) := HB5.out.cell 1
      rw [hw5, hG] at d0 d1
      clear o4 b4 hca c0 c1 hq
      go_wp2_with fail
      rw [← hw5, ← hG]
      clear d0 d1 hw5 hG
      go_at_call 63
      refine HIS.out.mono ?_
      rintro e w6 ⟨rfl, b6⟩
      have HW6 : Hid (Below wr.heap.size wr w6) := Lib.hid (HW5.out.trans (b6.mono HW5.out.size))
      have HB6 := Lib.hid (HB5.out.below b6 HB5.out.lt)
      have HO6 := Lib.hid (HO5.out.below b6 (Nat.le_refl _))
      have HR6 := Lib.hid (HR2.out.more HW6.out)
      have d0 : w6.cell? ⟨G, 0, none⟩ = some (.int .i64 (n : Int)) := HB6.out.cell 0
      have d1 : w6.cell? ⟨G, 1, none⟩ = some (.slice ao q cp) := HB6.out.cell 1
      have e0 : w6.cell? ⟨H, 0, none⟩ = some (.int .i64 (n : Int)) := HR6.out.box.cell 0
      have e1 : w6.cell? ⟨H, 1, none⟩ = some (.slice va N vc) := HR6.out.box.cell 1
      have f0 : w6.frozen? ⟨H, 0, none⟩ = false := HR6.out.box.free 0
      have f1 : w6.frozen? ⟨H, 1, none⟩ = false := HR6.out.box.free 1
      clear b6
      by_cases hs : (solL n (without cs2 k)).length = 1
      · have hd : decide ((solL n (without cs2 k)).length = 1) = true := decide_eq_true hs
        have HT := Lib.hid (HR2.out.take (by rw [← HN.out]; exact hlt) hs HW6.out HO6.out)
        have HL2 := lenAt_of HT.out.box
        have HQL : Hid (q + 1 = N) := Lib.hid (by rw [HQ.out, length_without (by rw [← HN.out]; exact hlt), HN.out]; have := HN.out; omega)
        rw [hd]
        clear hs hd
        go_wp2
        go_roundw
        case rel => exact ⟨k, without cs2 k, ao, cp, by rw [← HQ.out]; have := HQL.out; omega, hk6, rfl, Lib.hid (by rw [← HQ.out]; exact HT.out)⟩
        case measure => have := HQL.out; simp [intOf]; omega
      · have hd : decide ((solL n (without cs2 k)).length = 1) = false := decide_eq_false hs
        have HT := Lib.hid (HR6.out.skip (by rw [← HN.out]; exact hlt) hs)
        have HL2 := lenAt_of HT.out.box
        rw [hd]
        clear hs hd
        go_wp2
        go_roundw
        case rel => exact ⟨k + 1, cs2, va, vc, by rw [← HN.out]; omega, by have := HR2.out.few; have := HN.out; omega, by go_num, Lib.hid (by rw [← HN.out]; exact HT.out)⟩
        case measure => simp [intOf]; omega
    · have hkN : k = N := by omega
      have HE : Hid (cs2 = hardL n cs) := Lib.hid (by
        obtain ⟨f, g1, g2⟩ := HR2.out.left
        obtain rfl : f = 0 := by have := HN.out; omega
        exact g2)
      have r0 : wr.cell? ⟨w.heap.size + 1, 0, none⟩ = some (.int .i64 0) := HR2.out.res.cell 0
      have r1 : wr.cell? ⟨w.heap.size + 1, 1, none⟩ = some (.slice none 0 0) := HR2.out.res.cell 1
      have q0 : wr.frozen? ⟨w.heap.size + 1, 0, none⟩ = false := HR2.out.res.free 0
      have q1 : wr.frozen? ⟨w.heap.size + 1, 1, none⟩ = false := HR2.out.res.free 1
      clear hN hkN
      go_wp2
      (try simp only [Exit.inBlock, Exit.then])
      refine bodyPost_ret (results_oneZ rfl _ _ (w.heap.size + 1) (n : Int) (.slice va N vc) rfl rfl (setZ0 r0 r1) (setZ1 r0 r1)) rfl ?_
      exact ⟨_, rfl, by rw [← HE.out]; exact (ownZ_set (ownZ_set HR2.out.own (by omega) 0 _) (by omega) 1 _).mono (by omega), HR2.out.down.setCell (Nat.le_succ _) _ |>.setCell (Nat.le_succ _) _⟩

end Go.Proofs.Ytodlpdbmiicdfab
