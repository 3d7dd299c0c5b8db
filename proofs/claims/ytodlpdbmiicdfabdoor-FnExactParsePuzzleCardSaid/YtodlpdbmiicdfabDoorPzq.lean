/- Chapter 9: the model's pzParse, ParsePuzzle. Written by a program of mine (tools/mk/mk_pzq.py). -/
import Derived.Test.YtodlpdbmiicdfabDoorPzr
import Derived.Deep.RegionLaw
import Derived.Deep.RegionHeld3
namespace Go.Proofs.YtodlpdbmiicdfabDoor
open Go.ChangeShapes Go.WideShapes Go.ChangeAt Go.RowKit
open Pz Rd


/-- both boxes, and the clues read so far -/
def KG (w : World) (G C : Nat) (wr : World) (x : Int) (v : Value) (ps : List RClue) : Prop :=
  Below w.heap.size w wr ∧ Blk wr w.heap.size 30 [.int .i64 0, .slice none 0 0] ∧ Blk wr G 30 [.int .i64 x, v] ∧ OwnClue wr C v ps ∧ C ≤ wr.heap.size
section
variable {w wr w2 : World} {G C : Nat} {x : Int} {v : Value} {ps : List RClue}
theorem KG.more (h : KG w G C wr x v ps) (b : Below wr.heap.size wr w2) : KG w G C w2 x v ps :=
  ⟨h.1.trans (b.mono h.1.size), h.2.1.below b h.2.1.lt, h.2.2.1.below b h.2.2.1.lt, h.2.2.2.1.below b (Nat.le_refl _), Nat.le_trans h.2.2.2.2 b.size⟩
theorem KG.p0 (h : KG w G C wr x v ps) : wr.cell? ⟨G, 0, none⟩ = some (.int .i64 x) := h.2.2.1.cell 0
theorem KG.p1 (h : KG w G C wr x v ps) : wr.cell? ⟨G, 1, none⟩ = some v := h.2.2.1.cell 1
theorem KG.r0 (h : KG w G C wr x v ps) : wr.cell? ⟨w.heap.size, 0, none⟩ = some (.int .i64 0) := h.2.1.cell 0
theorem KG.r1 (h : KG w G C wr x v ps) : wr.cell? ⟨w.heap.size, 1, none⟩ = some (.slice none 0 0) := h.2.1.cell 1
theorem KG.f0 (h : KG w G C wr x v ps) : wr.frozen? ⟨w.heap.size, 0, none⟩ = false := h.2.1.free 0
theorem KG.f1 (h : KG w G C wr x v ps) : wr.frozen? ⟨w.heap.size, 1, none⟩ = false := h.2.1.free 1
theorem KG.put {v2 : Value} {qs : List RClue} (h : KG w G C wr x v ps) (o : OwnClue w2 C v2 qs) (b : Below C wr w2) (hG : w.heap.size < G) (hC : G < C) :
    KG w G C (w2.setCell ⟨G, 1, none⟩ v2) x v2 qs := by
  have h1 := h.2.1.below b (by omega)
  have h2 := h.2.2.1.below b (by omega)
  refine ⟨?_, ?_, ?_, ?_, ?_⟩
  · exact (h.1.trans (b.mono (by omega))).setCell (by show w.heap.size ≤ G; omega) _
  · exact h1.grown (set_grown w2 _ 1 _) (fun e => by have := Option.some.inj e; omega)
  · exact h2.set 1 v2
  · exact ownZ_set o (by omega) 1 v2
  · have := b.size; have := h.2.2.2.2
    simp [World.setCell]; omega
end

set_option maxHeartbeats 8000000 in
set_option maxRecDepth 20000 in
theorem pzParse_any (w : World) (s : ByteArray) (hls : s.size ≤ 1048576) :
    Calls Tryd.prog 23 #[.string s] w fun e w' => ∃ x ao len cap, e = .returned (.tuple #[.agg #[.int .i64 x, .slice ao len cap], .bool (parP s)]) ∧ (parP s = true → x = soldZ s ∧ OwnClue w' w.heap.size (.slice ao len cap) (cluesZ s)) ∧ Below w.heap.size w w' := by
  have HSP := Lib.hid (fun w2 => l1Split_any s 58 (by omega) w2 hls)
  obtain ⟨w0, hw0⟩ : ∃ w0, w0 = w.alloc (.cells #[.int .i64 0, .slice none 0 0] 30) := ⟨_, rfl⟩
  have HB0 : Hid (Below w.heap.size w w0) := Lib.hid (by rw [hw0]; exact (Below.refl _ _).alloc (Nat.le_refl _) _)
  have HK0 : Hid (Blk w0 w.heap.size 30 [.int .i64 0, .slice none 0 0]) := Lib.hid (by rw [hw0]; exact heap_alloc_new w _)
  have hG0 : w.heap.size < w0.heap.size := by rw [hw0, pz_size1]; omega
  by_cases h120 : s.size ≤ 120
  · have h1i : ¬ (120 : Int) < (s.size : Int) := by omega
    by_cases hm2 : (cutL s 58).length = 2
    · have HHB : Hid (headB s = true) := Lib.hid (by unfold headB; rw [decide_eq_true h120, decide_eq_true hm2]; rfl)
      have HPS0 := cutL_sizeP s 58 0
      have HPS1 := cutL_sizeP s 58 1
      have HSO : Hid (soldZ s = readZ ((cutL s 58).getD 0 ByteArray.empty)) := Lib.hid rfl
      have HRT : Hid (restT s = (cutL s 58).getD 1 ByteArray.empty) := Lib.hid rfl
      go_enter Tryd.func23, Tryd.ntmps23
      go_wp2_with fail
      rw [← hw0]
      go_at_call 41
      refine (HSP.out _).mono ?_
      rintro e w1 ⟨v, rfl, o1, b1⟩
      have B1 : Hid (Below w0.heap.size w0 w1) := Lib.hid b1
      obtain ⟨aop, cpp, rfl, hrd⟩ := o1.read
      obtain ⟨g1, rfl, hg0, hg1, hcell⟩ := hrd (by omega)
      have e0 := hcell 0 (by omega)
      have e1 := hcell 1 (by omega)
      rw [hm2]
      obtain ⟨t0, ht0⟩ : ∃ t, t = (cutL s 58).getD 0 ByteArray.empty := ⟨_, rfl⟩
      obtain ⟨t1, ht1⟩ : ∃ t, t = (cutL s 58).getD 1 ByteArray.empty := ⟨_, rfl⟩
      rw [← ht0] at e0 HPS0 HSO
      rw [← ht1] at e1 HPS1 HRT
      have HR0 := Lib.hid (fun w2 => l1Read_any t0 w2 (by omega))
      rw [← HSO.out] at HR0
      clear o1 b1 hrd hcell ht0 ht1 hm2 h120 hw0
      obtain ⟨x, hx⟩ : ∃ x, x = soldZ s := ⟨_, rfl⟩
      rw [← hx] at HR0
      have HX := Lib.hid hx
      clear hx
      obtain ⟨w2, hw2⟩ : ∃ w2, w2 = w1.alloc (.cells #[.int .i64 x, .slice none 0 0] 30) := ⟨_, rfl⟩
      obtain ⟨G, hG⟩ : ∃ G, G = w1.heap.size := ⟨_, rfl⟩
      have hG1 : w.heap.size < G := by rw [hG]; exact Nat.lt_of_lt_of_le hG0 B1.out.size
      have hG2 : w2.heap.size = G + 1 := by rw [hw2, pz_size1, hG]
      have HB2 : Hid (Below w1.heap.size w1 w2) := Lib.hid (by rw [hw2]; exact (Below.refl _ _).alloc (Nat.le_refl _) _)
      have HK2 : Hid (KG w G (G + 1) w2 x (.slice none 0 0) []) := Lib.hid (by
        have hb := B1.out.trans (HB2.out.mono B1.out.size)
        refine ⟨HB0.out.trans (hb.mono (by omega)), HK0.out.below hb HK0.out.lt, ?_, ownClue_nil _ _, by omega⟩
        rw [hw2, hG]; exact heap_alloc_new w1 _)
      have e1' : w2.cell? ⟨g1, 1, none⟩ = some (.string t1) := (HB2.out.cell (p := ⟨g1, 1, none⟩) hg1).trans e1
      have e1a : (w1.alloc (.cells #[.int .i64 x, .slice none 0 0] 30)).cell? ⟨g1, 1, none⟩ = some (.string t1) := by rw [← hw2]; exact e1'
      clear hg0 hg1
      have q0 := HK2.out.p0
      have q1 := HK2.out.p1
      go_wp2_with fail
      go_at_call 42
      refine (HR0.out _).mono ?_
      rintro e ww ⟨rfl, rfl⟩
      by_cases hz : t1.size = 0
      · have hzi : ¬ (0 : Int) < (t1.size : Int) := by omega
        have HTX : Hid (textsL s = []) := Lib.hid (by unfold textsL; rw [HRT.out, if_pos hz])
        have HTL : Hid ((textsL s).length ≤ 1048576) := Lib.hid (by rw [HTX.out]; simp)
        obtain ⟨ps, hps⟩ : ∃ ps, ps = ([] : List RClue) := ⟨_, rfl⟩
        have HPP : Hid (ps = cluesZ s) := Lib.hid (by rw [hps]; unfold cluesZ; rw [HTX.out]; rfl)
        obtain ⟨ao, q, cp, hv, hql0⟩ : ∃ ao q cp, (Value.slice none 0 0 : Value) = .slice ao q cp ∧ q = ps.length := ⟨none, 0, 0, rfl, by rw [hps]; rfl⟩
        have HQ := Lib.hid hql0
        rw [← hps, hv] at HK2
        clear hps hql0 hv
        obtain ⟨C, hC⟩ : ∃ C, C = G + 1 := ⟨_, rfl⟩
        rw [← hC] at HK2
        have hGC : G < C := by omega
        go_wp2_with fail
        rw [← hw2, ← hG]
        clear hw2 hG e0 e1 e1a e1' q0 q1
        have HPB : Hid (parP s = (goodP x ps && decide (puzT x.toNat ps = s))) := Lib.hid (by rw [HX.out, HPP.out]; exact fours_yes HHB.out (by intro k hk; rw [HTX.out] at hk; simp at hk))
        have HKT : Hid (KG w G C w2.drew x (.slice ao q cp) ps) := Lib.hid (HK2.out.more (drewN_down w2 1))
        have hql : q ≤ 1048576 := by rw [HQ.out, HPP.out]; unfold cluesZ; rw [length_rdTo]; exact HTL.out
        have hcm : CameClue w2.drew ao q ps := by
          obtain ⟨aa, cc, hv, hcm, _⟩ := HKT.out.2.2.2.1.cameC
          injection hv with hv1 hv2 hv3
          subst hv1
          rw [← HQ.out] at hcm
          exact hcm
        have HG := Lib.hid (pzGood_any w2.drew x ao q cp ps hql hcm)
        have p0 := HKT.out.p0
        have p1 := HKT.out.p1
        have q0 := HK2.out.p0
        have q1 := HK2.out.p1
        rcases hb : goodP x ps with _ | _
        · have HE : Hid (parP s = false) := Lib.hid (by rw [HPB.out, hb]; rfl)
          rw [hb] at HG
          have HGK : Hid (Calls Tryd.prog 15 #[.agg #[.int .i64 x, .slice ao q cp]] w2.drew fun e w5 => e = .returned (.bool false) ∧ KG w G C w5 x (.slice ao q cp) ps) := Lib.hid (HG.out.mono (by
            rintro e w5 ⟨rfl, b5⟩
            exact ⟨rfl, HKT.out.more b5⟩))
          clear hb hcm HG
          go_wp2_with fail
          first
            | (go_region_with (refine HGK.out.mono ?_; rintro e w5 ⟨rfl, k5⟩; have c50 := k5.p0; have c51 := k5.p1; have s0 := k5.r0; have s1 := k5.r1; have s2 := k5.f0; have s3 := k5.f1))
            | fail "no region"
          all_goals
            have HK5 := Lib.hid k5
            clear k5
            go_wp2
            (try simp only [Exit.inBlock, Exit.then])
            refine bodyPost_ret (results_cellZ rfl _ _ w.heap.size x (.slice ao q cp) rfl rfl (setZ0 s0 s1) (setZ1 s0 s1)) rfl ?_
            exact ⟨x, ao, q, cp, by rw [HE.out]; exact rfl, fun h => (by rw [HE.out] at h; cases h), HK5.out.1.setCell (Nat.le_refl _) _ |>.setCell (Nat.le_refl _) _⟩
        · obtain ⟨⟨n, rfl, hn1, hn8⟩, hl6, hcl⟩ := pz_of hb
          have HPB2 : Hid (parP s = decide (puzT n ps = s)) := Lib.hid (by rw [HPB.out, hb]; rfl)
          have h6 : q ≤ 6 := by rw [HQ.out]; exact hl6
          rw [hb] at HG
          have HGK : Hid (Calls Tryd.prog 15 #[.agg #[.int .i64 (n : Int), .slice ao q cp]] w2.drew fun e w5 => e = .returned (.bool true) ∧ KG w G C w5 n (.slice ao q cp) ps) := Lib.hid (HG.out.mono (by
            rintro e w5 ⟨rfl, b5⟩
            exact ⟨rfl, HKT.out.more b5⟩))
          have HTK : Hid (∀ w5, KG w G C w5 n (.slice ao q cp) ps → Calls Tryd.prog 16 #[.agg #[.int .i64 (n : Int), .slice ao q cp]] w5 fun e w6 => e = .returned (.string (puzT n ps)) ∧ KG w G C w6 n (.slice ao q cp) ps) := Lib.hid (fun w5 k5 => by
            obtain ⟨aa, cc, hv, hcm, _⟩ := k5.2.2.2.1.cameC
            injection hv with hv1 hv2 hv3
            subst hv1 hv3
            rw [← HQ.out] at hcm
            exact (pzText_any w5 n ao q cp ps hn8 h6 hcl hcm).mono (by
              rintro e w6 ⟨rfl, b6⟩
              exact ⟨rfl, k5.more b6⟩))
          obtain ⟨tx, htx⟩ : ∃ t, t = puzT n ps := ⟨_, rfl⟩
          rw [← htx] at HTK HPB2
          clear hb hcm HG htx hcl
          by_cases hts : tx = s
          · subst hts
            have HE : Hid (parP tx = true) := Lib.hid (by rw [HPB2.out]; simp)
            go_wp2_with fail
            go_region_law (first
              | (go_simp; refine HGK.out.mono ?_; rintro e w5 ⟨rfl, k5⟩; have c50 := k5.p0; have c51 := k5.p1; dsimp only)
              | (go_simp; refine (HTK.out _ k5).mono ?_; rintro e w6 ⟨rfl, k6⟩; have c60 := k6.p0; have c61 := k6.p1; have s0 := k6.r0; have s1 := k6.r1; have s2 := k6.f0; have s3 := k6.f1; dsimp only))
            all_goals
              have HK5 := Lib.hid k6
              clear k5 k6
              go_wp2
              (try simp only [Exit.inBlock, Exit.then])
              refine bodyPost_ret (results_cellZ rfl _ _ w.heap.size (n : Int) (.slice ao q cp) rfl rfl (setZ0 s0 s1) (setZ1 s0 s1)) rfl ?_
              exact ⟨n, ao, q, cp, by rw [HE.out]; exact rfl, fun _ => ⟨HX.out, by rw [← HPP.out]; exact (ownZ_set (ownZ_set HK5.out.2.2.2.1 (by omega) 0 _) (by omega) 1 _).mono (by omega)⟩, HK5.out.1.setCell (Nat.le_refl _) _ |>.setCell (Nat.le_refl _) _⟩
          · have HE : Hid (parP s = false) := Lib.hid (by rw [HPB2.out]; exact decide_eq_false hts)
            have hne := strs_neP hts
            clear hts
            go_wp2_with fail
            go_region_law (first
              | (go_simp; refine HGK.out.mono ?_; rintro e w5 ⟨rfl, k5⟩; have c50 := k5.p0; have c51 := k5.p1; dsimp only)
              | (go_simp; refine (HTK.out _ k5).mono ?_; rintro e w6 ⟨rfl, k6⟩; have c60 := k6.p0; have c61 := k6.p1; have s0 := k6.r0; have s1 := k6.r1; have s2 := k6.f0; have s3 := k6.f1; dsimp only))
            all_goals
              have HK5 := Lib.hid k6
              clear k5 k6
              go_wp2
              (try simp only [Exit.inBlock, Exit.then])
              refine bodyPost_ret (results_cellZ rfl _ _ w.heap.size (n : Int) (.slice ao q cp) rfl rfl (setZ0 s0 s1) (setZ1 s0 s1)) rfl ?_
              exact ⟨n, ao, q, cp, by rw [HE.out]; exact rfl, fun h => (by rw [HE.out] at h; cases h), HK5.out.1.setCell (Nat.le_refl _) _ |>.setCell (Nat.le_refl _) _⟩
      · have hzi : (0 : Int) < (t1.size : Int) := by omega
        have HTX : Hid (textsL s = cutL t1 44) := Lib.hid (by unfold textsL; rw [HRT.out, if_neg hz])
        have HSP2 := Lib.hid (fun w2 => l1Split_any t1 44 (by omega) w2 (by omega))
        have hml : (cutL t1 44).length ≤ 121 := by have := cutL_len t1 44; omega
        have HSZ := Lib.hid (fun k => Nat.le_trans (cutL_sizeP t1 44 k) (Nat.le_trans HPS1 (show s.size ≤ 120 by omega)))
        go_wp2_with fail
        rw [← hw2, ← hG]
        go_at_call 41
        refine (HSP2.out _).mono ?_
        rintro e w3 ⟨v, rfl, o3, b3⟩
        obtain ⟨ao3, cp3, rfl, hrd3⟩ := o3.read
        obtain ⟨L, hL⟩ : ∃ L, L = cutL t1 44 := ⟨_, rfl⟩
        rw [← hL] at hrd3 HTX HSZ hml ⊢
        have HTL : Hid ((textsL s).length ≤ 1048576) := Lib.hid (by rw [HTX.out]; omega)
        obtain ⟨m, hm⟩ : ∃ m, m = L.length := ⟨_, rfl⟩
        rw [← hm] at hrd3 hml ⊢
        have HM := Lib.hid hm
        have HRD := Lib.hid hrd3
        obtain ⟨C, hC⟩ : ∃ C, C = w3.heap.size := ⟨_, rfl⟩
        have hGC : G < C := by have := b3.size; omega
        have HK3 : Hid (KG w G C w3 x (.slice none 0 0) (rdTo L 0)) := Lib.hid (by
          have h := HK2.out.more b3
          exact ⟨h.1, h.2.1, h.2.2.1, ownClue_nil _ _, by omega⟩)
        have HTC : Hid (0 < m → ∃ g, ao3 = some ⟨g, 0, none⟩ ∧ g < C ∧ G < g) := Lib.hid (by
          intro h0
          obtain ⟨g, h1, h2, h3, _⟩ := HRD.out h0
          exact ⟨g, h1, by omega, by omega⟩)
        have HT3 : Hid (∀ g, ao3 = some ⟨g, 0, none⟩ → ∀ j, j < m → w3.cell? ⟨g, j, none⟩ = some (.string (L.getD j ByteArray.empty))) := Lib.hid (by
          intro g hg j hj
          obtain ⟨g', h1, _, _, h2⟩ := HRD.out (by omega)
          rw [h1] at hg
          injection (Option.some.inj hg) with h3
          subst h3
          exact h2 j hj)
        clear o3 b3 hrd3 hL hm hw2 hG e0 e1 e1a e1' q0 q1 hzi hz
        go_wp2
        go_loopw [35] (fun i wr => ∃ (k : Nat) (ao : Option Addr) (cp : Nat), k ≤ m ∧ i = .int .i64 (k : Int) ∧ Hid (KG w G C wr x (.slice ao k cp) (rdTo L k)) ∧ Hid (∀ j, j < k → (cutL (L.getD j ByteArray.empty) 46).length = 4) ∧ Hid (∀ g, ao3 = some ⟨g, 0, none⟩ → ∀ j, j < m → wr.cell? ⟨g, j, none⟩ = some (.string (L.getD j ByteArray.empty)))) (fun i _ => m - (intOf i).toNat)
        case atStart => exact ⟨0, none, 0, Nat.zero_le _, rfl, HK3, Lib.hid (by intro j hj; omega), HT3⟩
        case round =>
          obtain ⟨k, ao, cp, hk, rfl, HK, HFO, HT⟩ := hrel
          by_cases hlt : k < m
          · obtain ⟨g3, rfl, hgc, hgg⟩ := HTC.out (by omega)
            have ec := HT.out g3 rfl k hlt
            have hts := HSZ.out k
            have HSU := Lib.hid (rdTo_succ L k)
            have HFK : Hid (¬ (cutL (L.getD k ByteArray.empty) 46).length = 4 → parP s = false) := Lib.hid (fun h => fours_no (k := k) (by rw [HTX.out, ← HM.out]; exact hlt) (by rw [HTX.out]; exact h))
            have HF1 : Hid ((cutL (L.getD k ByteArray.empty) 46).length = 4 → ∀ j, j < k + 1 → (cutL (L.getD j ByteArray.empty) 46).length = 4) := Lib.hid (fun h j hj => by
              by_cases e : j = k
              · subst e; exact h
              · exact HFO.out j (by omega))
            obtain ⟨t, ht⟩ : ∃ t, t = L.getD k ByteArray.empty := ⟨_, rfl⟩
            rw [← ht] at ec hts HSU HFK HF1
            have HTK := Lib.hid ht
            have HSP5 := Lib.hid (fun w2 => l1Split_any t 46 (by omega) w2 (by omega))
            have i1 : (0 : Int) ≤ (k : Int) := by omega
            have i2 : (k : Int) < (m : Int) := by omega
            clear ht
            go_wp2_with fail
            go_at_call 41
            refine (HSP5.out _).mono ?_
            rintro e w5 ⟨v, rfl, o5, b5⟩
            obtain ⟨ao5, cp5, rfl, hrd5⟩ := o5.read
            have HK5 := Lib.hid (HK.out.more b5)
            have HT5 : Hid (∀ j, j < m → w5.cell? ⟨g3, j, none⟩ = some (.string (L.getD j ByteArray.empty))) := Lib.hid (fun j hj => (b5.cell (World.block_lt_of_cell? _ _ (HT.out g3 rfl j hj))).trans (HT.out g3 rfl j hj))
            have hCr := HK.out.2.2.2.2
            by_cases h4 : (cutL t 46).length = 4
            · obtain ⟨g5, rfl, hg5, hg5', hc5⟩ := hrd5 (by omega)
              have n0 := hc5 0 (by omega)
              have n1 := hc5 1 (by omega)
              have n2 := hc5 2 (by omega)
              have n3 := hc5 3 (by omega)
              have hu0 := Nat.le_trans (cutL_sizeP t 46 0) hts
              have hu1 := Nat.le_trans (cutL_sizeP t 46 1) hts
              have hu2 := Nat.le_trans (cutL_sizeP t 46 2) hts
              have hu3 := Nat.le_trans (cutL_sizeP t 46 3) hts
              have HF2 := Lib.hid (HF1.out h4)
              have HRD4 : Hid (rd4 t = (readZ ((cutL t 46).getD 0 ByteArray.empty), readZ ((cutL t 46).getD 1 ByteArray.empty), readZ ((cutL t 46).getD 2 ByteArray.empty), readZ ((cutL t 46).getD 3 ByteArray.empty))) := Lib.hid rfl
              rw [h4]
              obtain ⟨u0, hu0'⟩ : ∃ u, u = (cutL t 46).getD 0 ByteArray.empty := ⟨_, rfl⟩
              obtain ⟨u1, hu1'⟩ : ∃ u, u = (cutL t 46).getD 1 ByteArray.empty := ⟨_, rfl⟩
              obtain ⟨u2, hu2'⟩ : ∃ u, u = (cutL t 46).getD 2 ByteArray.empty := ⟨_, rfl⟩
              obtain ⟨u3, hu3'⟩ : ∃ u, u = (cutL t 46).getD 3 ByteArray.empty := ⟨_, rfl⟩
              rw [← hu0'] at n0 hu0 HRD4
              rw [← hu1'] at n1 hu1 HRD4
              rw [← hu2'] at n2 hu2 HRD4
              rw [← hu3'] at n3 hu3 HRD4
              have HRA : Hid (∀ (t : ByteArray) (w2 : World), t.size ≤ 120 → Calls Tryd.prog 42 #[.string t] w2 fun e w' => e = .returned (.int .i64 (readZ t)) ∧ w2 = w') := Lib.hid (fun t w2 h => l1Read_any t w2 (by omega))
              obtain ⟨rz, hrz⟩ : ∃ f, f = readZ := ⟨_, rfl⟩
              rw [← hrz] at HRA HRD4
              clear hrz
              rw [HRD4.out] at HSU
              have N0 := Lib.hid n0
              have N1 := Lib.hid n1
              have N2 := Lib.hid n2
              have N3 := Lib.hid n3
              have HKD : Hid (KG w G C w5.drew x (.slice ao k cp) (rdTo L k)) := Lib.hid (HK5.out.more (drewN_down w5 1))
              have HKA : Hid (KG w G C (w5.drew.alloc (.cells #[.int .i64 (rz u0), .int .i64 (rz u1), .int .i64 (rz u2), .int .i64 (rz u3)] 44)) x (.slice ao k cp) (rdTo L k)) := Lib.hid (HKD.out.more ((Below.refl _ _).alloc (Nat.le_refl _) _))
              have cd := HKD.out.p1
              have ca : (w5.alloc (.cells #[.int .i64 (rz u0), .int .i64 (rz u1), .int .i64 (rz u2), .int .i64 (rz u3)] 44)).drew.cell? ⟨G, 1, none⟩ = some (.slice ao k cp) := HKA.out.p1
              have hlen : (rdTo L k).length + 1 ≤ 1000000000 := by rw [length_rdTo]; omega
              have HNV : Hid (some g5 ≠ (Value.slice ao k cp).ownBlock) := Lib.hid (fun e => by have := (World.ownsRow.lt HK.out.2.2.2.1 g5 e.symm).2; omega)
              have HKB : Hid (∀ (w6 : World), w6.heap[g5]? = w5.heap[g5]? → w6.cell? ⟨g5, 0, none⟩ = some (.string u0) ∧ w6.cell? ⟨g5, 1, none⟩ = some (.string u1) ∧ w6.cell? ⟨g5, 2, none⟩ = some (.string u2) ∧ w6.cell? ⟨g5, 3, none⟩ = some (.string u3)) := Lib.hid (fun w6 hb2 =>
                ⟨(World.cell?_of_block hb2).trans N0.out, (World.cell?_of_block hb2).trans N1.out, (World.cell?_of_block hb2).trans N2.out, (World.cell?_of_block hb2).trans N3.out⟩)
              have HB1' : Hid (∀ (o : Obj), (w5.drew.alloc o).heap[g5]? = w5.heap[g5]?) := Lib.hid (fun o => heap_alloc_old w5.drew _ hg5')
              have HB2' : Hid (∀ (o : Obj) (w6 : World), (w5.drew.alloc o).grownBy w6 (Value.slice ao k cp).ownBlock → w6.heap[g5]? = w5.heap[g5]?) := Lib.hid (fun o w6 h6 =>
                (h6.block g5 (show g5 < (w5.drew.alloc o).heap.size by rw [pz_size1]; exact Nat.lt_succ_of_lt hg5') HNV.out).trans (HB1'.out o))
              have HGG : Hid (G < g5) := Lib.hid (by have := HK.out.2.2.1.lt; omega)
              have HB3' : Hid (∀ (o : Obj) (w6 : World) (u : Value), (w5.drew.alloc o).grownBy w6 (Value.slice ao k cp).ownBlock → (w6.setCell ⟨G, 1, none⟩ u).heap[g5]? = w5.heap[g5]?) := Lib.hid (fun o w6 u h6 =>
                (Below.heap_setCell _ _ _ _ (fun e => by have := HGG.out; simp only at e; omega)).trans (HB2'.out o w6 h6))
              have HG3 : Hid ((⟨G, 1, none⟩ : Addr).block ≠ (⟨g3, 0, none⟩ : Addr).block) := Lib.hid (fun e => by simp only at e; omega)
              have HT5B : Hid (∀ (o : Obj) j, j < m → (w5.drew.alloc o).cell? ⟨g3, j, none⟩ = some (.string (L.getD j ByteArray.empty))) := Lib.hid (fun o j hj =>
                (World.cell?_of_block (heap_alloc_old w5.drew _ (by have := HK5.out.2.2.2.2; show g3 < w5.heap.size; omega))).trans (HT5.out j hj))
              clear o5 b5 hrd5 hc5 hu0' hu1' hu2' hu3' h4 ec
              have cc5 := HK5.out.p1
              go_wp2_with fail
              refine wp_region_held_drew (S := fun w' => w'.cell? ⟨g5, 0, none⟩ = some (.string u0) ∧ w'.cell? ⟨g5, 1, none⟩ = some (.string u1) ∧ w'.cell? ⟨g5, 2, none⟩ = some (.string u2) ∧ w'.cell? ⟨g5, 3, none⟩ = some (.string u3)) (by kernel_rfl) (HKB.out _ rfl) (fun hHeld => ?_)
              refine wpAnyH_take (i := 0) (oi := _) (v := ?_) rfl (by kernel_rfl) (by kernel_rfl) (by kernel_rfl) (fun _ _ _ h => h) (Or.inl ⟨by rfl, ?_⟩) (by assumption) ?_
              rotate_left
              · (intro w hSw; (try dsimp only at hSw); go_simp; try with_reducible rfl)
              (try simp only [Act.put, List.setIfInBounds_toArray])
              refine wpAnyH_take (i := 2) (oi := _) (v := ?_) rfl (by kernel_rfl) (by kernel_rfl) (by kernel_rfl) (fun _ _ _ h => h) (Or.inl ⟨by rfl, ?_⟩) (by assumption) ?_
              rotate_left
              · (intro w hSw; (try dsimp only at hSw); go_simp; try with_reducible rfl)
              (try simp only [Act.put])
              refine wpAnyH_take (i := 3) (oi := _) (v := ?_) rfl (by kernel_rfl) (by kernel_rfl) (by kernel_rfl) (fun _ _ _ h => h) (Or.inl ⟨by rfl, ?_⟩) (by assumption) ?_
              rotate_left
              · (intro w hSw; (try dsimp only at hSw); go_simp; try with_reducible rfl)
              (try simp only [Act.put])
              refine wpAnyH_take (i := 6) (oi := _) (v := ?_) rfl (by kernel_rfl) (by kernel_rfl) (by kernel_rfl) (fun _ _ _ h => h) (Or.inl ⟨by rfl, ?_⟩) (by assumption) ?_
              rotate_left
              · (intro w hSw; (try dsimp only at hSw); go_simp; try with_reducible rfl)
              (try simp only [Act.put])
              refine wpAnyH_take (i := 7) (oi := _) (v := ?_) rfl (by kernel_rfl) (by kernel_rfl) (by kernel_rfl) (fun _ _ _ h => h) (Or.inl ⟨by rfl, ?_⟩) (by assumption) ?_
              rotate_left
              · (intro w hSw; (try dsimp only at hSw); go_simp; try with_reducible rfl)
              (try simp only [Act.put])
              refine wpAnyH_take (i := 10) (oi := _) (v := ?_) rfl (by kernel_rfl) (by kernel_rfl) (by kernel_rfl) (fun _ _ _ h => h) (Or.inl ⟨by rfl, ?_⟩) (by assumption) ?_
              rotate_left
              · (intro w hSw; (try dsimp only at hSw); go_simp; try with_reducible rfl)
              (try simp only [Act.put])
              refine wpAnyH_take (i := 11) (oi := _) (v := ?_) rfl (by kernel_rfl) (by kernel_rfl) (by kernel_rfl) (fun _ _ _ h => h) (Or.inl ⟨by rfl, ?_⟩) (by assumption) ?_
              rotate_left
              · (intro w hSw; (try dsimp only at hSw); go_simp; try with_reducible rfl)
              (try simp only [Act.put])
              refine wpAnyH_take (i := 14) (oi := _) (v := ?_) rfl (by kernel_rfl) (by kernel_rfl) (by kernel_rfl) (fun _ _ _ h => h) (Or.inl ⟨by rfl, ?_⟩) (by assumption) ?_
              rotate_left
              · (intro w hSw; (try dsimp only at hSw); go_simp; try with_reducible rfl)
              (try simp only [Act.put])
              refine wpAnyH_take (i := 15) (oi := _) (v := ?_) rfl (by kernel_rfl) (by kernel_rfl) (by kernel_rfl) (fun _ _ _ h => h) (Or.inl ⟨by rfl, ?_⟩) (by assumption) ?_
              rotate_left
              · (intro w hSw; (try dsimp only at hSw); go_simp; try with_reducible rfl)
              (try simp only [Act.put])
              refine wpAnyH_take (i := 4) (oi := _) (v := ?_) rfl (by kernel_rfl) (by kernel_rfl) (by kernel_rfl) (fun _ _ _ h => h) (Or.inl ⟨by rfl, ?_⟩) (by assumption) ?_
              rotate_left
              · (intro w hSw; (try dsimp only at hSw); go_simp; try with_reducible rfl)
              (try simp only [Act.put])
              refine wpAnyH_take (i := 8) (oi := _) (v := ?_) rfl (by kernel_rfl) (by kernel_rfl) (by kernel_rfl) (fun _ _ _ h => h) (Or.inl ⟨by rfl, ?_⟩) (by assumption) ?_
              rotate_left
              · (intro w hSw; (try dsimp only at hSw); go_simp; try with_reducible rfl)
              (try simp only [Act.put])
              refine wpAnyH_take (i := 12) (oi := _) (v := ?_) rfl (by kernel_rfl) (by kernel_rfl) (by kernel_rfl) (fun _ _ _ h => h) (Or.inl ⟨by rfl, ?_⟩) (by assumption) ?_
              rotate_left
              · (intro w hSw; (try dsimp only at hSw); go_simp; try with_reducible rfl)
              (try simp only [Act.put])
              refine wpAnyH_take (i := 16) (oi := _) (v := ?_) rfl (by kernel_rfl) (by kernel_rfl) (by kernel_rfl) (fun _ _ _ h => h) (Or.inl ⟨by rfl, ?_⟩) (by assumption) ?_
              rotate_left
              · (intro w hSw; (try dsimp only at hSw); go_simp; try with_reducible rfl)
              (try simp only [Act.put])
              refine wpAnyH_ready (rs := [1, 5]) (by kernel_rfl) (by simp) ?_
              refine AllReadyH.cons (o := _) rfl (fun K hK => ?_) ?_
              · go_simp
                refine hK.out _ _ (by assumption) (fun hHeld => ?_)
                clear hK K
                (try simp only [Act.put, List.setIfInBounds_toArray, List.set_cons_zero, List.set_cons_succ])
                refine wpAnyH_ready (rs := [5]) (by kernel_rfl) (by simp) ?_
                refine AllReadyH.cons (o := _) rfl (fun K hK => ?_) ?_
                · go_simp; go_at_call 42; refine (HRA.out _ _ (by assumption)).mono ?_; rintro e w' ⟨rfl, rfl⟩; go_wp2_with fail
                  refine hK.out _ _ (by assumption) (fun hHeld => ?_)
                  clear hK K
                  (try simp only [Act.put, List.setIfInBounds_toArray, List.set_cons_zero, List.set_cons_succ])
                  refine wpAnyH_ready (rs := [9]) (by kernel_rfl) (by simp) ?_
                  refine AllReadyH.cons (o := _) rfl (fun K hK => ?_) ?_
                  · go_simp; go_at_call 42; refine (HRA.out _ _ (by assumption)).mono ?_; rintro e w' ⟨rfl, rfl⟩; go_wp2_with fail
                    refine hK.out _ _ (by assumption) (fun hHeld => ?_)
                    clear hK K
                    (try simp only [Act.put, List.setIfInBounds_toArray, List.set_cons_zero, List.set_cons_succ])
                    refine wpAnyH_ready (rs := [13]) (by kernel_rfl) (by simp) ?_
                    refine AllReadyH.cons (o := _) rfl (fun K hK => ?_) ?_
                    · go_simp; go_at_call 42; refine (HRA.out _ _ (by assumption)).mono ?_; rintro e w' ⟨rfl, rfl⟩; go_wp2_with fail
                      refine hK.out _ _ (by assumption) (fun hHeld => ?_)
                      clear hK K
                      (try simp only [Act.put, List.setIfInBounds_toArray, List.set_cons_zero, List.set_cons_succ])
                      refine wpAnyH_ready (rs := [17]) (by kernel_rfl) (by simp) ?_
                      refine AllReadyH.cons (o := _) rfl (fun K hK => ?_) ?_
                      · go_simp; go_at_call 42; refine (HRA.out _ _ (by assumption)).mono ?_; rintro e w' ⟨rfl, rfl⟩; go_wp2_with fail
                        refine hK.out _ _ (by assumption) (fun hHeld => ?_)
                        clear hK K
                        (try simp only [Act.put, List.setIfInBounds_toArray, List.set_cons_zero, List.set_cons_succ])
                        refine wpAnyH_take (i := 18) (oi := _) (v := ?_) rfl (by kernel_rfl) (by kernel_rfl) (by kernel_rfl) (fun _ _ _ h => h) (Or.inl ⟨by rfl, ?_⟩) (by assumption) ?_
                        rotate_left
                        · (intro w hSw; (try dsimp only at hSw); go_simp; try with_reducible rfl)
                        (try simp only [Act.put, List.setIfInBounds_toArray])
                        refine wpAnyH_ready (rs := [19]) (by kernel_rfl) (by simp) ?_
                        refine AllReadyH.cons (o := _) rfl (fun K hK => ?_) ?_
                        · go_simp
                          refine hK.out _ _ (HKB.out _ (HB1'.out _)) (fun hHeld => ?_)
                          clear hK K
                          (try simp only [Act.put, List.setIfInBounds_toArray, List.set_cons_zero, List.set_cons_succ])
                          refine wpAnyH_ready (rs := [20]) (by kernel_rfl) (by simp) ?_
                          refine AllReadyH.cons (o := _) rfl (fun K hK => ?_) ?_
                          · (refine step_appClue rfl _ _ rfl C _ (rdTo L k) [(rz u0, rz u1, rz u2, rz u3)] _ _ _ rfl rfl HKA.out.2.2.2.1 rfl (src_oneC (w := w5.drew) (rz u0) (rz u1) (rz u2) (rz u3) rfl) HKA.out.2.2.2.2 hlen ?_; intro v7 w7 hO7 hB7 hG7; obtain ⟨ao7, cp7, hv7⟩ := hO7.any; obtain ⟨q7, hq7⟩ : ∃ q, q = (rdTo L k ++ [((rz u0, rz u1, rz u2, rz u3) : RClue)]).length := ⟨_, rfl⟩; rw [← hq7] at hv7; subst hv7; have HQ7 := Lib.hid hq7; clear hq7; have k8 := HKA.out.put hO7 hB7 hG1 hGC; have s1 : w7.cell? ⟨G, 1, none⟩ = some (.slice ao k cp) := (HKA.out.2.2.1.below hB7 hGC).cell 1; have s2 := (HKA.out.2.2.1.below hB7 hGC).free 1)
                            refine hK.out _ _ (HKB.out _ (HB2'.out _ _ hG7)) (fun hHeld => ?_)
                            clear hK K
                            (try simp only [Act.put, List.setIfInBounds_toArray])
                            refine wpAnyH_take (i := 21) (oi := _) (v := ?_) rfl (by kernel_rfl) (by kernel_rfl) (by kernel_rfl) (fun _ _ _ h => h) (Or.inl ⟨by rfl, ?_⟩) (by assumption) ?_
                            rotate_left
                            · (intro w hSw; (try dsimp only at hSw); go_simp; try with_reducible rfl)
                            (try simp only [Act.put])
                            refine wpAnyH_ready (rs := [22]) (by kernel_rfl) (by simp) ?_
                            refine AllReadyH.cons (o := _) rfl (fun K hK => ?_) ?_
                            · go_simp
                              refine hK.out _ _ (HKB.out _ (HB3'.out _ _ _ hG7)) (fun hHeld => ?_)
                              clear hK K
                              (try simp only [Act.put, List.setIfInBounds_toArray, List.set_cons_zero, List.set_cons_succ])
                              refine wpAnyH_done (by kernel_rfl) ?_ _
                              obtain rfl : q7 = k + 1 := by rw [HQ7.out, List.length_append, length_rdTo]; rfl
                              have HK8 : Hid (KG w G C (w7.setCell ⟨G, 1, none⟩ (.slice ao7 (k + 1) cp7)) x (.slice ao7 (k + 1) cp7) (rdTo L (k + 1))) := Lib.hid (by rw [HSU.out]; exact k8)
                              have HT8 : Hid (∀ g, (some ⟨g3, 0, none⟩ : Option Addr) = some ⟨g, 0, none⟩ → ∀ j, j < m → (w7.setCell ⟨G, 1, none⟩ (.slice ao7 (k + 1) cp7)).cell? ⟨g, j, none⟩ = some (.string (L.getD j ByteArray.empty))) := Lib.hid (by
                                intro g hg j hj
                                injection (Option.some.inj hg) with h3
                                subst h3
                                exact (World.cell?_setCell_far w7 ⟨G, 1, none⟩ ⟨g3, j, none⟩ _ HG3.out).trans ((hB7.cell (p := ⟨g3, j, none⟩) hgc).trans (HT5B.out _ j hj)))
                              clear k8 hO7 hB7 hG7 s1 s2
                              go_wp2
                              go_roundw
                              case rel => exact ⟨k + 1, ao7, cp7, by omega, by go_num, HK8, HF2, HT8⟩
                              case measure => simp [intOf]; omega
                            exact AllReadyH.nil
                          exact AllReadyH.nil
                        exact AllReadyH.nil
                      exact AllReadyH.nil
                    exact AllReadyH.nil
                  exact AllReadyH.nil
                exact AllReadyH.nil
              refine AllReadyH.cons (o := _) rfl (fun K hK => ?_) ?_
              · go_simp; go_at_call 42; refine (HRA.out _ _ (by assumption)).mono ?_; rintro e w' ⟨rfl, rfl⟩; go_wp2_with fail
                refine hK.out _ _ (by assumption) (fun hHeld => ?_)
                clear hK K
                (try simp only [Act.put, List.setIfInBounds_toArray, List.set_cons_zero, List.set_cons_succ])
                refine wpAnyH_ready (rs := [1, 9]) (by kernel_rfl) (by simp) ?_
                refine AllReadyH.cons (o := _) rfl (fun K hK => ?_) ?_
                · go_simp
                  refine hK.out _ _ (by assumption) (fun hHeld => ?_)
                  clear hK K
                  (try simp only [Act.put, List.setIfInBounds_toArray, List.set_cons_zero, List.set_cons_succ])
                  refine wpAnyH_ready (rs := [9]) (by kernel_rfl) (by simp) ?_
                  refine AllReadyH.cons (o := _) rfl (fun K hK => ?_) ?_
                  · go_simp; go_at_call 42; refine (HRA.out _ _ (by assumption)).mono ?_; rintro e w' ⟨rfl, rfl⟩; go_wp2_with fail
                    refine hK.out _ _ (by assumption) (fun hHeld => ?_)
                    clear hK K
                    (try simp only [Act.put, List.setIfInBounds_toArray, List.set_cons_zero, List.set_cons_succ])
                    refine wpAnyH_ready (rs := [13]) (by kernel_rfl) (by simp) ?_
                    refine AllReadyH.cons (o := _) rfl (fun K hK => ?_) ?_
                    · go_simp; go_at_call 42; refine (HRA.out _ _ (by assumption)).mono ?_; rintro e w' ⟨rfl, rfl⟩; go_wp2_with fail
                      refine hK.out _ _ (by assumption) (fun hHeld => ?_)
                      clear hK K
                      (try simp only [Act.put, List.setIfInBounds_toArray, List.set_cons_zero, List.set_cons_succ])
                      refine wpAnyH_ready (rs := [17]) (by kernel_rfl) (by simp) ?_
                      refine AllReadyH.cons (o := _) rfl (fun K hK => ?_) ?_
                      · go_simp; go_at_call 42; refine (HRA.out _ _ (by assumption)).mono ?_; rintro e w' ⟨rfl, rfl⟩; go_wp2_with fail
                        refine hK.out _ _ (by assumption) (fun hHeld => ?_)
                        clear hK K
                        (try simp only [Act.put, List.setIfInBounds_toArray, List.set_cons_zero, List.set_cons_succ])
                        refine wpAnyH_take (i := 18) (oi := _) (v := ?_) rfl (by kernel_rfl) (by kernel_rfl) (by kernel_rfl) (fun _ _ _ h => h) (Or.inl ⟨by rfl, ?_⟩) (by assumption) ?_
                        rotate_left
                        · (intro w hSw; (try dsimp only at hSw); go_simp; try with_reducible rfl)
                        (try simp only [Act.put, List.setIfInBounds_toArray])
                        refine wpAnyH_ready (rs := [19]) (by kernel_rfl) (by simp) ?_
                        refine AllReadyH.cons (o := _) rfl (fun K hK => ?_) ?_
                        · go_simp
                          refine hK.out _ _ (HKB.out _ (HB1'.out _)) (fun hHeld => ?_)
                          clear hK K
                          (try simp only [Act.put, List.setIfInBounds_toArray, List.set_cons_zero, List.set_cons_succ])
                          refine wpAnyH_ready (rs := [20]) (by kernel_rfl) (by simp) ?_
                          refine AllReadyH.cons (o := _) rfl (fun K hK => ?_) ?_
                          · (refine step_appClue rfl _ _ rfl C _ (rdTo L k) [(rz u0, rz u1, rz u2, rz u3)] _ _ _ rfl rfl HKA.out.2.2.2.1 rfl (src_oneC (w := w5.drew) (rz u0) (rz u1) (rz u2) (rz u3) rfl) HKA.out.2.2.2.2 hlen ?_; intro v7 w7 hO7 hB7 hG7; obtain ⟨ao7, cp7, hv7⟩ := hO7.any; obtain ⟨q7, hq7⟩ : ∃ q, q = (rdTo L k ++ [((rz u0, rz u1, rz u2, rz u3) : RClue)]).length := ⟨_, rfl⟩; rw [← hq7] at hv7; subst hv7; have HQ7 := Lib.hid hq7; clear hq7; have k8 := HKA.out.put hO7 hB7 hG1 hGC; have s1 : w7.cell? ⟨G, 1, none⟩ = some (.slice ao k cp) := (HKA.out.2.2.1.below hB7 hGC).cell 1; have s2 := (HKA.out.2.2.1.below hB7 hGC).free 1)
                            refine hK.out _ _ (HKB.out _ (HB2'.out _ _ hG7)) (fun hHeld => ?_)
                            clear hK K
                            (try simp only [Act.put, List.setIfInBounds_toArray])
                            refine wpAnyH_take (i := 21) (oi := _) (v := ?_) rfl (by kernel_rfl) (by kernel_rfl) (by kernel_rfl) (fun _ _ _ h => h) (Or.inl ⟨by rfl, ?_⟩) (by assumption) ?_
                            rotate_left
                            · (intro w hSw; (try dsimp only at hSw); go_simp; try with_reducible rfl)
                            (try simp only [Act.put])
                            refine wpAnyH_ready (rs := [22]) (by kernel_rfl) (by simp) ?_
                            refine AllReadyH.cons (o := _) rfl (fun K hK => ?_) ?_
                            · go_simp
                              refine hK.out _ _ (HKB.out _ (HB3'.out _ _ _ hG7)) (fun hHeld => ?_)
                              clear hK K
                              (try simp only [Act.put, List.setIfInBounds_toArray, List.set_cons_zero, List.set_cons_succ])
                              refine wpAnyH_done (by kernel_rfl) ?_ _
                              obtain rfl : q7 = k + 1 := by rw [HQ7.out, List.length_append, length_rdTo]; rfl
                              have HK8 : Hid (KG w G C (w7.setCell ⟨G, 1, none⟩ (.slice ao7 (k + 1) cp7)) x (.slice ao7 (k + 1) cp7) (rdTo L (k + 1))) := Lib.hid (by rw [HSU.out]; exact k8)
                              have HT8 : Hid (∀ g, (some ⟨g3, 0, none⟩ : Option Addr) = some ⟨g, 0, none⟩ → ∀ j, j < m → (w7.setCell ⟨G, 1, none⟩ (.slice ao7 (k + 1) cp7)).cell? ⟨g, j, none⟩ = some (.string (L.getD j ByteArray.empty))) := Lib.hid (by
                                intro g hg j hj
                                injection (Option.some.inj hg) with h3
                                subst h3
                                exact (World.cell?_setCell_far w7 ⟨G, 1, none⟩ ⟨g3, j, none⟩ _ HG3.out).trans ((hB7.cell (p := ⟨g3, j, none⟩) hgc).trans (HT5B.out _ j hj)))
                              clear k8 hO7 hB7 hG7 s1 s2
                              go_wp2
                              go_roundw
                              case rel => exact ⟨k + 1, ao7, cp7, by omega, by go_num, HK8, HF2, HT8⟩
                              case measure => simp [intOf]; omega
                            exact AllReadyH.nil
                          exact AllReadyH.nil
                        exact AllReadyH.nil
                      exact AllReadyH.nil
                    exact AllReadyH.nil
                  exact AllReadyH.nil
                refine AllReadyH.cons (o := _) rfl (fun K hK => ?_) ?_
                · go_simp; go_at_call 42; refine (HRA.out _ _ (by assumption)).mono ?_; rintro e w' ⟨rfl, rfl⟩; go_wp2_with fail
                  refine hK.out _ _ (by assumption) (fun hHeld => ?_)
                  clear hK K
                  (try simp only [Act.put, List.setIfInBounds_toArray, List.set_cons_zero, List.set_cons_succ])
                  refine wpAnyH_ready (rs := [1, 13]) (by kernel_rfl) (by simp) ?_
                  refine AllReadyH.cons (o := _) rfl (fun K hK => ?_) ?_
                  · go_simp
                    refine hK.out _ _ (by assumption) (fun hHeld => ?_)
                    clear hK K
                    (try simp only [Act.put, List.setIfInBounds_toArray, List.set_cons_zero, List.set_cons_succ])
                    refine wpAnyH_ready (rs := [13]) (by kernel_rfl) (by simp) ?_
                    refine AllReadyH.cons (o := _) rfl (fun K hK => ?_) ?_
                    · go_simp; go_at_call 42; refine (HRA.out _ _ (by assumption)).mono ?_; rintro e w' ⟨rfl, rfl⟩; go_wp2_with fail
                      refine hK.out _ _ (by assumption) (fun hHeld => ?_)
                      clear hK K
                      (try simp only [Act.put, List.setIfInBounds_toArray, List.set_cons_zero, List.set_cons_succ])
                      refine wpAnyH_ready (rs := [17]) (by kernel_rfl) (by simp) ?_
                      refine AllReadyH.cons (o := _) rfl (fun K hK => ?_) ?_
                      · go_simp; go_at_call 42; refine (HRA.out _ _ (by assumption)).mono ?_; rintro e w' ⟨rfl, rfl⟩; go_wp2_with fail
                        refine hK.out _ _ (by assumption) (fun hHeld => ?_)
                        clear hK K
                        (try simp only [Act.put, List.setIfInBounds_toArray, List.set_cons_zero, List.set_cons_succ])
                        refine wpAnyH_take (i := 18) (oi := _) (v := ?_) rfl (by kernel_rfl) (by kernel_rfl) (by kernel_rfl) (fun _ _ _ h => h) (Or.inl ⟨by rfl, ?_⟩) (by assumption) ?_
                        rotate_left
                        · (intro w hSw; (try dsimp only at hSw); go_simp; try with_reducible rfl)
                        (try simp only [Act.put, List.setIfInBounds_toArray])
                        refine wpAnyH_ready (rs := [19]) (by kernel_rfl) (by simp) ?_
                        refine AllReadyH.cons (o := _) rfl (fun K hK => ?_) ?_
                        · go_simp
                          refine hK.out _ _ (HKB.out _ (HB1'.out _)) (fun hHeld => ?_)
                          clear hK K
                          (try simp only [Act.put, List.setIfInBounds_toArray, List.set_cons_zero, List.set_cons_succ])
                          refine wpAnyH_ready (rs := [20]) (by kernel_rfl) (by simp) ?_
                          refine AllReadyH.cons (o := _) rfl (fun K hK => ?_) ?_
                          · (refine step_appClue rfl _ _ rfl C _ (rdTo L k) [(rz u0, rz u1, rz u2, rz u3)] _ _ _ rfl rfl HKA.out.2.2.2.1 rfl (src_oneC (w := w5.drew) (rz u0) (rz u1) (rz u2) (rz u3) rfl) HKA.out.2.2.2.2 hlen ?_; intro v7 w7 hO7 hB7 hG7; obtain ⟨ao7, cp7, hv7⟩ := hO7.any; obtain ⟨q7, hq7⟩ : ∃ q, q = (rdTo L k ++ [((rz u0, rz u1, rz u2, rz u3) : RClue)]).length := ⟨_, rfl⟩; rw [← hq7] at hv7; subst hv7; have HQ7 := Lib.hid hq7; clear hq7; have k8 := HKA.out.put hO7 hB7 hG1 hGC; have s1 : w7.cell? ⟨G, 1, none⟩ = some (.slice ao k cp) := (HKA.out.2.2.1.below hB7 hGC).cell 1; have s2 := (HKA.out.2.2.1.below hB7 hGC).free 1)
                            refine hK.out _ _ (HKB.out _ (HB2'.out _ _ hG7)) (fun hHeld => ?_)
                            clear hK K
                            (try simp only [Act.put, List.setIfInBounds_toArray])
                            refine wpAnyH_take (i := 21) (oi := _) (v := ?_) rfl (by kernel_rfl) (by kernel_rfl) (by kernel_rfl) (fun _ _ _ h => h) (Or.inl ⟨by rfl, ?_⟩) (by assumption) ?_
                            rotate_left
                            · (intro w hSw; (try dsimp only at hSw); go_simp; try with_reducible rfl)
                            (try simp only [Act.put])
                            refine wpAnyH_ready (rs := [22]) (by kernel_rfl) (by simp) ?_
                            refine AllReadyH.cons (o := _) rfl (fun K hK => ?_) ?_
                            · go_simp
                              refine hK.out _ _ (HKB.out _ (HB3'.out _ _ _ hG7)) (fun hHeld => ?_)
                              clear hK K
                              (try simp only [Act.put, List.setIfInBounds_toArray, List.set_cons_zero, List.set_cons_succ])
                              refine wpAnyH_done (by kernel_rfl) ?_ _
                              obtain rfl : q7 = k + 1 := by rw [HQ7.out, List.length_append, length_rdTo]; rfl
                              have HK8 : Hid (KG w G C (w7.setCell ⟨G, 1, none⟩ (.slice ao7 (k + 1) cp7)) x (.slice ao7 (k + 1) cp7) (rdTo L (k + 1))) := Lib.hid (by rw [HSU.out]; exact k8)
                              have HT8 : Hid (∀ g, (some ⟨g3, 0, none⟩ : Option Addr) = some ⟨g, 0, none⟩ → ∀ j, j < m → (w7.setCell ⟨G, 1, none⟩ (.slice ao7 (k + 1) cp7)).cell? ⟨g, j, none⟩ = some (.string (L.getD j ByteArray.empty))) := Lib.hid (by
                                intro g hg j hj
                                injection (Option.some.inj hg) with h3
                                subst h3
                                exact (World.cell?_setCell_far w7 ⟨G, 1, none⟩ ⟨g3, j, none⟩ _ HG3.out).trans ((hB7.cell (p := ⟨g3, j, none⟩) hgc).trans (HT5B.out _ j hj)))
                              clear k8 hO7 hB7 hG7 s1 s2
                              go_wp2
                              go_roundw
                              case rel => exact ⟨k + 1, ao7, cp7, by omega, by go_num, HK8, HF2, HT8⟩
                              case measure => simp [intOf]; omega
                            exact AllReadyH.nil
                          exact AllReadyH.nil
                        exact AllReadyH.nil
                      exact AllReadyH.nil
                    exact AllReadyH.nil
                  refine AllReadyH.cons (o := _) rfl (fun K hK => ?_) ?_
                  · go_simp; go_at_call 42; refine (HRA.out _ _ (by assumption)).mono ?_; rintro e w' ⟨rfl, rfl⟩; go_wp2_with fail
                    refine hK.out _ _ (by assumption) (fun hHeld => ?_)
                    clear hK K
                    (try simp only [Act.put, List.setIfInBounds_toArray, List.set_cons_zero, List.set_cons_succ])
                    refine wpAnyH_ready (rs := [1, 17]) (by kernel_rfl) (by simp) ?_
                    refine AllReadyH.cons (o := _) rfl (fun K hK => ?_) ?_
                    · go_simp
                      refine hK.out _ _ (by assumption) (fun hHeld => ?_)
                      clear hK K
                      (try simp only [Act.put, List.setIfInBounds_toArray, List.set_cons_zero, List.set_cons_succ])
                      refine wpAnyH_ready (rs := [17]) (by kernel_rfl) (by simp) ?_
                      refine AllReadyH.cons (o := _) rfl (fun K hK => ?_) ?_
                      · go_simp; go_at_call 42; refine (HRA.out _ _ (by assumption)).mono ?_; rintro e w' ⟨rfl, rfl⟩; go_wp2_with fail
                        refine hK.out _ _ (by assumption) (fun hHeld => ?_)
                        clear hK K
                        (try simp only [Act.put, List.setIfInBounds_toArray, List.set_cons_zero, List.set_cons_succ])
                        refine wpAnyH_take (i := 18) (oi := _) (v := ?_) rfl (by kernel_rfl) (by kernel_rfl) (by kernel_rfl) (fun _ _ _ h => h) (Or.inl ⟨by rfl, ?_⟩) (by assumption) ?_
                        rotate_left
                        · (intro w hSw; (try dsimp only at hSw); go_simp; try with_reducible rfl)
                        (try simp only [Act.put, List.setIfInBounds_toArray])
                        refine wpAnyH_ready (rs := [19]) (by kernel_rfl) (by simp) ?_
                        refine AllReadyH.cons (o := _) rfl (fun K hK => ?_) ?_
                        · go_simp
                          refine hK.out _ _ (HKB.out _ (HB1'.out _)) (fun hHeld => ?_)
                          clear hK K
                          (try simp only [Act.put, List.setIfInBounds_toArray, List.set_cons_zero, List.set_cons_succ])
                          refine wpAnyH_ready (rs := [20]) (by kernel_rfl) (by simp) ?_
                          refine AllReadyH.cons (o := _) rfl (fun K hK => ?_) ?_
                          · (refine step_appClue rfl _ _ rfl C _ (rdTo L k) [(rz u0, rz u1, rz u2, rz u3)] _ _ _ rfl rfl HKA.out.2.2.2.1 rfl (src_oneC (w := w5.drew) (rz u0) (rz u1) (rz u2) (rz u3) rfl) HKA.out.2.2.2.2 hlen ?_; intro v7 w7 hO7 hB7 hG7; obtain ⟨ao7, cp7, hv7⟩ := hO7.any; obtain ⟨q7, hq7⟩ : ∃ q, q = (rdTo L k ++ [((rz u0, rz u1, rz u2, rz u3) : RClue)]).length := ⟨_, rfl⟩; rw [← hq7] at hv7; subst hv7; have HQ7 := Lib.hid hq7; clear hq7; have k8 := HKA.out.put hO7 hB7 hG1 hGC; have s1 : w7.cell? ⟨G, 1, none⟩ = some (.slice ao k cp) := (HKA.out.2.2.1.below hB7 hGC).cell 1; have s2 := (HKA.out.2.2.1.below hB7 hGC).free 1)
                            refine hK.out _ _ (HKB.out _ (HB2'.out _ _ hG7)) (fun hHeld => ?_)
                            clear hK K
                            (try simp only [Act.put, List.setIfInBounds_toArray])
                            refine wpAnyH_take (i := 21) (oi := _) (v := ?_) rfl (by kernel_rfl) (by kernel_rfl) (by kernel_rfl) (fun _ _ _ h => h) (Or.inl ⟨by rfl, ?_⟩) (by assumption) ?_
                            rotate_left
                            · (intro w hSw; (try dsimp only at hSw); go_simp; try with_reducible rfl)
                            (try simp only [Act.put])
                            refine wpAnyH_ready (rs := [22]) (by kernel_rfl) (by simp) ?_
                            refine AllReadyH.cons (o := _) rfl (fun K hK => ?_) ?_
                            · go_simp
                              refine hK.out _ _ (HKB.out _ (HB3'.out _ _ _ hG7)) (fun hHeld => ?_)
                              clear hK K
                              (try simp only [Act.put, List.setIfInBounds_toArray, List.set_cons_zero, List.set_cons_succ])
                              refine wpAnyH_done (by kernel_rfl) ?_ _
                              obtain rfl : q7 = k + 1 := by rw [HQ7.out, List.length_append, length_rdTo]; rfl
                              have HK8 : Hid (KG w G C (w7.setCell ⟨G, 1, none⟩ (.slice ao7 (k + 1) cp7)) x (.slice ao7 (k + 1) cp7) (rdTo L (k + 1))) := Lib.hid (by rw [HSU.out]; exact k8)
                              have HT8 : Hid (∀ g, (some ⟨g3, 0, none⟩ : Option Addr) = some ⟨g, 0, none⟩ → ∀ j, j < m → (w7.setCell ⟨G, 1, none⟩ (.slice ao7 (k + 1) cp7)).cell? ⟨g, j, none⟩ = some (.string (L.getD j ByteArray.empty))) := Lib.hid (by
                                intro g hg j hj
                                injection (Option.some.inj hg) with h3
                                subst h3
                                exact (World.cell?_setCell_far w7 ⟨G, 1, none⟩ ⟨g3, j, none⟩ _ HG3.out).trans ((hB7.cell (p := ⟨g3, j, none⟩) hgc).trans (HT5B.out _ j hj)))
                              clear k8 hO7 hB7 hG7 s1 s2
                              go_wp2
                              go_roundw
                              case rel => exact ⟨k + 1, ao7, cp7, by omega, by go_num, HK8, HF2, HT8⟩
                              case measure => simp [intOf]; omega
                            exact AllReadyH.nil
                          exact AllReadyH.nil
                        exact AllReadyH.nil
                      exact AllReadyH.nil
                    refine AllReadyH.cons (o := _) rfl (fun K hK => ?_) ?_
                    · go_simp; go_at_call 42; refine (HRA.out _ _ (by assumption)).mono ?_; rintro e w' ⟨rfl, rfl⟩; go_wp2_with fail
                      refine hK.out _ _ (by assumption) (fun hHeld => ?_)
                      clear hK K
                      (try simp only [Act.put, List.setIfInBounds_toArray, List.set_cons_zero, List.set_cons_succ])
                      refine wpAnyH_take (i := 18) (oi := _) (v := ?_) rfl (by kernel_rfl) (by kernel_rfl) (by kernel_rfl) (fun _ _ _ h => h) (Or.inl ⟨by rfl, ?_⟩) (by assumption) ?_
                      rotate_left
                      · (intro w hSw; (try dsimp only at hSw); go_simp; try with_reducible rfl)
                      (try simp only [Act.put, List.setIfInBounds_toArray])
                      refine wpAnyH_ready (rs := [1, 19]) (by kernel_rfl) (by simp) ?_
                      refine AllReadyH.cons (o := _) rfl (fun K hK => ?_) ?_
                      · go_simp
                        refine hK.out _ _ (by assumption) (fun hHeld => ?_)
                        clear hK K
                        (try simp only [Act.put, List.setIfInBounds_toArray, List.set_cons_zero, List.set_cons_succ])
                        refine wpAnyH_ready (rs := [19]) (by kernel_rfl) (by simp) ?_
                        refine AllReadyH.cons (o := _) rfl (fun K hK => ?_) ?_
                        · go_simp
                          refine hK.out _ _ (HKB.out _ (HB1'.out _)) (fun hHeld => ?_)
                          clear hK K
                          (try simp only [Act.put, List.setIfInBounds_toArray, List.set_cons_zero, List.set_cons_succ])
                          refine wpAnyH_ready (rs := [20]) (by kernel_rfl) (by simp) ?_
                          refine AllReadyH.cons (o := _) rfl (fun K hK => ?_) ?_
                          · (refine step_appClue rfl _ _ rfl C _ (rdTo L k) [(rz u0, rz u1, rz u2, rz u3)] _ _ _ rfl rfl HKA.out.2.2.2.1 rfl (src_oneC (w := w5.drew) (rz u0) (rz u1) (rz u2) (rz u3) rfl) HKA.out.2.2.2.2 hlen ?_; intro v7 w7 hO7 hB7 hG7; obtain ⟨ao7, cp7, hv7⟩ := hO7.any; obtain ⟨q7, hq7⟩ : ∃ q, q = (rdTo L k ++ [((rz u0, rz u1, rz u2, rz u3) : RClue)]).length := ⟨_, rfl⟩; rw [← hq7] at hv7; subst hv7; have HQ7 := Lib.hid hq7; clear hq7; have k8 := HKA.out.put hO7 hB7 hG1 hGC; have s1 : w7.cell? ⟨G, 1, none⟩ = some (.slice ao k cp) := (HKA.out.2.2.1.below hB7 hGC).cell 1; have s2 := (HKA.out.2.2.1.below hB7 hGC).free 1)
                            refine hK.out _ _ (HKB.out _ (HB2'.out _ _ hG7)) (fun hHeld => ?_)
                            clear hK K
                            (try simp only [Act.put, List.setIfInBounds_toArray])
                            refine wpAnyH_take (i := 21) (oi := _) (v := ?_) rfl (by kernel_rfl) (by kernel_rfl) (by kernel_rfl) (fun _ _ _ h => h) (Or.inl ⟨by rfl, ?_⟩) (by assumption) ?_
                            rotate_left
                            · (intro w hSw; (try dsimp only at hSw); go_simp; try with_reducible rfl)
                            (try simp only [Act.put])
                            refine wpAnyH_ready (rs := [22]) (by kernel_rfl) (by simp) ?_
                            refine AllReadyH.cons (o := _) rfl (fun K hK => ?_) ?_
                            · go_simp
                              refine hK.out _ _ (HKB.out _ (HB3'.out _ _ _ hG7)) (fun hHeld => ?_)
                              clear hK K
                              (try simp only [Act.put, List.setIfInBounds_toArray, List.set_cons_zero, List.set_cons_succ])
                              refine wpAnyH_done (by kernel_rfl) ?_ _
                              obtain rfl : q7 = k + 1 := by rw [HQ7.out, List.length_append, length_rdTo]; rfl
                              have HK8 : Hid (KG w G C (w7.setCell ⟨G, 1, none⟩ (.slice ao7 (k + 1) cp7)) x (.slice ao7 (k + 1) cp7) (rdTo L (k + 1))) := Lib.hid (by rw [HSU.out]; exact k8)
                              have HT8 : Hid (∀ g, (some ⟨g3, 0, none⟩ : Option Addr) = some ⟨g, 0, none⟩ → ∀ j, j < m → (w7.setCell ⟨G, 1, none⟩ (.slice ao7 (k + 1) cp7)).cell? ⟨g, j, none⟩ = some (.string (L.getD j ByteArray.empty))) := Lib.hid (by
                                intro g hg j hj
                                injection (Option.some.inj hg) with h3
                                subst h3
                                exact (World.cell?_setCell_far w7 ⟨G, 1, none⟩ ⟨g3, j, none⟩ _ HG3.out).trans ((hB7.cell (p := ⟨g3, j, none⟩) hgc).trans (HT5B.out _ j hj)))
                              clear k8 hO7 hB7 hG7 s1 s2
                              go_wp2
                              go_roundw
                              case rel => exact ⟨k + 1, ao7, cp7, by omega, by go_num, HK8, HF2, HT8⟩
                              case measure => simp [intOf]; omega
                            exact AllReadyH.nil
                          exact AllReadyH.nil
                        exact AllReadyH.nil
                      refine AllReadyH.cons (o := _) rfl (fun K hK => ?_) ?_
                      · go_simp
                        refine hK.out _ _ (HKB.out _ (HB1'.out _)) (fun hHeld => ?_)
                        clear hK K
                        (try simp only [Act.put, List.setIfInBounds_toArray, List.set_cons_zero, List.set_cons_succ])
                        refine wpAnyH_ready (rs := [1]) (by kernel_rfl) (by simp) ?_
                        refine AllReadyH.cons (o := _) rfl (fun K hK => ?_) ?_
                        · go_simp
                          refine hK.out _ _ (by assumption) (fun hHeld => ?_)
                          clear hK K
                          (try simp only [Act.put, List.setIfInBounds_toArray, List.set_cons_zero, List.set_cons_succ])
                          refine wpAnyH_ready (rs := [20]) (by kernel_rfl) (by simp) ?_
                          refine AllReadyH.cons (o := _) rfl (fun K hK => ?_) ?_
                          · (refine step_appClue rfl _ _ rfl C _ (rdTo L k) [(rz u0, rz u1, rz u2, rz u3)] _ _ _ rfl rfl HKA.out.2.2.2.1 rfl (src_oneC (w := w5.drew) (rz u0) (rz u1) (rz u2) (rz u3) rfl) HKA.out.2.2.2.2 hlen ?_; intro v7 w7 hO7 hB7 hG7; obtain ⟨ao7, cp7, hv7⟩ := hO7.any; obtain ⟨q7, hq7⟩ : ∃ q, q = (rdTo L k ++ [((rz u0, rz u1, rz u2, rz u3) : RClue)]).length := ⟨_, rfl⟩; rw [← hq7] at hv7; subst hv7; have HQ7 := Lib.hid hq7; clear hq7; have k8 := HKA.out.put hO7 hB7 hG1 hGC; have s1 : w7.cell? ⟨G, 1, none⟩ = some (.slice ao k cp) := (HKA.out.2.2.1.below hB7 hGC).cell 1; have s2 := (HKA.out.2.2.1.below hB7 hGC).free 1)
                            refine hK.out _ _ (HKB.out _ (HB2'.out _ _ hG7)) (fun hHeld => ?_)
                            clear hK K
                            (try simp only [Act.put, List.setIfInBounds_toArray])
                            refine wpAnyH_take (i := 21) (oi := _) (v := ?_) rfl (by kernel_rfl) (by kernel_rfl) (by kernel_rfl) (fun _ _ _ h => h) (Or.inl ⟨by rfl, ?_⟩) (by assumption) ?_
                            rotate_left
                            · (intro w hSw; (try dsimp only at hSw); go_simp; try with_reducible rfl)
                            (try simp only [Act.put])
                            refine wpAnyH_ready (rs := [22]) (by kernel_rfl) (by simp) ?_
                            refine AllReadyH.cons (o := _) rfl (fun K hK => ?_) ?_
                            · go_simp
                              refine hK.out _ _ (HKB.out _ (HB3'.out _ _ _ hG7)) (fun hHeld => ?_)
                              clear hK K
                              (try simp only [Act.put, List.setIfInBounds_toArray, List.set_cons_zero, List.set_cons_succ])
                              refine wpAnyH_done (by kernel_rfl) ?_ _
                              obtain rfl : q7 = k + 1 := by rw [HQ7.out, List.length_append, length_rdTo]; rfl
                              have HK8 : Hid (KG w G C (w7.setCell ⟨G, 1, none⟩ (.slice ao7 (k + 1) cp7)) x (.slice ao7 (k + 1) cp7) (rdTo L (k + 1))) := Lib.hid (by rw [HSU.out]; exact k8)
                              have HT8 : Hid (∀ g, (some ⟨g3, 0, none⟩ : Option Addr) = some ⟨g, 0, none⟩ → ∀ j, j < m → (w7.setCell ⟨G, 1, none⟩ (.slice ao7 (k + 1) cp7)).cell? ⟨g, j, none⟩ = some (.string (L.getD j ByteArray.empty))) := Lib.hid (by
                                intro g hg j hj
                                injection (Option.some.inj hg) with h3
                                subst h3
                                exact (World.cell?_setCell_far w7 ⟨G, 1, none⟩ ⟨g3, j, none⟩ _ HG3.out).trans ((hB7.cell (p := ⟨g3, j, none⟩) hgc).trans (HT5B.out _ j hj)))
                              clear k8 hO7 hB7 hG7 s1 s2
                              go_wp2
                              go_roundw
                              case rel => exact ⟨k + 1, ao7, cp7, by omega, by go_num, HK8, HF2, HT8⟩
                              case measure => simp [intOf]; omega
                            exact AllReadyH.nil
                          exact AllReadyH.nil
                        exact AllReadyH.nil
                      exact AllReadyH.nil
                    exact AllReadyH.nil
                  exact AllReadyH.nil
                exact AllReadyH.nil
              exact AllReadyH.nil
            · have HE := Lib.hid (HFK.out h4)
              obtain ⟨n4, hn4⟩ : ∃ n, n = (cutL t 46).length := ⟨_, rfl⟩
              rw [← hn4] at h4 ⊢
              have hnb : ((n4 : Int) != 4) = true := by rw [bne_iff_ne]; omega
              clear o5 b5 hrd5 hn4 h4 ec
              have r0 : w5.cell? ⟨w.heap.size, 0, none⟩ = some (.int .i64 0) := HK5.out.2.1.cell 0
              have r1 : w5.cell? ⟨w.heap.size, 1, none⟩ = some (.slice none 0 0) := HK5.out.2.1.cell 1
              have f0 := HK5.out.2.1.free 0
              have f1 := HK5.out.2.1.free 1
              go_wp2
              (try simp only [Exit.inBlock, Exit.then])
              refine bodyPost_ret (results_cellZ rfl _ _ w.heap.size 0 (.slice none 0 0) rfl rfl (setZ0 r0 r1) (setZ1 r0 r1)) rfl ?_
              exact ⟨0, none, 0, 0, by rw [HE.out]; exact rfl, fun h => (by rw [HE.out] at h; cases h), HK5.out.1.setCell (Nat.le_refl _) _ |>.setCell (Nat.le_refl _) _⟩
          · obtain rfl : k = m := by omega
            have hkk : ¬ (k : Int) < (k : Int) := by omega
            obtain ⟨q, hq⟩ : ∃ q, q = k := ⟨_, rfl⟩
            have HPP : Hid (rdTo L k = cluesZ s) := Lib.hid (by unfold cluesZ; rw [HTX.out, ← HM.out])
            have HQ : Hid (k = (rdTo L k).length) := Lib.hid (length_rdTo L k).symm
            have HF3 : Hid (∀ k, k < (textsL s).length → (cutL ((textsL s).getD k ByteArray.empty) 46).length = 4) := Lib.hid (by rw [HTX.out, ← HM.out]; exact HFO.out)
            obtain ⟨ps, hps⟩ : ∃ ps, ps = rdTo L k := ⟨_, rfl⟩
            rw [← hps] at HPP HQ HK
            clear hq hps
            have HPB : Hid (parP s = (goodP x ps && decide (puzT x.toNat ps = s))) := Lib.hid (by rw [HX.out, HPP.out]; exact fours_yes HHB.out HF3.out)
            have HKT : Hid (KG w G C wr.drew x (.slice ao k cp) ps) := Lib.hid (HK.out.more (drewN_down wr 1))
            have hql : k ≤ 1048576 := by rw [HQ.out, HPP.out]; unfold cluesZ; rw [length_rdTo]; exact HTL.out
            have hcm : CameClue wr.drew ao k ps := by
              obtain ⟨aa, cc, hv, hcm, _⟩ := HKT.out.2.2.2.1.cameC
              injection hv with hv1 hv2 hv3
              subst hv1
              rw [← HQ.out] at hcm
              exact hcm
            have HG := Lib.hid (pzGood_any wr.drew x ao k cp ps hql hcm)
            have p0 := HKT.out.p0
            have p1 := HKT.out.p1
            have q0 := HK.out.p0
            have q1 := HK.out.p1
            rcases hb : goodP x ps with _ | _
            · have HE : Hid (parP s = false) := Lib.hid (by rw [HPB.out, hb]; rfl)
              rw [hb] at HG
              have HGK : Hid (Calls Tryd.prog 15 #[.agg #[.int .i64 x, .slice ao k cp]] wr.drew fun e w5 => e = .returned (.bool false) ∧ KG w G C w5 x (.slice ao k cp) ps) := Lib.hid (HG.out.mono (by
                rintro e w5 ⟨rfl, b5⟩
                exact ⟨rfl, HKT.out.more b5⟩))
              clear hb hcm HG
              go_wp2_with fail
              first
                | (go_region_with (refine HGK.out.mono ?_; rintro e w5 ⟨rfl, k5⟩; have c50 := k5.p0; have c51 := k5.p1; have s0 := k5.r0; have s1 := k5.r1; have s2 := k5.f0; have s3 := k5.f1))
                | fail "no region"
              all_goals
                have HK5 := Lib.hid k5
                clear k5
                go_wp2
                (try simp only [Exit.inBlock, Exit.then])
                refine bodyPost_ret (results_cellZ rfl _ _ w.heap.size x (.slice ao k cp) rfl rfl (setZ0 s0 s1) (setZ1 s0 s1)) rfl ?_
                exact ⟨x, ao, k, cp, by rw [HE.out]; exact rfl, fun h => (by rw [HE.out] at h; cases h), HK5.out.1.setCell (Nat.le_refl _) _ |>.setCell (Nat.le_refl _) _⟩
            · obtain ⟨⟨n, rfl, hn1, hn8⟩, hl6, hcl⟩ := pz_of hb
              have HPB2 : Hid (parP s = decide (puzT n ps = s)) := Lib.hid (by rw [HPB.out, hb]; rfl)
              have h6 : k ≤ 6 := by rw [HQ.out]; exact hl6
              rw [hb] at HG
              have HGK : Hid (Calls Tryd.prog 15 #[.agg #[.int .i64 (n : Int), .slice ao k cp]] wr.drew fun e w5 => e = .returned (.bool true) ∧ KG w G C w5 n (.slice ao k cp) ps) := Lib.hid (HG.out.mono (by
                rintro e w5 ⟨rfl, b5⟩
                exact ⟨rfl, HKT.out.more b5⟩))
              have HTK : Hid (∀ w5, KG w G C w5 n (.slice ao k cp) ps → Calls Tryd.prog 16 #[.agg #[.int .i64 (n : Int), .slice ao k cp]] w5 fun e w6 => e = .returned (.string (puzT n ps)) ∧ KG w G C w6 n (.slice ao k cp) ps) := Lib.hid (fun w5 k5 => by
                obtain ⟨aa, cc, hv, hcm, _⟩ := k5.2.2.2.1.cameC
                injection hv with hv1 hv2 hv3
                subst hv1 hv3
                rw [← HQ.out] at hcm
                exact (pzText_any w5 n ao k cp ps hn8 h6 hcl hcm).mono (by
                  rintro e w6 ⟨rfl, b6⟩
                  exact ⟨rfl, k5.more b6⟩))
              obtain ⟨tx, htx⟩ : ∃ t, t = puzT n ps := ⟨_, rfl⟩
              rw [← htx] at HTK HPB2
              clear hb hcm HG htx hcl
              by_cases hts : tx = s
              · subst hts
                have HE : Hid (parP tx = true) := Lib.hid (by rw [HPB2.out]; simp)
                go_wp2_with fail
                go_region_law (first
                  | (go_simp; refine HGK.out.mono ?_; rintro e w5 ⟨rfl, k5⟩; have c50 := k5.p0; have c51 := k5.p1; dsimp only)
                  | (go_simp; refine (HTK.out _ k5).mono ?_; rintro e w6 ⟨rfl, k6⟩; have c60 := k6.p0; have c61 := k6.p1; have s0 := k6.r0; have s1 := k6.r1; have s2 := k6.f0; have s3 := k6.f1; dsimp only))
                all_goals
                  have HK5 := Lib.hid k6
                  clear k5 k6
                  go_wp2
                  (try simp only [Exit.inBlock, Exit.then])
                  refine bodyPost_ret (results_cellZ rfl _ _ w.heap.size (n : Int) (.slice ao k cp) rfl rfl (setZ0 s0 s1) (setZ1 s0 s1)) rfl ?_
                  exact ⟨n, ao, k, cp, by rw [HE.out]; exact rfl, fun _ => ⟨HX.out, by rw [← HPP.out]; exact (ownZ_set (ownZ_set HK5.out.2.2.2.1 (by omega) 0 _) (by omega) 1 _).mono (by omega)⟩, HK5.out.1.setCell (Nat.le_refl _) _ |>.setCell (Nat.le_refl _) _⟩
              · have HE : Hid (parP s = false) := Lib.hid (by rw [HPB2.out]; exact decide_eq_false hts)
                have hne := strs_neP hts
                clear hts
                go_wp2_with fail
                go_region_law (first
                  | (go_simp; refine HGK.out.mono ?_; rintro e w5 ⟨rfl, k5⟩; have c50 := k5.p0; have c51 := k5.p1; dsimp only)
                  | (go_simp; refine (HTK.out _ k5).mono ?_; rintro e w6 ⟨rfl, k6⟩; have c60 := k6.p0; have c61 := k6.p1; have s0 := k6.r0; have s1 := k6.r1; have s2 := k6.f0; have s3 := k6.f1; dsimp only))
                all_goals
                  have HK5 := Lib.hid k6
                  clear k5 k6
                  go_wp2
                  (try simp only [Exit.inBlock, Exit.then])
                  refine bodyPost_ret (results_cellZ rfl _ _ w.heap.size (n : Int) (.slice ao k cp) rfl rfl (setZ0 s0 s1) (setZ1 s0 s1)) rfl ?_
                  exact ⟨n, ao, k, cp, by rw [HE.out]; exact rfl, fun h => (by rw [HE.out] at h; cases h), HK5.out.1.setCell (Nat.le_refl _) _ |>.setCell (Nat.le_refl _) _⟩
    · have HE : Hid (parP s = false) := Lib.hid (by unfold parP headB; rw [decide_eq_false hm2]; simp)
      have hmi : ((cutL s 58).length : Int) ≠ 2 := by omega
      obtain ⟨m, hm⟩ : ∃ m, m = (cutL s 58).length := ⟨_, rfl⟩
      go_enter Tryd.func23, Tryd.ntmps23
      go_wp2_with fail
      rw [← hw0]
      go_at_call 41
      refine (HSP.out _).mono ?_
      rintro e w1 ⟨v, rfl, o1, b1⟩
      have B1 : Hid (Below w0.heap.size w0 w1) := Lib.hid b1
      obtain ⟨aop, cpp, rfl, hrd⟩ := o1.read
      rw [← hm] at hmi hm2 ⊢
      have hmb : ((m : Int) != 2) = true := by rw [bne_iff_ne]; exact hmi
      have HK1 := Lib.hid (HK0.out.below b1 HK0.out.lt)
      have HB1 : Hid (Below w.heap.size w w1) := Lib.hid (HB0.out.trans (b1.mono HB0.out.size))
      clear hrd o1 b1 hm hw0
      have r0 : w1.cell? ⟨w.heap.size, 0, none⟩ = some (.int .i64 0) := HK1.out.cell 0
      have r1 : w1.cell? ⟨w.heap.size, 1, none⟩ = some (.slice none 0 0) := HK1.out.cell 1
      have f0 := HK1.out.free 0
      have f1 := HK1.out.free 1
      go_wp2
      (try simp only [Exit.inBlock, Exit.then])
      refine bodyPost_ret (results_cellZ rfl _ _ w.heap.size 0 (.slice none 0 0) rfl rfl (setZ0 r0 r1) (setZ1 r0 r1)) rfl ?_
      exact ⟨0, none, 0, 0, by rw [HE.out]; exact rfl, fun h => (by rw [HE.out] at h; cases h), HB1.out.setCell (Nat.le_refl _) _ |>.setCell (Nat.le_refl _) _⟩
  · have h1i : (120 : Int) < (s.size : Int) := by omega
    have HE : Hid (parP s = false) := Lib.hid (by unfold parP headB; rw [decide_eq_false h120]; simp)
    go_enter Tryd.func23, Tryd.ntmps23
    go_wp2_with fail
    rw [← hw0]
    go_at_call 41
    refine (HSP.out _).mono ?_
    rintro e w1 ⟨v, rfl, o1, b1⟩
    have B1 : Hid (Below w0.heap.size w0 w1) := Lib.hid b1
    obtain ⟨aop, cpp, rfl, hrd⟩ := o1.read
    obtain ⟨m, hm⟩ : ∃ m, m = (cutL s 58).length := ⟨_, rfl⟩
    rw [← hm]
    have HK1 := Lib.hid (HK0.out.below b1 HK0.out.lt)
    have HB1 : Hid (Below w.heap.size w w1) := Lib.hid (HB0.out.trans (b1.mono HB0.out.size))
    clear hrd o1 b1 hm hw0
    have r0 : w1.cell? ⟨w.heap.size, 0, none⟩ = some (.int .i64 0) := HK1.out.cell 0
    have r1 : w1.cell? ⟨w.heap.size, 1, none⟩ = some (.slice none 0 0) := HK1.out.cell 1
    have f0 := HK1.out.free 0
    have f1 := HK1.out.free 1
    go_wp2
    (try simp only [Exit.inBlock, Exit.then])
    refine bodyPost_ret (results_cellZ rfl _ _ w.heap.size 0 (.slice none 0 0) rfl rfl (setZ0 r0 r1) (setZ1 r0 r1)) rfl ?_
    exact ⟨0, none, 0, 0, by rw [HE.out]; exact rfl, fun h => (by rw [HE.out] at h; cases h), HB1.out.setCell (Nat.le_refl _) _ |>.setCell (Nat.le_refl _) _⟩

end Go.Proofs.YtodlpdbmiicdfabDoor
