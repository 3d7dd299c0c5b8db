/- Chapter 9: the model's HarderPuzzle. Written by a program of mine (tools/mk/mk_pzn.py). -/
import Derived.Test.YtodlpdbmiicdfabPzj
namespace Go.Proofs.Ytodlpdbmiicdfab
open Go.ChangeShapes Go.WideShapes Go.ChangeAt Go.RowKit
open Pz

namespace Pz
/-- clues are taken out from number k on, each if it is solved still -/
def hard (n : Nat) : Nat → List RClue → Nat → List RClue
  | 0, cs, _ => cs
  | f + 1, cs, k => if (solL n (without cs k)).length = 1 then hard n f (without cs k) k else hard n f cs (k + 1)
def hardL (n : Nat) (cs : List RClue) : List RClue := hard n cs.length cs 0
theorem hard_sub (n : Nat) : ∀ f cs k, f + k = cs.length → (hard n f cs k).length ≤ cs.length ∧ ∀ c ∈ hard n f cs k, c ∈ cs
  | 0, cs, k, _ => ⟨Nat.le_refl _, fun c h => h⟩
  | f + 1, cs, k, h => by
    unfold hard
    have hk : k < cs.length := by omega
    have hw := length_without hk
    split
    · obtain ⟨h1, h2⟩ := hard_sub n f (without cs k) k (by omega)
      refine ⟨by omega, fun c hc => ?_⟩
      have := h2 c hc
      unfold without at this
      rcases List.mem_append.1 this with h | h
      · exact List.mem_of_mem_take h
      · exact List.mem_of_mem_drop h
    · exact hard_sub n f cs (k + 1) (by omega)
end Pz

def okHarderPuzzle (s : Int) (cs : List RClue) : Bool := goodP s cs && decide ((solL s.toNat cs).length = 1)
def outHarderPuzzle_0 (s : Int) (cs : List RClue) : Int := if okHarderPuzzle s cs then s else 0
def outHarderPuzzle_1 (s : Int) (cs : List RClue) : List RClue := if okHarderPuzzle s cs then hardL s.toNat cs else []
def outHarderPuzzle_2 (s : Int) (cs : List RClue) : Bool := okHarderPuzzle s cs
theorem lenHarderPuzzle_1 (s : Int) (cs : List RClue) : (outHarderPuzzle_1 s cs).length ≤ 1048576 := by
  unfold outHarderPuzzle_1
  split
  · rename_i h
    unfold okHarderPuzzle at h
    rw [Bool.and_eq_true] at h
    have h6 := (pz_of h.1).2.1
    have := (hard_sub s.toNat cs.length cs 0 rfl).1
    unfold hardL; omega
  · simp
set_option maxHeartbeats 8000000 in
theorem specHarderPuzzle_any (w : World) (s : Int) (a : Option Addr) (len cap : Nat) (cs : List RClue) (hl : len ≤ 1048576) (hc : CameClue w a len cs) (hcp : len ≤ cap ∧ cap ≤ 9223372036854775807) :
    Calls Try.prog 21 #[.agg #[.int .i64 s, .slice a len cap]] w fun e w' => ∃ v0, e = .returned (.tuple #[.agg #[.int .i64 (outHarderPuzzle_0 s cs), v0], .bool (outHarderPuzzle_2 s cs)]) ∧ OwnClue w' w.heap.size v0 (outHarderPuzzle_1 s cs) ∧ Below w.heap.size w w' := by
  have HZ : Hid (cs.length = len) := Lib.hid hc.1
  have HG := Lib.hid (fun w2 (h : Below w.heap.size w w2) => pzGood_any w2 s a len cap cs hl (hc.below h))
  have HC := Lib.hid hc
  have HCP := Lib.hid hcp
  have HF : okHarderPuzzle s cs = false → Hid (outHarderPuzzle_0 s cs = 0 ∧ outHarderPuzzle_1 s cs = [] ∧ outHarderPuzzle_2 s cs = false) := fun h => Lib.hid (by unfold outHarderPuzzle_0 outHarderPuzzle_1 outHarderPuzzle_2; rw [h]; exact ⟨rfl, rfl, rfl⟩)
  clear hc hcp
  rcases hb : goodP s cs with _ | _
  · have HE := HF (by unfold okHarderPuzzle; rw [hb]; rfl)
    rw [hb] at HG
    clear hb HF
    go_enter Try.func21, Try.ntmps21
    go_wp2_with fail
    go_at_call 27
    refine (HG.out _ (KZ2.start ..).one.down).mono ?_
    rintro e w2 ⟨rfl, b2⟩
    have K2 : Hid (KZ2 w s a len cap w2) := Lib.hid b2
    clear b2
    have r0 := K2.out.r0
    have r1 := K2.out.r1
    have f0 := K2.out.f0
    have f1 := K2.out.f1
    go_wp2
    (try simp only [Exit.inBlock, Exit.then])
    refine bodyPost_ret (results_cellZ rfl _ _ (w.heap.size + 1) 0 (.slice none 0 0) rfl rfl (setZ0 r0 r1) (setZ1 r0 r1)) rfl ?_
    exact ⟨.slice none 0 0, by rw [HE.out.1, HE.out.2.2]; exact rfl, by rw [HE.out.2.1]; exact ownClue_nil _ _, K2.out.one.down.setCell (Nat.le_succ _) _ |>.setCell (Nat.le_succ _) _⟩
  obtain ⟨⟨n, rfl, hn1, hn8⟩, hl6, hcl⟩ := pz_of hb
  have hl6' : len ≤ 6 := by have := HZ.out; omega
  have HSV := Lib.hid (fun w2 (h : Below w.heap.size w w2) => pzSolved_any w2 n hn1 hn8 a len cap cs hl6' hcl (HC.out.below h))
  rcases hs : decide ((solL n cs).length = 1) with _ | _
  · have HE := HF (by unfold okHarderPuzzle; rw [Int.toNat_natCast, hs, Bool.and_false])
    rw [hb] at HG
    rw [hs] at HSV
    clear hb HF hs
    go_enter Try.func21, Try.ntmps21
    go_wp2_with fail
    go_at_call 27
    refine (HG.out _ (KZ2.start ..).one.down).mono ?_
    rintro e w2 ⟨rfl, b2⟩
    have K2 : Hid (KZ2 w n a len cap w2) := Lib.hid b2
    clear b2
    have c0 := K2.out.one.c0
    have c1 := K2.out.one.c1
    go_wp2_with fail
    go_at_call 39
    refine (HSV.out _ K2.out.one.down).mono ?_
    rintro e w3 ⟨rfl, b3⟩
    have K3 := Lib.hid (K2.out.more b3)
    clear b3 c0 c1
    have r0 := K3.out.r0
    have r1 := K3.out.r1
    have f0 := K3.out.f0
    have f1 := K3.out.f1
    go_wp2
    (try simp only [Exit.inBlock, Exit.then])
    refine bodyPost_ret (results_cellZ rfl _ _ (w.heap.size + 1) 0 (.slice none 0 0) rfl rfl (setZ0 r0 r1) (setZ1 r0 r1)) rfl ?_
    exact ⟨.slice none 0 0, by rw [HE.out.1, HE.out.2.2]; exact rfl, by rw [HE.out.2.1]; exact ownClue_nil _ _, K3.out.one.down.setCell (Nat.le_succ _) _ |>.setCell (Nat.le_succ _) _⟩
  have HE : Hid (outHarderPuzzle_0 (n : Int) cs = n ∧ outHarderPuzzle_1 (n : Int) cs = hardL n cs ∧ outHarderPuzzle_2 (n : Int) cs = true) := Lib.hid (by
    have h : okHarderPuzzle (n : Int) cs = true := by unfold okHarderPuzzle; rw [hb, Int.toNat_natCast, hs]; rfl
    unfold outHarderPuzzle_0 outHarderPuzzle_1 outHarderPuzzle_2; rw [h]; exact ⟨rfl, rfl, rfl⟩)
  have HCLS : Hid (∀ j, j < cs.length → clueB (n : Int) (cs.getD j zClue) = true) := Lib.hid hcl
  have HW := Lib.hid (fun (w2 : World) (ao : Option Addr) (l cp : Nat) (ds : List RClue) (T : Nat) (h1 : T < l) (h2 : l ≤ 6) (h3 : CameClue w2 ao l ds) (h4 : l ≤ cp ∧ cp ≤ 9223372036854775807) => pzWithout_any w2 ao l cp ds T h1 h2 h3 h4)
  have HSO := Lib.hid (fun (w2 : World) (ao : Option Addr) (l cp : Nat) (ds : List RClue) (h2 : l ≤ 6) (h5 : ∀ j, j < ds.length → clueB (n : Int) (ds.getD j zClue) = true) (h3 : CameClue w2 ao l ds) => pzSolved_any w2 n hn1 hn8 ao l cp ds h2 h5 h3)
  rw [hb] at HG
  rw [hs] at HSV
  clear hb HF hs hl6 hcl
  go_enter Try.func21, Try.ntmps21
  go_wp2_with fail
  go_at_call 27
  refine (HG.out _ (KZ2.start ..).one.down).mono ?_
  rintro e w2 ⟨rfl, b2⟩
  have K2 : Hid (KZ2 w n a len cap w2) := Lib.hid b2
  clear b2
  have c0 := K2.out.one.c0
  have c1 := K2.out.one.c1
  go_wp2_with fail
  go_at_call 39
  refine (HSV.out _ K2.out.one.down).mono ?_
  rintro e w3 ⟨rfl, b3⟩
  have K3 := Lib.hid (K2.out.more b3)
  clear b3 c0 c1
  have c0 := K3.out.one.c0
  have c1 := K3.out.one.c1
  have hz : w.heap.size + 2 ≤ w3.heap.size := K3.out.big
  rcases a with _ | ad
  · have hl0 : len = 0 := by
      rcases Nat.eq_zero_or_pos len with h | h
      · exact h
      · obtain ⟨b, off, h1, _⟩ := HC.out.2 h; cases h1
    subst hl0
    have hnil : cs = [] := List.eq_nil_of_length_eq_zero HZ.out
    subst hnil
    have HO4 : Hid (OwnClue (w3.alloc (.cells #[] 64)) (w.heap.size + 2) (.slice (some ⟨w3.heap.size, 0, none⟩) 0 0) []) := Lib.hid ((ownClue_made w3).mono hz)
    have K4 : Hid (KZ2 w n none 0 cap (w3.alloc (.cells #[] 64))) := Lib.hid (K3.out.more ((Below.refl _ _).alloc (Nat.le_refl _) _))
    clear c0 c1
    have c1 := K4.out.one.c1
    go_wp2
    go_loopw [4, 5, 6] (fun v i x6 wr => ∃ (k : Nat) (ds : List RClue) (ao : Option Addr) (cp : Nat), k ≤ ds.length ∧ ds.length ≤ 6 ∧ i = .int .i64 (k : Int) ∧ v = .slice ao ds.length cp ∧ Hid (∀ j, j < ds.length → clueB (n : Int) (ds.getD j zClue) = true) ∧ Hid (hard n (ds.length - k) ds k = hardL n []) ∧ Hid (OwnClue wr (w.heap.size + 2) (.slice ao ds.length cp) ds) ∧ Hid (KZ2 w n none 0 cap wr)) (fun v i _ _ => (match v with | .slice _ l _ => l | _ => 0) - (intOf i).toNat)
    case atStart => exact ⟨0, [], some ⟨w3.heap.size, 0, none⟩, 0, Nat.zero_le _, by simp, rfl, rfl, Lib.hid (fun j h => absurd h (by simp)), Lib.hid rfl, HO4, K4⟩
    case round =>
      obtain ⟨k, ds, ao, cp, hk, h6, rfl, rfl, HCD, HH, HO, HB⟩ := hrel
      have c0 := HB.out.one.c0
      obtain ⟨q, hq⟩ : ∃ q, q = ds.length := ⟨_, rfl⟩
      have HQ := Lib.hid hq
      rw [← hq] at hk h6 HO HH ⊢
      clear hq
      by_cases hlt : k < q
      · have hkd : k < ds.length := by rw [← HQ.out]; exact hlt
        have hlw := length_without hkd
        obtain ⟨ao', cp', he, hcm, hcp1, hcp2⟩ := HO.out.cameC
        rw [← HQ.out] at he hcm hcp1
        injection he with he1 _ he3
        subst he1 he3
        have HWk := Lib.hid (HW.out wr ao q cp ds k hlt h6 hcm ⟨hcp1, hcp2⟩)
        have i2 : (k : Int) < (q : Int) := by omega
        clear hcm hcp1 hcp2
        go_wp2_with fail
        go_at_call 29
        refine HWk.out.mono ?_
        rintro e w5 ⟨v5, rfl, o5, b5⟩
        obtain ⟨ao5, cp5, rfl, hcm5, _⟩ := o5.cameC
        obtain ⟨q5, hq5⟩ : ∃ q, q = (without ds k).length := ⟨_, rfl⟩
        have HQ5 := Lib.hid hq5
        have h65 : q5 ≤ 6 := by rw [hq5, hlw, ← HQ.out]; omega
        have hq5q : q5 + 1 = q := by rw [hq5, hlw, ← HQ.out]; omega
        rw [← hq5] at hcm5 o5 ⊢
        have HB5 := Lib.hid (HB.out.more b5)
        have HO5 : Hid (OwnClue w5 (w.heap.size + 2) (.slice ao5 q5 cp5) (without ds k)) := Lib.hid (o5.mono HB.out.big)
        have HOd : Hid (OwnClue w5 (w.heap.size + 2) (.slice ao q cp) ds) := Lib.hid (HO.out.below b5 (Nat.le_refl _))
        have HSk := Lib.hid (HSO.out w5 ao5 q5 cp5 (without ds k) h65 (clues_without HCD.out) hcm5)
        have HCW : Hid (∀ j, j < (without ds k).length → clueB (n : Int) ((without ds k).getD j zClue) = true) := Lib.hid (clues_without HCD.out)
        clear o5 b5 hcm5 hq5 hlw c0
        have c0 := HB5.out.one.c0
        rcases hsd : decide ((solL n (without ds k)).length = 1) with _ | _
        · rw [hsd] at HSk
          have HH2 : Hid (hard n (q - (k + 1)) ds (k + 1) = hardL n []) := Lib.hid (by
            rw [← HH.out, show q - k = (q - (k + 1)) + 1 by omega, hard, if_neg (of_decide_eq_false hsd)])
          clear hsd
          go_wp2_with fail
          go_at_call 39
          refine HSk.out.mono ?_
          rintro e w6 ⟨rfl, b6⟩
          have HB6 := Lib.hid (HB5.out.more b6)
          have HO6 : Hid (OwnClue w6 (w.heap.size + 2) (.slice ao q cp) ds) := Lib.hid (HOd.out.below b6 (Nat.le_refl _))
          clear b6 c0
          go_wp2
          go_roundw
          case rel => exact ⟨k + 1, ds, ao, cp, by rw [← HQ.out]; omega, by rw [← HQ.out]; omega, by go_num, by rw [← HQ.out], HCD, by rw [← HQ.out]; exact HH2, by rw [← HQ.out]; exact HO6, HB6⟩
          case measure => simp [intOf]; omega
        · rw [hsd] at HSk
          have HH2 : Hid (hard n (q5 - k) (without ds k) k = hardL n []) := Lib.hid (by
            rw [← HH.out, show q - k = (q5 - k) + 1 by omega, hard, if_pos (of_decide_eq_true hsd)])
          clear hsd
          go_wp2_with fail
          go_at_call 39
          refine HSk.out.mono ?_
          rintro e w6 ⟨rfl, b6⟩
          have HB6 := Lib.hid (HB5.out.more b6)
          have HO6 : Hid (OwnClue w6 (w.heap.size + 2) (.slice ao5 q5 cp5) (without ds k)) := Lib.hid (HO5.out.below b6 (Nat.le_refl _))
          clear b6 c0
          go_wp2
          go_roundw
          case rel => exact ⟨k, without ds k, ao5, cp5, by rw [← HQ5.out]; omega, by rw [← HQ5.out]; omega, rfl, by rw [← HQ5.out], HCW, by rw [← HQ5.out]; exact HH2, by rw [← HQ5.out]; exact HO6, HB6⟩
          case measure => simp [intOf]; omega
      · obtain rfl : k = q := by omega
        have i2 : ¬ (k : Int) < (k : Int) := by omega
        have HF : Hid (ds = hardL n []) := Lib.hid (by have h := HH.out; rw [Nat.sub_self] at h; exact h)
        have r0 := HB.out.r0
        have r1 := HB.out.r1
        have f0 := HB.out.f0
        have f1 := HB.out.f1
        go_wp2
        (try simp only [Exit.inBlock, Exit.then])
        refine bodyPost_ret (results_cellZ rfl _ _ (w.heap.size + 1) (n : Int) (.slice ao k cp) rfl rfl (setZ0 r0 r1) (setZ1 r0 r1)) rfl ?_
        refine ⟨.slice ao k cp, by rw [HE.out.1, HE.out.2.2]; exact rfl, ?_, HB.out.one.down.setCell (Nat.le_succ _) _ |>.setCell (Nat.le_succ _) _⟩
        rw [HE.out.2.1, ← HF.out]
        exact (ownZ_set (ownZ_set HO.out (by omega) 0 _) (by omega) 1 _).mono (by omega)
  · have HS1 : Hid (∀ w2, Below w.heap.size w w2 → ∀ j u, (cs.flatMap cClue)[j]? = some u → w2.cell? (ad.add j) = some u) := Lib.hid (fun w2 h => by
      by_cases h0 : 0 < len
      · obtain ⟨b, off, he, _⟩ := HC.out.2 h0
        injection he with he
        subst he
        exact src_cameC (HC.out.below h)
      · have hnil : cs = [] := List.eq_nil_of_length_eq_zero (by rw [HZ.out]; omega)
        intro j u hj
        rw [hnil] at hj; simp at hj)
    have HBA : Hid (Below w3.heap.size w3 (w3.alloc (.cells #[] 64))) := Lib.hid ((Below.refl _ _).alloc (Nat.le_refl _) _)
    have hz4 : w.heap.size + 2 ≤ (w3.alloc (.cells #[] 64)).heap.size := by rw [pz_size1]; omega
    have K4a : Hid (KZ2 w n (some ad) len cap (w3.alloc (.cells #[] 64))) := Lib.hid (K3.out.more HBA.out)
    clear c0 c1
    have c1 := K4a.out.one.c1
    have HOa : Hid (OwnClue (w3.alloc (.cells #[] 64)) (w.heap.size + 2) (.slice (some ⟨w3.heap.size, 0, none⟩) 0 0) []) := Lib.hid ((ownClue_made w3).mono hz)
    have HSa : Hid (∀ j u, (cs.flatMap cClue)[j]? = some u → (w3.alloc (.cells #[] 64)).cell? (ad.add j) = some u) := Lib.hid (HS1.out _ K4a.out.one.down)
    have hla : ([] : List RClue).length + len ≤ 1000000000 := by simp only [List.length_nil]; omega
    go_wp2_with (at_builtin; refine wpList_appClue rfl _ _ rfl _ _ [] cs _ _ _ rfl rfl HOa.out HZ.out HSa.out hz4 hla ?_; intro v4 w4 hO4 hB4 hG4)
    have HO4 : Hid (OwnClue w4 (w.heap.size + 2) v4 cs) := Lib.hid (by simpa using hO4)
    have K4 : Hid (KZ2 w n (some ad) len cap w4) := Lib.hid (Below.trans K4a.out (by simp only [pz_size1]; exact hB4))
    clear hO4 hB4 hG4 c1
    obtain ⟨ao4, cp4, rfl, _⟩ := HO4.out.cameC
    go_loopw [4, 5, 6] (fun v i x6 wr => ∃ (k : Nat) (ds : List RClue) (ao : Option Addr) (cp : Nat), k ≤ ds.length ∧ ds.length ≤ 6 ∧ i = .int .i64 (k : Int) ∧ v = .slice ao ds.length cp ∧ Hid (∀ j, j < ds.length → clueB (n : Int) (ds.getD j zClue) = true) ∧ Hid (hard n (ds.length - k) ds k = hardL n cs) ∧ Hid (OwnClue wr (w.heap.size + 2) (.slice ao ds.length cp) ds) ∧ Hid (KZ2 w n (some ad) len cap wr)) (fun v i _ _ => (match v with | .slice _ l _ => l | _ => 0) - (intOf i).toNat)
    case atStart => exact ⟨0, cs, ao4, cp4, Nat.zero_le _, by rw [HZ.out]; exact hl6', rfl, rfl, HCLS, Lib.hid rfl, HO4, K4⟩
    case round =>
      obtain ⟨k, ds, ao, cp, hk, h6, rfl, rfl, HCD, HH, HO, HB⟩ := hrel
      have c0 := HB.out.one.c0
      obtain ⟨q, hq⟩ : ∃ q, q = ds.length := ⟨_, rfl⟩
      have HQ := Lib.hid hq
      rw [← hq] at hk h6 HO HH ⊢
      clear hq
      by_cases hlt : k < q
      · have hkd : k < ds.length := by rw [← HQ.out]; exact hlt
        have hlw := length_without hkd
        obtain ⟨ao', cp', he, hcm, hcp1, hcp2⟩ := HO.out.cameC
        rw [← HQ.out] at he hcm hcp1
        injection he with he1 _ he3
        subst he1 he3
        have HWk := Lib.hid (HW.out wr ao q cp ds k hlt h6 hcm ⟨hcp1, hcp2⟩)
        have i2 : (k : Int) < (q : Int) := by omega
        clear hcm hcp1 hcp2
        go_wp2_with fail
        go_at_call 29
        refine HWk.out.mono ?_
        rintro e w5 ⟨v5, rfl, o5, b5⟩
        obtain ⟨ao5, cp5, rfl, hcm5, _⟩ := o5.cameC
        obtain ⟨q5, hq5⟩ : ∃ q, q = (without ds k).length := ⟨_, rfl⟩
        have HQ5 := Lib.hid hq5
        have h65 : q5 ≤ 6 := by rw [hq5, hlw, ← HQ.out]; omega
        have hq5q : q5 + 1 = q := by rw [hq5, hlw, ← HQ.out]; omega
        rw [← hq5] at hcm5 o5 ⊢
        have HB5 := Lib.hid (HB.out.more b5)
        have HO5 : Hid (OwnClue w5 (w.heap.size + 2) (.slice ao5 q5 cp5) (without ds k)) := Lib.hid (o5.mono HB.out.big)
        have HOd : Hid (OwnClue w5 (w.heap.size + 2) (.slice ao q cp) ds) := Lib.hid (HO.out.below b5 (Nat.le_refl _))
        have HSk := Lib.hid (HSO.out w5 ao5 q5 cp5 (without ds k) h65 (clues_without HCD.out) hcm5)
        have HCW : Hid (∀ j, j < (without ds k).length → clueB (n : Int) ((without ds k).getD j zClue) = true) := Lib.hid (clues_without HCD.out)
        clear o5 b5 hcm5 hq5 hlw c0
        have c0 := HB5.out.one.c0
        rcases hsd : decide ((solL n (without ds k)).length = 1) with _ | _
        · rw [hsd] at HSk
          have HH2 : Hid (hard n (q - (k + 1)) ds (k + 1) = hardL n cs) := Lib.hid (by
            rw [← HH.out, show q - k = (q - (k + 1)) + 1 by omega, hard, if_neg (of_decide_eq_false hsd)])
          clear hsd
          go_wp2_with fail
          go_at_call 39
          refine HSk.out.mono ?_
          rintro e w6 ⟨rfl, b6⟩
          have HB6 := Lib.hid (HB5.out.more b6)
          have HO6 : Hid (OwnClue w6 (w.heap.size + 2) (.slice ao q cp) ds) := Lib.hid (HOd.out.below b6 (Nat.le_refl _))
          clear b6 c0
          go_wp2
          go_roundw
          case rel => exact ⟨k + 1, ds, ao, cp, by rw [← HQ.out]; omega, by rw [← HQ.out]; omega, by go_num, by rw [← HQ.out], HCD, by rw [← HQ.out]; exact HH2, by rw [← HQ.out]; exact HO6, HB6⟩
          case measure => simp [intOf]; omega
        · rw [hsd] at HSk
          have HH2 : Hid (hard n (q5 - k) (without ds k) k = hardL n cs) := Lib.hid (by
            rw [← HH.out, show q - k = (q5 - k) + 1 by omega, hard, if_pos (of_decide_eq_true hsd)])
          clear hsd
          go_wp2_with fail
          go_at_call 39
          refine HSk.out.mono ?_
          rintro e w6 ⟨rfl, b6⟩
          have HB6 := Lib.hid (HB5.out.more b6)
          have HO6 : Hid (OwnClue w6 (w.heap.size + 2) (.slice ao5 q5 cp5) (without ds k)) := Lib.hid (HO5.out.below b6 (Nat.le_refl _))
          clear b6 c0
          go_wp2
          go_roundw
          case rel => exact ⟨k, without ds k, ao5, cp5, by rw [← HQ5.out]; omega, by rw [← HQ5.out]; omega, rfl, by rw [← HQ5.out], HCW, by rw [← HQ5.out]; exact HH2, by rw [← HQ5.out]; exact HO6, HB6⟩
          case measure => simp [intOf]; omega
      · obtain rfl : k = q := by omega
        have i2 : ¬ (k : Int) < (k : Int) := by omega
        have HF : Hid (ds = hardL n cs) := Lib.hid (by have h := HH.out; rw [Nat.sub_self] at h; exact h)
        have r0 := HB.out.r0
        have r1 := HB.out.r1
        have f0 := HB.out.f0
        have f1 := HB.out.f1
        go_wp2
        (try simp only [Exit.inBlock, Exit.then])
        refine bodyPost_ret (results_cellZ rfl _ _ (w.heap.size + 1) (n : Int) (.slice ao k cp) rfl rfl (setZ0 r0 r1) (setZ1 r0 r1)) rfl ?_
        refine ⟨.slice ao k cp, by rw [HE.out.1, HE.out.2.2]; exact rfl, ?_, HB.out.one.down.setCell (Nat.le_succ _) _ |>.setCell (Nat.le_succ _) _⟩
        rw [HE.out.2.1, ← HF.out]
        exact (ownZ_set (ownZ_set HO.out (by omega) 0 _) (by omega) 1 _).mono (by omega)

end Go.Proofs.Ytodlpdbmiicdfab
