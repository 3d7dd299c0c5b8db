/- Chapter 9, the program: solutions, count, isSolved, ofPuzzle, Solutions, CountSolutions, IsSolved, FirstSolution. -/
import Derived.Test.YtodlpdbmiicdfabZf
import Derived.Test.YtodlpdbmiicdfabPzf
namespace Go.Proofs.Ytodlpdbmiicdfab
open Go.ChangeShapes Go.WideShapes Go.ChangeAt Go.RowKit
open Pz

theorem fitK_is (n : Nat) (cs : List RClue) (k : Nat) : (cs.all fun c => fitsC c (Rw.make n k)) = fitK n cs k := rfl
set_option maxHeartbeats 4000000 in
theorem solutions_any (w : World) (n : Nat) (h1 : 1 ≤ n) (h8 : n ≤ 8) (a : Option Addr) (len cap : Nat) (cs : List RClue) (hl : len ≤ 6) (hcl : ∀ k, k < cs.length → clueB (n : Int) (cs.getD k zClue) = true) (hc : CameClue w a len cs) :
    Calls Try.prog 69 #[.agg #[.int .i64 (n : Int), .slice a len cap]] w fun e w' => ∃ v, e = .returned v ∧ OwnT w' w.heap.size v (solL n cs) ∧ Below w.heap.size w w' := by
  have hP : p2w n ≤ 256 := by
    have h : 2 ^ n ≤ 2 ^ 8 := Nat.pow_le_pow_right (by omega) h8
    have h3 : (2 : Nat) ^ 8 = 256 := by decide
    unfold p2w; omega
  have HSL : Hid (solL n cs = solTo n cs (p2w n)) := Lib.hid rfl
  have HCR := Lib.hid (fun w2 => Tp.countRows_any n (by omega) w2)
  obtain ⟨P, hPP⟩ : ∃ P, P = p2w n := ⟨_, rfl⟩
  rw [← hPP] at hP HSL HCR
  obtain ⟨w0, hw0⟩ : ∃ w0, w0 = w.alloc (.cells #[.int .i64 (n : Int), .slice a len cap] 31) := ⟨_, rfl⟩
  have HW0 : Hid (Below w.heap.size w w0) := Lib.hid (by rw [hw0]; exact (Below.refl _ _).alloc (Nat.le_refl _) _)
  obtain ⟨pb, hpb⟩ : ∃ pb, pb = w.heap.size := ⟨_, rfl⟩
  have HPC : Hid (∀ w2, Below w0.heap.size w0 w2 → BoxZ w2 pb (n : Int) (.slice a len cap)) := Lib.hid (fun w2 h => by
    have c0 : BoxZ w0 pb (n : Int) (.slice a len cap) := by rw [hw0, hpb]; exact BoxZ.new _ _ _ _
    exact c0.below h c0.lt)
  have HC : Hid (CameClue w0 a len cs) := Lib.hid (hc.below HW0.out)
  have HFB := Lib.hid (fun (k : Nat) w2 (h : Below w0.heap.size w0 w2) => isFitBy_any w2 n h1 h8 a len cap cs (Rw.make n k) (length_make n k) hl hcl (HC.out.below h))
  have HMK := Lib.hid (fun (k : Nat) (hk : k ≤ 4611686018427387904) w2 => Tp.troopOf_any n k h1 (by omega) hk w2)
  have HTX := Lib.hid (fun (k g : Nat) w2 (h : Tp.Trp w2 g (Rw.make n k) (List.replicate n 0)) => Tp.text_any g (Rw.make n k) (List.replicate n 0) (by rw [length_make]; exact h1) (by rw [length_make]; omega) w2 h)
  obtain ⟨c0, c1⟩ := HPC.out w0 (Below.refl _ _)
  clear hcl hc hPP
  go_enter Try.func69, Try.ntmps69
  go_wp2_with fail
  rw [← hw0, ← hpb]
  clear hw0 hpb
  go_at_call 83
  refine (HCR.out _).mono ?_
  rintro e w' ⟨rfl, rfl⟩
  go_wp2
  go_loopw [3, 9] (fun o i wr => ∃ k : Nat, k ≤ P ∧ i = .int .i64 (k : Int) ∧ Hid (OwnT wr w0.heap.size o (solTo n cs k)) ∧ Hid (Below w0.heap.size w0 wr)) (fun _ i _ => P - (intOf i).toNat)
  case atStart => exact ⟨0, Nat.zero_le _, rfl, Lib.hid (ownT_nil _ _), Lib.hid (Below.refl _ _)⟩
  case round =>
    obtain ⟨k, hk, rfl, HO, HB⟩ := hrel
    clear c0 c1
    by_cases hlt : k < P
    · obtain ⟨c0, c1⟩ := HPC.out wr HB.out
      have i1 : (k : Int) < (P : Int) := by omega
      have HT1 := Lib.hid (HMK.out k (by omega) wr)
      have HLM : Hid ((Rw.make n k).length = n) := Lib.hid (length_make n k)
      go_wp2_with fail
      go_at_call 84
      refine HT1.out.mono ?_
      rintro e w2 ⟨rfl, t2, b2⟩
      have HB2 : Hid (Below w0.heap.size w0 w2) := Lib.hid (HB.out.trans (b2.mono HB.out.size))
      have HO2 : Hid (OwnT w2 w0.heap.size _ (solTo n cs k)) := Lib.hid (HO.out.below b2 (Nat.le_refl _))
      have HX := HTX.out k _ w2 t2
      rw [HLM.out] at HX
      have HX2 := Lib.hid HX
      clear b2 t2 HX HO c0 c1
      go_wp2_with fail
      go_at_call 85
      refine HX2.out.mono ?_
      rintro e w3 ⟨rfl, b3⟩
      have HB3 : Hid (Below w0.heap.size w0 w3) := Lib.hid (HB2.out.trans (b3.mono HB2.out.size))
      have HO3 : Hid (OwnT w3 w0.heap.size _ (solTo n cs k)) := Lib.hid (HO2.out.below b3 (Nat.le_refl _))
      have HF := HFB.out k w3 HB3.out
      rw [fitK_is] at HF
      have HF2 := Lib.hid HF
      obtain ⟨s, hs⟩ : ∃ s, s = Rw.str (Rw.make n k) := ⟨_, rfl⟩
      rw [← hs] at HF2 ⊢
      have HS := Lib.hid hs
      obtain ⟨c0, c1⟩ := HPC.out w3 HB3.out
      clear b3 HF HX2 HO2 hs HT1
      go_wp2_with fail
      go_at_call 86
      refine HF2.out.mono ?_
      rintro e w4 ⟨rfl, b4⟩
      have HB4 : Hid (Below w0.heap.size w0 w4) := Lib.hid (HB3.out.trans (b4.mono HB3.out.size))
      have HO4 : Hid (OwnT w4 w0.heap.size _ (solTo n cs k)) := Lib.hid (HO3.out.below b4 (Nat.le_refl _))
      clear b4 HF2 HO3 c0 c1
      rcases hf : fitK n cs k with _ | _
      · have HN : Hid (solTo n cs (k + 1) = solTo n cs k) := Lib.hid (solTo_no hf)
        have HO5 : Hid (OwnT w4 w0.heap.size _ (solTo n cs (k + 1))) := Lib.hid (by rw [HN.out]; exact HO4.out)
        clear hf HO4
        go_wp2
        go_roundw
        case rel => exact ⟨k + 1, by omega, by go_num, HO5, HB4⟩
        case measure => simp [intOf]; omega
      · have HN : Hid (solTo n cs (k + 1) = solTo n cs k ++ [s]) := Lib.hid (by rw [solTo_yes hf, HS.out])
        have hz := HB4.out.size
        have hbl : (solTo n cs k).length ≤ 1000000000 := by have := solTo_le n cs k; omega
        clear hf
        go_wp2_with (at_builtin; refine wpList_appT rfl _ _ rfl w4 _ _ _ _ rfl rfl HO4.out hz hbl ?_; intro v' w5 hO hB5; have HO5 : Hid (OwnT w5 w0.heap.size v' (solTo n cs (k + 1))) := Lib.hid (by rw [HN.out]; exact hO); have HB5 : Hid (Below w0.heap.size w0 w5) := Lib.hid (HB4.out.trans hB5); clear hO hB5)
        go_roundw
        case rel => exact ⟨k + 1, by omega, by go_num, HO5, HB5⟩
        case measure => simp [intOf]; omega
    · have hkP : k = P := by omega
      have HO2 : Hid (OwnT wr w.heap.size _ (solL n cs)) := Lib.hid (by rw [HSL.out, ← hkP]; exact HO.out.mono HW0.out.size)
      clear HO hkP
      go_wp2
      go_ret
      exact ⟨_, rfl, HO2.out, HW0.out.trans (HB.out.mono HW0.out.size)⟩

set_option maxHeartbeats 1000000 in
theorem count_any (w : World) (n : Nat) (h1 : 1 ≤ n) (h8 : n ≤ 8) (a : Option Addr) (len cap : Nat) (cs : List RClue) (hl : len ≤ 6) (hcl : ∀ k, k < cs.length → clueB (n : Int) (cs.getD k zClue) = true) (hc : CameClue w a len cs) :
    Calls Try.prog 58 #[.agg #[.int .i64 (n : Int), .slice a len cap]] w fun e w' => e = .returned (.int .i64 ((solL n cs).length : Nat)) ∧ Below w.heap.size w w' := by
  have HB : Hid (Below w.heap.size w (w.alloc (.cells #[.int .i64 (n : Int), .slice a len cap] 31))) := Lib.hid ((Below.refl _ _).alloc (Nat.le_refl _) _)
  have HS := Lib.hid (solutions_any (w.alloc (.cells #[.int .i64 (n : Int), .slice a len cap] 31)) n h1 h8 a len cap cs hl hcl (hc.below HB.out))
  have HL := Lib.hid (solL_le h8 cs)
  obtain ⟨m, hm⟩ : ∃ m, m = (solL n cs).length := ⟨_, rfl⟩
  rw [← hm] at HL ⊢
  have HM := Lib.hid hm
  clear hcl hc hm
  go_enter Try.func58, Try.ntmps58
  go_wp2_with fail
  go_at_call 69
  refine HS.out.mono ?_
  rintro e w2 ⟨v, rfl, o2, b2⟩
  have B2 : Hid (Below w.heap.size w w2) := Lib.hid (HB.out.trans (b2.mono HB.out.size))
  obtain ⟨va, vc, rfl, _⟩ := o2.read
  rw [← HM.out]
  clear b2 o2
  go_wp2
  go_ret
  exact ⟨rfl, B2.out⟩

set_option maxHeartbeats 1000000 in
theorem isSolved_any (w : World) (n : Nat) (h1 : 1 ≤ n) (h8 : n ≤ 8) (a : Option Addr) (len cap : Nat) (cs : List RClue) (hl : len ≤ 6) (hcl : ∀ k, k < cs.length → clueB (n : Int) (cs.getD k zClue) = true) (hc : CameClue w a len cs) :
    Calls Try.prog 63 #[.agg #[.int .i64 (n : Int), .slice a len cap]] w fun e w' => e = .returned (.bool (decide ((solL n cs).length = 1))) ∧ Below w.heap.size w w' := by
  have HB : Hid (Below w.heap.size w (w.alloc (.cells #[.int .i64 (n : Int), .slice a len cap] 31))) := Lib.hid ((Below.refl _ _).alloc (Nat.le_refl _) _)
  have HS := Lib.hid (count_any (w.alloc (.cells #[.int .i64 (n : Int), .slice a len cap] 31)) n h1 h8 a len cap cs hl hcl (hc.below HB.out))
  have HL := Lib.hid (solL_le h8 cs)
  obtain ⟨m, hm⟩ : ∃ m, m = (solL n cs).length := ⟨_, rfl⟩
  rw [← hm] at HL HS ⊢
  have HM := Lib.hid hm
  clear hcl hc hm
  go_enter Try.func63, Try.ntmps63
  go_wp2_with fail
  go_at_call 58
  refine HS.out.mono ?_
  rintro e w2 ⟨rfl, b2⟩
  have B2 : Hid (Below w.heap.size w w2) := Lib.hid (HB.out.trans (b2.mono HB.out.size))
  have HD : Hid (((m : Int) == 1) = decide (m = 1)) := Lib.hid (by rw [Bool.eq_iff_iff, beq_iff_eq, decide_eq_true_eq]; omega)
  clear b2
  go_wp2
  go_ret
  exact ⟨ret_bool HD.out, B2.out⟩



set_option maxHeartbeats 2000000 in
theorem ofIsSolved_no (w : World) (s : Int) (a : Option Addr) (len cap : Nat) (cs : List RClue) (hb : goodP s cs = false) (hl : len ≤ 1048576) (hc : CameClue w a len cs) :
    Calls Try.prog 62 #[.agg #[.int .i64 s, .slice a len cap], .func (.func 63) #[] #[]] w fun e w' => e = .returned (.tuple #[.bool false, .bool false]) ∧ Below w.heap.size w w' := by
  have HB : Hid (Below w.heap.size w (w.alloc (.cells #[.int .i64 s, .slice a len cap] 31))) := Lib.hid ((Below.refl _ _).alloc (Nat.le_refl _) _)
  have HG := Lib.hid (implIsPuzzle_any (w.alloc (.cells #[.int .i64 s, .slice a len cap] 31)) s a len cap cs hl (hc.below HB.out))
  rw [hb] at HG
  clear hc hb
  go_enter Try.func62, Try.ntmps62
  go_wp2_with fail
  go_at_call 57
  refine HG.out.mono ?_
  rintro e w2 ⟨rfl, b2⟩
  have HB2 : Hid (Below w.heap.size w w2) := Lib.hid (HB.out.trans (b2.mono HB.out.size))
  clear b2
  go_wp2
  go_ret2
  exact ⟨rfl, HB2.out⟩
set_option maxHeartbeats 2000000 in
theorem ofIsSolved_yes (w : World) (n : Nat) (a : Option Addr) (len cap : Nat) (cs : List RClue) (hb : goodP (n : Int) cs = true) (hl : len ≤ 1048576) (hc : CameClue w a len cs) :
    Calls Try.prog 62 #[.agg #[.int .i64 (n : Int), .slice a len cap], .func (.func 63) #[] #[]] w fun e w' => e = .returned (.tuple #[.bool (decide ((solL n cs).length = 1)), .bool true]) ∧ Below w.heap.size w w' := by
  obtain ⟨⟨n', hn', hn1, hn8⟩, hl6, hcl⟩ := pz_of hb
  obtain rfl : n = n' := by omega
  obtain ⟨w0, hw0⟩ : ∃ w0, w0 = w.alloc (.cells #[.int .i64 (n : Int), .slice a len cap] 31) := ⟨_, rfl⟩
  have HB : Hid (Below w.heap.size w w0) := Lib.hid (by rw [hw0]; exact (Below.refl _ _).alloc (Nat.le_refl _) _)
  obtain ⟨pb, hpb⟩ : ∃ pb, pb = w.heap.size := ⟨_, rfl⟩
  have HPC : Hid (∀ w2, Below w0.heap.size w0 w2 → BoxZ w2 pb (n : Int) (.slice a len cap)) := Lib.hid (fun w2 h => by
    have c0 : BoxZ w0 pb (n : Int) (.slice a len cap) := by rw [hw0, hpb]; exact BoxZ.new _ _ _ _
    exact c0.below h c0.lt)
  have HC : Hid (CameClue w0 a len cs) := Lib.hid (hc.below HB.out)
  have HG := Lib.hid (implIsPuzzle_any w0 (n : Int) a len cap cs hl HC.out)
  rw [hb] at HG
  have hl6' : len ≤ 6 := by have := hc.1; omega
  have HM := Lib.hid (fun w2 (h : Below w0.heap.size w0 w2) => isSolved_any w2 n hn1 hn8 a len cap cs hl6' hcl (HC.out.below h))
  obtain ⟨c0, c1⟩ := HPC.out w0 (Below.refl _ _)
  clear hc hb hcl hl6 hn'
  go_enter Try.func62, Try.ntmps62
  go_wp2_with fail
  rw [← hw0, ← hpb]
  clear hw0 hpb
  go_at_call 57
  refine HG.out.mono ?_
  rintro e w1 ⟨rfl, b1⟩
  have HB1 : Hid (Below w0.heap.size w0 w1) := Lib.hid b1
  have HM1 := Lib.hid (HM.out w1 b1)
  clear b1 c0 c1
  obtain ⟨c0, c1⟩ := HPC.out w1 HB1.out
  go_wp2_with fail
  go_at_call 63
  refine HM1.out.mono ?_
  rintro e w2 ⟨rfl, b2⟩
  have HB2 : Hid (Below w.heap.size w w2) := Lib.hid (HB.out.trans ((HB1.out.trans (b2.mono HB1.out.size)).mono HB.out.size))
  skip
  clear b2 HM1 c0 c1
  go_wp2
  go_ret2
  exact ⟨rfl, HB2.out⟩
set_option maxHeartbeats 2000000 in
theorem implIsSolved_any (w : World) (s : Int) (a : Option Addr) (len cap : Nat) (cs : List RClue) (hl : len ≤ 1048576) (hc : CameClue w a len cs) :
    Calls Try.prog 40 #[.agg #[.int .i64 s, .slice a len cap]] w fun e w' => e = .returned (.tuple #[.bool (outIsSolved_0 s cs), .bool (outIsSolved_1 s cs)]) ∧ Below w.heap.size w w' := by
  have HB : Hid (Below w.heap.size w (w.alloc (.cells #[.int .i64 s, .slice a len cap] 31))) := Lib.hid ((Below.refl _ _).alloc (Nat.le_refl _) _)
  have hc2 := hc.below HB.out
  rcases hb : goodP s cs with _ | _
  · have HE : Hid (outIsSolved_0 s cs = false ∧ outIsSolved_1 s cs = false) := Lib.hid (by unfold outIsSolved_0 outIsSolved_1; rw [hb]; exact ⟨rfl, rfl⟩)
    have HO := Lib.hid (ofIsSolved_no _ s a len cap cs hb hl hc2)
    clear hb hc2 hc
    go_enter Try.func40, Try.ntmps40
    go_wp2_with fail
    go_at_call 62
    refine HO.out.mono ?_
    rintro e w2 ⟨rfl, b2⟩
    have HB2 : Hid (Below w.heap.size w w2) := Lib.hid (HB.out.trans (b2.mono HB.out.size))
    clear b2
    go_wp2
    go_ret2
    exact ⟨by rw [HE.out.1, HE.out.2]; exact rfl, HB2.out⟩
  · obtain ⟨⟨n, rfl, hn1, hn8⟩, hl6, hcl⟩ := pz_of hb
    have HE : Hid (outIsSolved_0 (n : Int) cs = decide ((solL n cs).length = 1) ∧ outIsSolved_1 (n : Int) cs = true) := Lib.hid (by unfold outIsSolved_0 outIsSolved_1; rw [hb]; exact ⟨rfl, rfl⟩)
    have HO := Lib.hid (ofIsSolved_yes _ n a len cap cs hb hl hc2)
    clear hb hc2 hc hcl hl6
    go_enter Try.func40, Try.ntmps40
    go_wp2_with fail
    go_at_call 62
    refine HO.out.mono ?_
    rintro e w2 ⟨rfl, b2⟩
    have HB2 : Hid (Below w.heap.size w w2) := Lib.hid (HB.out.trans (b2.mono HB.out.size))
    skip
    clear b2
    go_wp2
    go_ret2
    exact ⟨by rw [HE.out.1, HE.out.2]; exact rfl, HB2.out⟩

end Go.Proofs.Ytodlpdbmiicdfab
