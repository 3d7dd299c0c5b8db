/- Chapter 7, the program: carriedOut, and told with it. -/
import Derived.Test.YtkdpjimbhpclaabVe
namespace Go.Proofs.Ytkdpjimbhpclaab
open Go.ChangeShapes Go.WideShapes Go.ChangeAt Go.RowKit
open Rx Od Ed

namespace Ed
/-- the row behind the first orders of D -/
def turnedBy (l : List Bool) (D : Nat → Bool) : List Bool := (List.range l.length).map fun i => l.getD i false != par D i (l.length + 1)
theorem length_turnedBy (l : List Bool) (D : Nat → Bool) : (turnedBy l D).length = l.length := by simp [turnedBy]
theorem turnedBy_get (l : List Bool) (D : Nat → Bool) (i : Nat) (h : i < l.length) : (turnedBy l D).getD i false = (l.getD i false != par D i (l.length + 1)) := by
  unfold turnedBy
  rw [List.getD_eq_getElem?_getD, List.getElem?_map, List.getElem?_range h]; rfl
theorem turnedBy_none (l : List Bool) (D : Nat → Bool) (h : ∀ k, D k = false) : turnedBy l D = l := by
  refine ext_getD false (length_turnedBy _ _) fun i hi => ?_
  rw [length_turnedBy] at hi
  rw [turnedBy_get _ _ _ hi, par_none D h]; cases l.getD i false <;> rfl
theorem turnedBy_all (l d : List Bool) (D : Nat → Bool) (hd : d.length = l.length) (h : ∀ k, D k = edge d k) : turnedBy l D = xorL l d := by
  refine ext_getD false (by rw [length_turnedBy, length_xorL]) fun i hi => ?_
  rw [length_turnedBy] at hi
  rw [turnedBy_get _ _ _ hi, xorL_get _ _ _ hi, show D = edge d from funext h, ← hd, par_all d i (by omega)]
theorem flipTo_get (m : List Bool) (k i : Nat) (hi : i < m.length) : (Tp.flipTo m k).getD i false = (m.getD i false != decide (i < k)) := by
  unfold Tp.flipTo
  by_cases h : i < k
  · rw [List.getD_eq_getElem?_getD, List.getElem?_append_left (by simp; omega), List.getElem?_map, List.getElem?_take, if_pos h, decide_eq_true h, List.getElem?_eq_getElem hi, List.getD_eq_getElem?_getD, List.getElem?_eq_getElem hi]
    show (!m[i]) = (m[i] != true)
    cases m[i] <;> rfl
  · rw [List.getD_eq_getElem?_getD, List.getElem?_append_right (by simp; omega), List.getElem?_drop, decide_eq_false h]
    have e : k + (i - (List.map (fun x => !x) (List.take k m)).length) = i := by rw [List.length_map, List.length_take]; omega
    rw [e, ← List.getD_eq_getElem?_getD]
    cases m.getD i false <;> rfl
theorem turnedBy_step (l : List Bool) (D D' : Nat → Bool) (K : Nat) (hK : K ≤ l.length) (h : ∀ k, D' k = (D k != decide (k = K))) : Tp.flipTo (turnedBy l D) K = turnedBy l D' := by
  refine ext_getD false (by rw [Tp.length_flipTo, length_turnedBy, length_turnedBy]) fun i hi => ?_
  rw [Tp.length_flipTo, length_turnedBy] at hi
  rw [flipTo_get _ _ _ (by rw [length_turnedBy]; exact hi), turnedBy_get _ _ _ hi, turnedBy_get _ _ _ hi, par_add D D' K i h, show decide (i < K ∧ K < l.length + 1) = decide (i < K) from decide_eq_decide.2 (by omega)]
  cases l.getD i false <;> cases par D i (l.length + 1) <;> cases decide (i < K) <;> rfl
theorem flipTo_zero (m : List Bool) : Tp.flipTo m 0 = m := by simp [Tp.flipTo]
/-- which first orders have been carried out -/
def doneB (d : List Bool) (left : Lit → Bool) (k : Nat) : Bool := edge d k && !left (.int .i64 (k : Int))
end Ed

set_option maxRecDepth 20000 in
set_option maxHeartbeats 1000000 in
theorem carriedOut_p (w0 w : World) (B b g N : Nat) (l d : List Bool) (h1 : 1 ≤ l.length) (h2 : l.length ≤ 40) (hd : d.length = l.length) (hN : N ≤ 1000) (hF : Fst w b N (edS d)) (hT : Tp.Trp w g l (List.replicate l.length 0)) (hB : B ≤ g) (hB0 : B ≤ w0.heap.size) (hb : Below B w0 w) (hgb : g ≠ b) :
    Calls Try.prog 72 #[.map (some b), .slice (some ⟨g, 0, none⟩) l.length l.length] w fun e w' => e = .returned (.string (Rw.str (xorL l d))) ∧ Below B w0 w' := by
  have HX := Lib.hid (fun w2 c2 h => Tp.text_any g (xorL l d) c2 (by rw [length_xorL]; exact h1) (by rw [length_xorL]; omega) w2 h)
  rw [length_xorL] at HX
  obtain ⟨n, hn⟩ : ∃ n, n = l.length := ⟨_, rfl⟩
  rw [← hn] at HX h1 h2 ⊢
  have HN := Lib.hid hn
  have HF := Lib.hid hF
  have HT := Lib.hid hT
  have HBB := Lib.hid hb
  have HD := Lib.hid hd
  have hgs : g < w.heap.size := hT.lt
  have hws := hb.size
  have HSUM : Hid ((List.replicate l.length 0).sum = 0) := Lib.hid (by simp)
  clear hn hF hT hb hd
  go_enter Try.func72, Try.ntmps72
  go_wp2_with (at_range; refine wpList_rangeF _ rfl _ 66 rfl Try.underlying66 rfl HF.out ?_; intro w1 left0 cnt0 hR hL hcN hG hsz)
  go_frame
  have HR1 := Lib.hid hR
  have HL1 := Lib.hid hL
  have HB1 : Hid (Below B w0 w1) := Lib.hid (HBB.out.grown hG (by omega) (fun k hk => by cases hk))
  have HT1 : Hid (Tp.Trp w1 g l (List.replicate l.length 0)) := Lib.hid (HT.out.of_block (hG.block g hgs (by simp)))
  clear hR hL hG
  go_loopw [5] (fun _ wr => ∃ (left : Lit → Bool) (cnt : Nat) (c : List Nat), Hid (Rng wr b w.heap.size N (edS d) left cnt) ∧ Hid (Tp.Trp wr g (turnedBy l (doneB d left)) c) ∧ c.sum + 60 * cnt ≤ 60 * N ∧ Hid (Below B w0 wr)) (fun _ wr => wr.rangeLeft b w.heap.size)
  case atStart =>
    refine ⟨left0, cnt0, _, HR1, Lib.hid ?_, by rw [HSUM.out]; omega, HB1⟩
    rw [turnedBy_none]
    · exact HT1.out
    · intro k
      unfold doneB
      rw [HL1.out, edS_nat]
      cases edge d k <;> rfl
  case round =>
    obtain ⟨left, cnt, c, HR, HTr, hsum, HBr⟩ := hrel
    obtain ⟨wo, rfl⟩ : ∃ wo : World, wo = wr := ⟨_, rfl⟩
    have hbz := HBr.out.size
    have HRN := Lib.hid HR.out.ne
    have hrl := HR.out.lt
    go_wp2_with (first | (at_next; refine wpList_nextF _ rfl _ rfl rfl HR.out ?_ ?_) | go_in)
    · intro _ hl0
      have HTE : Hid (Tp.Trp wo g (xorL l d) c) := Lib.hid (by
        have e := turnedBy_all l d (doneB d left) HD.out (fun k => by unfold doneB; rw [hl0, Bool.not_false, Bool.and_true])
        rw [← e]; exact HTr.out)
      have HC := Lib.hid (HX.out wo c HTE.out)
      clear hl0
      go_wp2_with (go_at_call 68; refine HC.out.mono ?_; rintro e w3 ⟨rfl, hb3⟩)
      go_ret
      exact ⟨rfl, HBr.out.trans (hb3.mono (by omega))⟩
    · intro x w2 left2 cnt2 hwf hlx hSx hR2 hL2 hlt hG2 hsz2 hen
      obtain ⟨K, rfl, hKd, hKe⟩ := edS_pos hSx
      have hKn : K ≤ n := by have := HN.out; have := HD.out; omega
      have HT2 : Hid (Tp.Trp w2 g (turnedBy l (doneB d left)) c) := Lib.hid (HTr.out.of_block (hG2.block g (by omega) (fun e => by have := Option.some.inj e; omega)))
      have HR2 := Lib.hid hR2
      have HB2 : Hid (Below B w0 w2) := Lib.hid (HBr.out.grown hG2 (by omega) (fun k hk => by cases hk; omega))
      have HDN : Hid (Tp.flipTo (turnedBy l (doneB d left)) K = turnedBy l (doneB d left2)) := Lib.hid (turnedBy_step l _ _ K (by have := HN.out; omega) (fun k => by
        unfold doneB
        rw [hL2]
        by_cases e : k = K
        · subst e; rw [hlx, hKe, decide_eq_true rfl, decide_eq_true rfl]; rfl
        · rw [decide_eq_false e, decide_eq_false (show ¬ (k : Int) = (K : Int) by omega)]
          cases edge d k <;> cases left (.int .i64 (k : Int)) <;> rfl))
      have HLT := Lib.hid hlt
      have HLE := Lib.hid HR.out.left_eq
      have HZ2 := Lib.hid (show w2.heap.size = wo.heap.size from hsz2)
      clear hlx hSx hR2 hL2 hlt hG2 hsz2 hKd hKe
      go_wp2
      go_loopw [14] (fun i wr => ∃ (j : Nat) (cj : List Nat), j ≤ K ∧ i = .int .i64 (j : Int) ∧ Hid (Rng wr b w.heap.size N (edS d) left2 cnt2) ∧ Hid (Tp.Trp wr g (Tp.flipTo (turnedBy l (doneB d left)) j) cj) ∧ cj.sum ≤ c.sum + j ∧ Hid (Below B w0 wr)) (fun i _ => K - (intOf i).toNat)
      case atStart => exact ⟨0, c, Nat.zero_le _, rfl, HR2, Lib.hid (by rw [flipTo_zero]; exact HT2.out), by omega, HB2⟩
      case round =>
        obtain ⟨j, cj, hj, rfl, HRj, HTj, hsj, HBj⟩ := hrel
        by_cases hjK : j < K
        · have hlen : (Tp.flipTo (turnedBy l (doneB d left)) j).length = n := by rw [Tp.length_flipTo, length_turnedBy]; exact HN.out.symm
          have HCT := Lib.hid (Tp.turn_trp HTj.out (k := j) (by omega) (by omega))
          have HFS : Hid (Rw.flipAt (Tp.flipTo (turnedBy l (doneB d left)) j) j = Tp.flipTo (turnedBy l (doneB d left)) (j + 1)) := Lib.hid (Tp.flipTo_succ _ j (by rw [length_turnedBy]; have := HN.out; omega))
          have HSI := Lib.hid (Rw.sum_inc cj j (by rw [← HTj.out.2]; omega))
          have i1 : (j : Int) < (n : Int) := by omega
          clear hlen
          go_wp2_with fail
          go_at_call 83
          refine HCT.out.mono ?_
          rintro e w3 ⟨rfl, hT3, hG3⟩
          have HT3 : Hid (Tp.Trp w3 g (Tp.flipTo (turnedBy l (doneB d left)) (j + 1)) (Rw.inc cj j)) := Lib.hid (by rw [← HFS.out]; exact hT3)
          have HR3 := Lib.hid (HRj.out.kept hG3 (by simp; omega) (by simp; omega))
          have HB3 : Hid (Below B w0 w3) := Lib.hid (grownBy_below HBj.out hG3 hB0 hB)
          clear hT3 hG3
          go_wp2
          exact ⟨⟨j + 1, _, by omega, by go_num, HR3, HT3, by rw [HSI.out]; omega, HB3⟩, by simp [intOf]; omega⟩
        · obtain rfl : j = K := by omega
          have HRL := Lib.hid HRj.out.left_eq
          go_wp2
          exact ⟨⟨left2, cnt2, cj, HRj, Lib.hid (by rw [← HDN.out]; exact HTj.out), by have := HLT.out; omega, HBj⟩, by rw [HRL.out, HLE.out]; exact HLT.out⟩

set_option maxHeartbeats 1000000 in
theorem toldC_no (b : Nat) (s : ByteArray) (hs : s.size ≤ maxLen) (hg : goodB s = false) (w : World) :
    Calls Try.prog 71 #[.string s, .func (.func 72) #[.map (some b)] #[]] w fun e w' => e = .returned (.tuple #[.string ByteArray.empty, .bool false]) ∧ w = w' := by
  go_enter Try.func71, Try.ntmps71
  go_wp2_with (go_at_call 77; refine (Tp.isRow_any _ _ hs).mono ?_; rintro e w' ⟨rfl, rfl⟩)
  go_ret2
  exact ⟨rfl, rfl⟩
set_option maxHeartbeats 1000000 in
theorem toldC (b N : Nat) (l d : List Bool) (h1 : 1 ≤ l.length) (h2 : l.length ≤ 40) (hd : d.length = l.length) (hN : N ≤ 1000) (w : World) (hF : Fst w b N (edS d)) :
    Calls Try.prog 71 #[.string (Rw.str l), .func (.func 72) #[.map (some b)] #[]] w fun e w' => e = .returned (.tuple #[.string (Rw.str (xorL l d)), .bool true]) ∧ Below w.heap.size w w' := by
  obtain ⟨i0, hi, hz0, hz1, hz2⟩ := info_parts Tp.info_placed
  have hbl := hF.lt
  have HM : Hid (∀ (w2 : World) (g : Nat), Below w.heap.size w w2 → w.heap.size ≤ g → Tp.Trp w2 g l (List.replicate l.length 0) → Calls Try.prog 72 #[.map (some b), .slice (some ⟨g, 0, none⟩) l.length l.length] w2 fun e w' => e = .returned (.string (Rw.str (xorL l d))) ∧ Below w.heap.size w w') :=
    Lib.hid (fun w2 g hb hg hT => carriedOut_p w w2 w.heap.size b g N l d h1 h2 hd hN (hF.below hb hbl) hT hg (Nat.le_refl _) hb (by omega))
  have hsz : (Rw.str l).size = l.length := Rw.size_str l
  have hgood := goodB_str h1 (show l.length ≤ 60 by omega)
  obtain ⟨s, hs⟩ : ∃ s, s = Rw.str l := ⟨_, rfl⟩
  obtain ⟨n, hn⟩ : ∃ n, n = s.size := ⟨_, rfl⟩
  obtain ⟨o, ho⟩ : ∃ o, o = Rw.str (xorL l d) := ⟨_, rfl⟩
  rw [← ho] at HM ⊢
  rw [← hs] at hsz hgood ⊢
  have HS := Lib.hid hs
  have HZ := Lib.hid hsz
  rw [← hsz] at h1 h2
  have HM2 : Hid (∀ (w2 : World) (g : Nat), Below w.heap.size w w2 → w.heap.size ≤ g → Tp.Trp w2 g l (List.replicate l.length 0) → Calls Try.prog 72 #[.map (some b), .slice (some ⟨g, 0, none⟩) s.size s.size] w2 fun e w' => e = .returned (.string o) ∧ Below w.heap.size w w') := by rw [hsz]; exact HM
  have hml : s.size ≤ maxLen := by unfold maxLen; omega
  clear hs hsz HM hF hd ho
  go_enter Try.func71, Try.ntmps71
  go_wp2_with (first | (go_at_call 77; refine (Tp.isRow_any _ _ hml).mono ?_; rintro e w' ⟨rfl, rfl⟩) | (at_make; refine wpList_make_full _ rfl _ _ 77 rfl w.heap.size 92 i0 (.agg #[.bool false, .int .i64 0]) 2 Try.underlying77 hi hz0 hz1 .i64 .i64 _ _ s.size rfl rfl rfl rfl (by rw [hz2]; omega) (by unfold maxLen; omega) (Nat.le_refl _) ?_; intro w1 hown hgrow))
  have hT0 := Tp.made_trp HZ.out hown
  have hb0 := below_made hgrow
  have hg0 : w.heap.size < w1.heap.size := hT0.lt
  clear hown hgrow
  go_loopw [18] (fun i wr => ∃ k : Nat, k ≤ s.size ∧ i = .int .i64 k ∧ Tp.Trp wr w.heap.size (Tp.seen l k) (List.replicate l.length 0) ∧ Below w.heap.size w wr)
    (fun i _ => s.size - (intOf i).toNat)
  case atStart => exact ⟨0, Nat.zero_le _, rfl, hT0, hb0⟩
  case round =>
    obtain ⟨k, hk, rfl, hT, hb⟩ := hrel
    by_cases hlt : k < s.size
    · have e1 := Tp.byteR HS.out k hlt
      obtain ⟨b, hbb⟩ : ∃ b, b = l.getD k false := ⟨_, rfl⟩
      rw [← hbb] at e1
      have hc := hT.cellB k (by rw [Tp.length_seen _ _ (by have := HZ.out; omega)]; have := HZ.out; omega)
      obtain ⟨b0, hb0'⟩ : ∃ b0, b0 = (Tp.seen l k).getD k false := ⟨_, rfl⟩
      rw [← hb0'] at hc
      have hf := hT.free (k * 2)
      have R := Lib.hid (Tp.trp_step (by have := HZ.out; omega) hbb hT)
      have RB := Lib.hid (hb.setCell (p := ⟨w.heap.size, k * 2, none⟩) (Nat.le_refl _) (.bool b))
      clear hbb hb0' hT hb hT0 hb0
      go_wp2
      go_roundw
      case rel => exact ⟨k + 1, by omega, by go_num, R.out, RB.out⟩
      case measure => simp [intOf]; omega
    · have hT1 : Tp.Trp wr w.heap.size l (List.replicate l.length 0) := Tp.trp_done (by have := HZ.out; omega) hT
      have HC := Lib.hid (HM2.out wr w.heap.size hb (Nat.le_refl _) hT1)
      clear hT hT0 hb0 hT1
      go_wp2_with (go_at_call 72; refine HC.out.mono ?_; rintro e w' ⟨rfl, hQ⟩)
      go_ret2
      exact ⟨rfl, hQ⟩

end Go.Proofs.Ytkdpjimbhpclaab
