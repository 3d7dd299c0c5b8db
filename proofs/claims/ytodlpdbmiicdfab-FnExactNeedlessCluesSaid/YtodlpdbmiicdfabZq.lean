/- Chapter 9, the program: NeedlessClues, LeftByClues, BestClue. -/
import Derived.Test.YtodlpdbmiicdfabZp
import Derived.Test.YtodlpdbmiicdfabMx
namespace Go.Proofs.Ytodlpdbmiicdfab
open Go.ChangeShapes Go.WideShapes Go.ChangeAt Go.RowKit
open Pz

set_option maxHeartbeats 2000000 in
theorem of_needless_no (w : World) (s : Int) (a : Option Addr) (len cap : Nat) (cs : List RClue) (hb : goodP s cs = false) (hl : len ≤ 1048576) (hc : CameClue w a len cs) :
    Calls Try.prog 31 #[.agg #[.int .i64 s, .slice a len cap], .func (.func 32) #[] #[]] w fun e w' => e = .returned (.tuple #[.slice none 0 0, .bool false]) ∧ Below w.heap.size w w' := by
  have HB : Hid (Below w.heap.size w (w.alloc (.cells #[.int .i64 s, .slice a len cap] 31))) := Lib.hid ((Below.refl _ _).alloc (Nat.le_refl _) _)
  have HG := Lib.hid (implIsPuzzle_any (w.alloc (.cells #[.int .i64 s, .slice a len cap] 31)) s a len cap cs hl (hc.below HB.out))
  rw [hb] at HG
  clear hc hb
  go_enter Try.func31, Try.ntmps31
  go_wp2_with fail
  go_at_call 57
  refine HG.out.mono ?_
  rintro e w2 ⟨rfl, b2⟩
  have HB2 : Hid (Below w.heap.size w w2) := Lib.hid (HB.out.trans (b2.mono HB.out.size))
  clear b2
  go_wp2
  go_ret2
  exact ⟨rfl, HB2.out⟩
set_option maxHeartbeats 2000000 in
theorem of_needless_yes (w : World) (n : Nat) (a : Option Addr) (len cap : Nat) (cs : List RClue) (hb : goodP (n : Int) cs = true) (hl : len ≤ 1048576) (hc : CameClue w a len cs) (hcp : len ≤ cap) :
    Calls Try.prog 31 #[.agg #[.int .i64 (n : Int), .slice a len cap], .func (.func 32) #[] #[]] w fun e w' => ∃ v, e = .returned (.tuple #[v, .bool true]) ∧ Own w' w.heap.size v (asInts (needTo n cs len)) ∧ Below w.heap.size w w' := by
  obtain ⟨⟨n', hn', hn1, hn8⟩, hl6, hcl⟩ := pz_of hb
  obtain rfl : n = n' := by omega
  obtain ⟨w0, hw0⟩ : ∃ w0, w0 = w.alloc (.cells #[.int .i64 (n : Int), .slice a len cap] 31) := ⟨_, rfl⟩
  have HB : Hid (Below w.heap.size w w0) := Lib.hid (by rw [hw0]; exact (Below.refl _ _).alloc (Nat.le_refl _) _)
  obtain ⟨pb, hpb⟩ : ∃ pb, pb = w.heap.size := ⟨_, rfl⟩
  have HPC : Hid (∀ w2, Below w0.heap.size w0 w2 → BoxZ w2 pb (n : Int) (.slice a len cap)) := Lib.hid (fun w2 h => by
    have c0 : BoxZ w0 pb (n : Int) (.slice a len cap) := by rw [hw0, hpb]; exact BoxZ.new _ _ _ _
    exact c0.below h c0.lt)
  have HC : Hid (CameClue w0 a len cs) := Lib.hid (hc.below HB.out)
  have HG := Lib.hid (implIsPuzzle_any w0 (n : Int) a len cap cs hl HC.out)
  rw [hb] at HG
  have hl6' : len ≤ 6 := by have := hc.1; omega
  have HM := Lib.hid (fun w2 (h : Below w0.heap.size w0 w2) => needless_any w2 n hn1 hn8 a len cap cs hl6' hcl (HC.out.below h) hcp)
  obtain ⟨c0, c1⟩ := HPC.out w0 (Below.refl _ _)
  clear hc hb hcl hl6 hn'
  go_enter Try.func31, Try.ntmps31
  go_wp2_with fail
  rw [← hw0, ← hpb]
  clear hw0 hpb
  go_at_call 57
  refine HG.out.mono ?_
  rintro e w1 ⟨rfl, b1⟩
  have HB1 : Hid (Below w0.heap.size w0 w1) := Lib.hid b1
  have HM1 := Lib.hid (HM.out w1 b1)
  clear b1 c0 c1
  obtain ⟨c0, c1⟩ := HPC.out w1 HB1.out
  go_wp2_with fail
  go_at_call 32
  refine HM1.out.mono ?_
  rintro e w2 ⟨v, rfl, o2, b2⟩
  have HB2 : Hid (Below w.heap.size w w2) := Lib.hid (HB.out.trans ((HB1.out.trans (b2.mono HB1.out.size)).mono HB.out.size))
  have O2 := Lib.hid (o2.mono (show w.heap.size ≤ w1.heap.size by have := HB.out.size; have := HB1.out.size; omega))
  clear b2 HM1 c0 c1 o2
  go_wp2
  go_ret2
  exact ⟨v, rfl, O2.out, HB2.out⟩

set_option maxHeartbeats 2000000 in
theorem of_leftByClues_no (w : World) (s : Int) (a : Option Addr) (len cap : Nat) (cs : List RClue) (hb : goodP s cs = false) (hl : len ≤ 1048576) (hc : CameClue w a len cs) :
    Calls Try.prog 31 #[.agg #[.int .i64 s, .slice a len cap], .func (.func 35) #[] #[]] w fun e w' => e = .returned (.tuple #[.slice none 0 0, .bool false]) ∧ Below w.heap.size w w' := by
  have HB : Hid (Below w.heap.size w (w.alloc (.cells #[.int .i64 s, .slice a len cap] 31))) := Lib.hid ((Below.refl _ _).alloc (Nat.le_refl _) _)
  have HG := Lib.hid (implIsPuzzle_any (w.alloc (.cells #[.int .i64 s, .slice a len cap] 31)) s a len cap cs hl (hc.below HB.out))
  rw [hb] at HG
  clear hc hb
  go_enter Try.func31, Try.ntmps31
  go_wp2_with fail
  go_at_call 57
  refine HG.out.mono ?_
  rintro e w2 ⟨rfl, b2⟩
  have HB2 : Hid (Below w.heap.size w w2) := Lib.hid (HB.out.trans (b2.mono HB.out.size))
  clear b2
  go_wp2
  go_ret2
  exact ⟨rfl, HB2.out⟩
set_option maxHeartbeats 2000000 in
theorem of_leftByClues_yes (w : World) (n : Nat) (a : Option Addr) (len cap : Nat) (cs : List RClue) (hb : goodP (n : Int) cs = true) (hl : len ≤ 1048576) (hc : CameClue w a len cs) (hcp : len ≤ cap) :
    Calls Try.prog 31 #[.agg #[.int .i64 (n : Int), .slice a len cap], .func (.func 35) #[] #[]] w fun e w' => ∃ v, e = .returned (.tuple #[v, .bool true]) ∧ Own w' w.heap.size v (leftTo n cs (len + 1)) ∧ Below w.heap.size w w' := by
  obtain ⟨⟨n', hn', hn1, hn8⟩, hl6, hcl⟩ := pz_of hb
  obtain rfl : n = n' := by omega
  obtain ⟨w0, hw0⟩ : ∃ w0, w0 = w.alloc (.cells #[.int .i64 (n : Int), .slice a len cap] 31) := ⟨_, rfl⟩
  have HB : Hid (Below w.heap.size w w0) := Lib.hid (by rw [hw0]; exact (Below.refl _ _).alloc (Nat.le_refl _) _)
  obtain ⟨pb, hpb⟩ : ∃ pb, pb = w.heap.size := ⟨_, rfl⟩
  have HPC : Hid (∀ w2, Below w0.heap.size w0 w2 → BoxZ w2 pb (n : Int) (.slice a len cap)) := Lib.hid (fun w2 h => by
    have c0 : BoxZ w0 pb (n : Int) (.slice a len cap) := by rw [hw0, hpb]; exact BoxZ.new _ _ _ _
    exact c0.below h c0.lt)
  have HC : Hid (CameClue w0 a len cs) := Lib.hid (hc.below HB.out)
  have HG := Lib.hid (implIsPuzzle_any w0 (n : Int) a len cap cs hl HC.out)
  rw [hb] at HG
  have hl6' : len ≤ 6 := by have := hc.1; omega
  have HM := Lib.hid (fun w2 (h : Below w0.heap.size w0 w2) => leftByClues_any w2 n hn1 hn8 a len cap cs hl6' hcl (HC.out.below h) hcp)
  obtain ⟨c0, c1⟩ := HPC.out w0 (Below.refl _ _)
  clear hc hb hcl hl6 hn'
  go_enter Try.func31, Try.ntmps31
  go_wp2_with fail
  rw [← hw0, ← hpb]
  clear hw0 hpb
  go_at_call 57
  refine HG.out.mono ?_
  rintro e w1 ⟨rfl, b1⟩
  have HB1 : Hid (Below w0.heap.size w0 w1) := Lib.hid b1
  have HM1 := Lib.hid (HM.out w1 b1)
  clear b1 c0 c1
  obtain ⟨c0, c1⟩ := HPC.out w1 HB1.out
  go_wp2_with fail
  go_at_call 35
  refine HM1.out.mono ?_
  rintro e w2 ⟨v, rfl, o2, b2⟩
  have HB2 : Hid (Below w.heap.size w w2) := Lib.hid (HB.out.trans ((HB1.out.trans (b2.mono HB1.out.size)).mono HB.out.size))
  have O2 := Lib.hid (o2.mono (show w.heap.size ≤ w1.heap.size by have := HB.out.size; have := HB1.out.size; omega))
  clear b2 HM1 c0 c1 o2
  go_wp2
  go_ret2
  exact ⟨v, rfl, O2.out, HB2.out⟩

set_option maxHeartbeats 2000000 in
theorem of_leftByEach_no (w : World) (s : Int) (a : Option Addr) (len cap : Nat) (cs : List RClue) (hb : goodP s cs = false) (hl : len ≤ 1048576) (hc : CameClue w a len cs) :
    Calls Try.prog 31 #[.agg #[.int .i64 s, .slice a len cap], .func (.func 36) #[] #[]] w fun e w' => e = .returned (.tuple #[.slice none 0 0, .bool false]) ∧ Below w.heap.size w w' := by
  have HB : Hid (Below w.heap.size w (w.alloc (.cells #[.int .i64 s, .slice a len cap] 31))) := Lib.hid ((Below.refl _ _).alloc (Nat.le_refl _) _)
  have HG := Lib.hid (implIsPuzzle_any (w.alloc (.cells #[.int .i64 s, .slice a len cap] 31)) s a len cap cs hl (hc.below HB.out))
  rw [hb] at HG
  clear hc hb
  go_enter Try.func31, Try.ntmps31
  go_wp2_with fail
  go_at_call 57
  refine HG.out.mono ?_
  rintro e w2 ⟨rfl, b2⟩
  have HB2 : Hid (Below w.heap.size w w2) := Lib.hid (HB.out.trans (b2.mono HB.out.size))
  clear b2
  go_wp2
  go_ret2
  exact ⟨rfl, HB2.out⟩
set_option maxHeartbeats 2000000 in
theorem of_leftByEach_yes (w : World) (n : Nat) (a : Option Addr) (len cap : Nat) (cs : List RClue) (hb : goodP (n : Int) cs = true) (hl : len ≤ 1048576) (hc : CameClue w a len cs) (hcp : len ≤ cap) :
    Calls Try.prog 31 #[.agg #[.int .i64 (n : Int), .slice a len cap], .func (.func 36) #[] #[]] w fun e w' => ∃ v, e = .returned (.tuple #[v, .bool true]) ∧ Own w' w.heap.size v (asInts ((List.range len).map (oneN n cs))) ∧ Below w.heap.size w w' := by
  obtain ⟨⟨n', hn', hn1, hn8⟩, hl6, hcl⟩ := pz_of hb
  obtain rfl : n = n' := by omega
  obtain ⟨w0, hw0⟩ : ∃ w0, w0 = w.alloc (.cells #[.int .i64 (n : Int), .slice a len cap] 31) := ⟨_, rfl⟩
  have HB : Hid (Below w.heap.size w w0) := Lib.hid (by rw [hw0]; exact (Below.refl _ _).alloc (Nat.le_refl _) _)
  obtain ⟨pb, hpb⟩ : ∃ pb, pb = w.heap.size := ⟨_, rfl⟩
  have HPC : Hid (∀ w2, Below w0.heap.size w0 w2 → BoxZ w2 pb (n : Int) (.slice a len cap)) := Lib.hid (fun w2 h => by
    have c0 : BoxZ w0 pb (n : Int) (.slice a len cap) := by rw [hw0, hpb]; exact BoxZ.new _ _ _ _
    exact c0.below h c0.lt)
  have HC : Hid (CameClue w0 a len cs) := Lib.hid (hc.below HB.out)
  have HG := Lib.hid (implIsPuzzle_any w0 (n : Int) a len cap cs hl HC.out)
  rw [hb] at HG
  have hl6' : len ≤ 6 := by have := hc.1; omega
  have HM := Lib.hid (fun w2 (h : Below w0.heap.size w0 w2) => leftByEach_any w2 n hn1 hn8 a len cap cs hl6' hcl (HC.out.below h) hcp)
  obtain ⟨c0, c1⟩ := HPC.out w0 (Below.refl _ _)
  clear hc hb hcl hl6 hn'
  go_enter Try.func31, Try.ntmps31
  go_wp2_with fail
  rw [← hw0, ← hpb]
  clear hw0 hpb
  go_at_call 57
  refine HG.out.mono ?_
  rintro e w1 ⟨rfl, b1⟩
  have HB1 : Hid (Below w0.heap.size w0 w1) := Lib.hid b1
  have HM1 := Lib.hid (HM.out w1 b1)
  clear b1 c0 c1
  obtain ⟨c0, c1⟩ := HPC.out w1 HB1.out
  go_wp2_with fail
  go_at_call 36
  refine HM1.out.mono ?_
  rintro e w2 ⟨v, rfl, o2, b2⟩
  have HB2 : Hid (Below w.heap.size w w2) := Lib.hid (HB.out.trans ((HB1.out.trans (b2.mono HB1.out.size)).mono HB.out.size))
  have O2 := Lib.hid (o2.mono (show w.heap.size ≤ w1.heap.size by have := HB.out.size; have := HB1.out.size; omega))
  clear b2 HM1 c0 c1 o2
  go_wp2
  go_ret2
  exact ⟨v, rfl, O2.out, HB2.out⟩

set_option maxHeartbeats 2000000 in
theorem implNeedlessClues_any (w : World) (s : Int) (a : Option Addr) (len cap : Nat) (cs : List RClue) (hl : len ≤ 1048576) (hc : CameClue w a len cs) (hcp : len ≤ cap ∧ cap ≤ 9223372036854775807) :
    Calls Try.prog 11 #[.agg #[.int .i64 s, .slice a len cap]] w fun e w' => ∃ v0, e = .returned (.tuple #[v0, .bool (outNeedlessClues_1 s cs)]) ∧ Own w' w.heap.size v0 (outNeedlessClues_0 s cs) ∧ Below w.heap.size w w' := by
  have HB : Hid (Below w.heap.size w (w.alloc (.cells #[.int .i64 s, .slice a len cap] 31))) := Lib.hid ((Below.refl _ _).alloc (Nat.le_refl _) _)
  have hc2 := hc.below HB.out
  have HZ : Hid (cs.length = len) := Lib.hid hc.1
  rcases hb : goodP s cs with _ | _
  · have HE : Hid (outNeedlessClues_0 s cs = [] ∧ outNeedlessClues_1 s cs = false) := Lib.hid (by unfold outNeedlessClues_0 outNeedlessClues_1; rw [hb]; exact ⟨rfl, rfl⟩)
    have HO := Lib.hid (of_needless_no _ s a len cap cs hb hl hc2)
    clear hb hc2 hc
    go_enter Try.func11, Try.ntmps11
    go_wp2_with fail
    go_at_call 31
    refine HO.out.mono ?_
    rintro e w2 ⟨rfl, b2⟩
    have HB2 : Hid (Below w.heap.size w w2) := Lib.hid (HB.out.trans (b2.mono HB.out.size))
    clear b2
    go_wp2
    go_ret2
    exact ⟨.slice none 0 0, by rw [HE.out.2]; exact rfl, by rw [HE.out.1]; exact own_nil _ _, HB2.out⟩
  · obtain ⟨⟨n, rfl, hn1, hn8⟩, hl6, hcl⟩ := pz_of hb
    have HE : Hid (outNeedlessClues_0 (n : Int) cs = asInts (needTo n cs len) ∧ outNeedlessClues_1 (n : Int) cs = true) := Lib.hid (by unfold outNeedlessClues_0 outNeedlessClues_1; rw [hb, HZ.out]; exact ⟨rfl, rfl⟩)
    have HO := Lib.hid (of_needless_yes _ n a len cap cs hb hl hc2 hcp.1)
    clear hb hc2 hc hcl hl6
    go_enter Try.func11, Try.ntmps11
    go_wp2_with fail
    go_at_call 31
    refine HO.out.mono ?_
    rintro e w2 ⟨v, rfl, o2, b2⟩
    have HB2 : Hid (Below w.heap.size w w2) := Lib.hid (HB.out.trans (b2.mono HB.out.size))
    have O2 := Lib.hid (o2.mono HB.out.size)
    clear b2 o2
    go_wp2
    go_ret2
    exact ⟨v, by rw [HE.out.2]; exact rfl, by rw [HE.out.1]; exact O2.out, HB2.out⟩

set_option maxHeartbeats 2000000 in
theorem implLeftByClues_any (w : World) (s : Int) (a : Option Addr) (len cap : Nat) (cs : List RClue) (hl : len ≤ 1048576) (hc : CameClue w a len cs) (hcp : len ≤ cap ∧ cap ≤ 9223372036854775807) :
    Calls Try.prog 18 #[.agg #[.int .i64 s, .slice a len cap]] w fun e w' => ∃ v0, e = .returned (.tuple #[v0, .bool (outLeftByClues_1 s cs)]) ∧ Own w' w.heap.size v0 (outLeftByClues_0 s cs) ∧ Below w.heap.size w w' := by
  have HB : Hid (Below w.heap.size w (w.alloc (.cells #[.int .i64 s, .slice a len cap] 31))) := Lib.hid ((Below.refl _ _).alloc (Nat.le_refl _) _)
  have hc2 := hc.below HB.out
  have HZ : Hid (cs.length = len) := Lib.hid hc.1
  rcases hb : goodP s cs with _ | _
  · have HE : Hid (outLeftByClues_0 s cs = [] ∧ outLeftByClues_1 s cs = false) := Lib.hid (by unfold outLeftByClues_0 outLeftByClues_1; rw [hb]; exact ⟨rfl, rfl⟩)
    have HO := Lib.hid (of_leftByClues_no _ s a len cap cs hb hl hc2)
    clear hb hc2 hc
    go_enter Try.func18, Try.ntmps18
    go_wp2_with fail
    go_at_call 31
    refine HO.out.mono ?_
    rintro e w2 ⟨rfl, b2⟩
    have HB2 : Hid (Below w.heap.size w w2) := Lib.hid (HB.out.trans (b2.mono HB.out.size))
    clear b2
    go_wp2
    go_ret2
    exact ⟨.slice none 0 0, by rw [HE.out.2]; exact rfl, by rw [HE.out.1]; exact own_nil _ _, HB2.out⟩
  · obtain ⟨⟨n, rfl, hn1, hn8⟩, hl6, hcl⟩ := pz_of hb
    have HE : Hid (outLeftByClues_0 (n : Int) cs = leftTo n cs (len + 1) ∧ outLeftByClues_1 (n : Int) cs = true) := Lib.hid (by unfold outLeftByClues_0 outLeftByClues_1; rw [hb, HZ.out]; exact ⟨rfl, rfl⟩)
    have HO := Lib.hid (of_leftByClues_yes _ n a len cap cs hb hl hc2 hcp.1)
    clear hb hc2 hc hcl hl6
    go_enter Try.func18, Try.ntmps18
    go_wp2_with fail
    go_at_call 31
    refine HO.out.mono ?_
    rintro e w2 ⟨v, rfl, o2, b2⟩
    have HB2 : Hid (Below w.heap.size w w2) := Lib.hid (HB.out.trans (b2.mono HB.out.size))
    have O2 := Lib.hid (o2.mono HB.out.size)
    clear b2 o2
    go_wp2
    go_ret2
    exact ⟨v, by rw [HE.out.2]; exact rfl, by rw [HE.out.1]; exact O2.out, HB2.out⟩

set_option maxHeartbeats 1000000 in
theorem index_any (w : World) (a : Option Addr) (len cap : Nat) (zs : List Int) (x : Int) (j : Nat) (hl : len ≤ 1048576) (hc : Came w a len zs) (hj : j < len) (hx : zs.getD j 0 = x) (hm : ∀ i, i < j → zs.getD i 0 ≠ x) :
    Calls Try.prog 37 #[.slice a len cap, .int .i64 x] w fun e w' => e = .returned (.int .i64 (j : Int)) ∧ w = w' := by
  have HC := Lib.hid hc
  have HX := Lib.hid hx
  have HM := Lib.hid hm
  clear hc hx hm
  go_enter Try.func37, Try.ntmps37
  go_wp2
  go_loop [8] (fun i => ∃ k : Nat, k ≤ j ∧ i = .int .i64 (k : Int)) (fun i => j - (intOf i).toNat)
  case atStart => exact ⟨0, Nat.zero_le _, rfl⟩
  case round =>
    obtain ⟨k, hk, rfl⟩ := hrel
    obtain ⟨b, off, rfl, hcell⟩ := HC.out.2 (by omega)
    have e1 := hcell k (by omega)
    have i1 : (0 : Int) ≤ (k : Int) := by omega
    have i2 : (k : Int) < (len : Int) := by omega
    have HNE := Lib.hid (HM.out k)
    obtain ⟨y, hy⟩ : ∃ y, y = zs.getD k 0 := ⟨_, rfl⟩
    rw [← hy] at e1 HNE
    have HY := Lib.hid hy
    clear hcell hy
    by_cases hkj : k = j
    · have hq : (x == y) = true := by rw [beq_iff_eq, HY.out, hkj]; exact HX.out.symm
      have HK : Hid ((k : Int) = (j : Int)) := Lib.hid (by omega)
      clear hkj
      go_wp2
      go_ret
      exact ⟨by rw [HK.out]; exact rfl, rfl⟩
    · have hq : (x == y) = false := by rw [beq_eq_false_iff_ne]; exact fun e => HNE.out (by omega) e.symm
      go_wp2
      exact ⟨⟨k + 1, by omega, by go_num⟩, by simp [intOf]; omega⟩
theorem best_spec (f : Nat → Nat) : ∀ k, (bestTo f (k + 1)).1 ≤ k ∧ f (bestTo f (k + 1)).1 = (bestTo f (k + 1)).2 ∧ (∀ i, i ≤ k → (bestTo f (k + 1)).2 ≤ f i) ∧ ∀ i, i < (bestTo f (k + 1)).1 → (bestTo f (k + 1)).2 < f i
  | 0 => by
    have e : bestTo f (0 + 1) = (0, f 0) := by rw [bestTo, if_pos (.inl rfl)]
    rw [e]
    refine ⟨Nat.le_refl _, rfl, fun i hi => ?_, fun i hi => absurd hi (Nat.not_lt_zero _)⟩
    obtain rfl : i = 0 := by omega
    exact Nat.le_refl _
  | k + 1 => by
    obtain ⟨h1, h2, h3, h4⟩ := best_spec f k
    by_cases h : f (k + 1) < (bestTo f (k + 1)).2
    · have e : bestTo f (k + 1 + 1) = (k + 1, f (k + 1)) := by rw [bestTo, if_pos (.inr h)]
      rw [e]
      refine ⟨Nat.le_refl _, rfl, fun i hi => ?_, fun i hi => ?_⟩
      · by_cases hi2 : i = k + 1
        · rw [hi2]; exact Nat.le_refl _
        · have := h3 i (by omega); show f (k + 1) ≤ f i; omega
      · have := h3 i (by have : i < k + 1 := hi; omega); show f (k + 1) < f i; omega
    · have e : bestTo f (k + 1 + 1) = bestTo f (k + 1) := by rw [bestTo, if_neg (by omega)]
      rw [e]
      refine ⟨by omega, h2, fun i hi => ?_, h4⟩
      by_cases hi2 : i = k + 1
      · rw [hi2]; omega
      · exact h3 i (by omega)
theorem getD_ones (f : Nat → Nat) (len k : Nat) (hk : k < len) : (asInts ((List.range len).map f)).getD k 0 = ((f k : Nat) : Int) := by
  rw [getD_asInts]; congr 1; simp [List.getD_eq_getElem?_getD, hk]
theorem min_is (f : Nat → Nat) (len : Nat) (h : 0 < len) : minTo (asInts ((List.range len).map f)) (len - 1) = (((bestTo f len).2 : Nat) : Int) := by
  obtain ⟨k, rfl⟩ : ∃ k, len = k + 1 := ⟨len - 1, by omega⟩
  obtain ⟨h1, h2, h3, _⟩ := best_spec f k
  have ha := minTo_le (asInts ((List.range (k + 1)).map f)) (k + 1 - 1) (bestTo f (k + 1)).1 (by omega)
  rw [getD_ones f _ _ (by omega), h2] at ha
  obtain ⟨j, hj, he⟩ := minTo_is (asInts ((List.range (k + 1)).map f)) (k + 1 - 1)
  rw [getD_ones f _ _ (by omega)] at he
  have := h3 j (by omega)
  omega
set_option maxHeartbeats 4000000 in
theorem implBestClue_any (w : World) (s : Int) (a : Option Addr) (len cap : Nat) (cs : List RClue) (hl : len ≤ 1048576) (hc : CameClue w a len cs) (hcp : len ≤ cap ∧ cap ≤ 9223372036854775807) :
    Calls Try.prog 20 #[.agg #[.int .i64 s, .slice a len cap]] w fun e w' => e = .returned (.tuple #[.int .i64 (outBestClue_0 s cs), .bool (outBestClue_1 s cs)]) ∧ Below w.heap.size w w' := by
  have HB : Hid (Below w.heap.size w (w.alloc (.cells #[.int .i64 s, .slice a len cap] 31))) := Lib.hid ((Below.refl _ _).alloc (Nat.le_refl _) _)
  have hc2 := hc.below HB.out
  have HZ : Hid (cs.length = len) := Lib.hid hc.1
  rcases hb : goodP s cs with _ | _
  · have HE : Hid (outBestClue_0 s cs = 0 ∧ outBestClue_1 s cs = false) := Lib.hid (by unfold outBestClue_0 outBestClue_1 okBestClue; rw [hb]; exact ⟨rfl, rfl⟩)
    have HO := Lib.hid (of_leftByEach_no _ s a len cap cs hb hl hc2)
    clear hb hc2 hc
    go_enter Try.func20, Try.ntmps20
    go_wp2_with fail
    go_at_call 31
    refine HO.out.mono ?_
    rintro e w2 ⟨rfl, b2⟩
    have HB2 : Hid (Below w.heap.size w w2) := Lib.hid (HB.out.trans (b2.mono HB.out.size))
    clear b2
    go_wp2
    go_ret2
    exact ⟨by rw [HE.out.1, HE.out.2]; exact rfl, HB2.out⟩
  obtain ⟨⟨n, rfl, hn1, hn8⟩, hl6, hcl⟩ := pz_of hb
  have HO := Lib.hid (of_leftByEach_yes _ n a len cap cs hb hl hc2 hcp.1)
  by_cases h0 : len = 0
  · have HE : Hid (outBestClue_0 (n : Int) cs = 0 ∧ outBestClue_1 (n : Int) cs = false) := Lib.hid (by unfold outBestClue_0 outBestClue_1 okBestClue; rw [hb, HZ.out, h0]; exact ⟨rfl, rfl⟩)
    subst h0
    clear hb hc2 hc hcl hl6
    go_enter Try.func20, Try.ntmps20
    go_wp2_with fail
    go_at_call 31
    refine HO.out.mono ?_
    rintro e w2 ⟨v, rfl, o2, b2⟩
    have HB2 : Hid (Below w.heap.size w w2) := Lib.hid (HB.out.trans (b2.mono HB.out.size))
    obtain ⟨va, vc, rfl⟩ := o2.any
    rw [show (asInts ((List.range 0).map (oneN n cs))).length = 0 from rfl]
    clear b2 o2
    go_wp2
    go_ret2
    exact ⟨by rw [HE.out.1, HE.out.2]; exact rfl, HB2.out⟩
  have hp : 0 < len := by omega
  have HE : Hid (outBestClue_0 (n : Int) cs = ((bestTo (oneN n cs) len).1 : Nat) ∧ outBestClue_1 (n : Int) cs = true) := Lib.hid (by
    have h : okBestClue (n : Int) cs = true := by unfold okBestClue; rw [hb, HZ.out, decide_eq_true hp]; rfl
    unfold outBestClue_0 outBestClue_1; rw [h, HZ.out]; exact ⟨rfl, rfl⟩)
  have hLn : (asInts ((List.range len).map (oneN n cs))).length = len := by simp [asInts]
  have HMI := Lib.hid (min_is (oneN n cs) len hp)
  have HSP := Lib.hid (best_spec (oneN n cs) (len - 1))
  rw [show len - 1 + 1 = len by omega] at HSP
  have HGD := Lib.hid (fun k (hk : k < len) => getD_ones (oneN n cs) len k hk)
  obtain ⟨L, hL⟩ : ∃ L, L = asInts ((List.range len).map (oneN n cs)) := ⟨_, rfl⟩
  obtain ⟨j, hj⟩ : ∃ j, j = (bestTo (oneN n cs) len).1 := ⟨_, rfl⟩
  obtain ⟨m, hm⟩ : ∃ m, m = (bestTo (oneN n cs) len).2 := ⟨_, rfl⟩
  rw [← hL] at HO hLn HMI HGD
  rw [← hj] at HE HSP
  rw [← hm] at HMI HSP
  have HLN := Lib.hid hLn
  have hq : ((len : Int) == 0) = false := by rw [beq_eq_false_iff_ne]; omega
  clear hb hc2 hc hcl hl6 hL hj hm hLn
  go_enter Try.func20, Try.ntmps20
  go_wp2_with fail
  go_at_call 31
  refine HO.out.mono ?_
  rintro e w2 ⟨v, rfl, o2, b2⟩
  have HB2 : Hid (Below w.heap.size w w2) := Lib.hid (HB.out.trans (b2.mono HB.out.size))
  obtain ⟨va, vc, rfl, hca, _⟩ := o2.cameC
  rw [HLN.out] at hca ⊢
  have HMN := Lib.hid (min_any w2 va len vc L hp (by omega) hca)
  rw [HMI.out] at HMN
  have HIX := Lib.hid (index_any w2 va len vc L (m : Int) j hl hca (by have := HSP.out.1; omega) (by rw [HGD.out j (by have := HSP.out.1; omega), HSP.out.2.1]) (fun i hi => by
    rw [HGD.out i (by have := HSP.out.1; omega)]; have := HSP.out.2.2.2 i hi; omega))
  clear b2 o2 hca
  go_wp2_with fail
  go_at_call 38
  refine HMN.out.mono ?_
  rintro e w' ⟨rfl, rfl⟩
  go_wp2_with fail
  go_at_call 37
  refine HIX.out.mono ?_
  rintro e w' ⟨rfl, rfl⟩
  go_wp2
  go_ret2
  exact ⟨by rw [HE.out.1, HE.out.2]; exact rfl, HB2.out⟩

end Go.Proofs.Ytodlpdbmiicdfab
