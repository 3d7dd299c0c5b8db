/- The walk of the law FnExactParsePuzzle (a puzzle as result), out of the contracts of its two functions. -/
import Derived.Test.YtodlpdbmiicdfabDoorKinds
import Derived.Test.YtodlpdbmiicdfabDoorRPuzzle
import Derived.Test.YtodlpdbmiicdfabDoorPzs
import Derived.Test.YtodlpdbmiicdfabDoorZz
namespace Go.Proofs.YtodlpdbmiicdfabDoor
open Go.ChangeShapes Go.WideShapes Go.ChangeAt Go.RowKit
open Pz

set_option maxHeartbeats 8000000 in
theorem lawParsePuzzle (w : World) (p0 : ByteArray) (r0 : Int) (r1 : List RClue) (r2 : Bool) (hl0 : p0.size ≤ 1048576) (ho : r1.length ≤ 1048576) (ht_libParse : Tab_libParse w)
    (hS : ∀ w : World, Calls Tryd.prog 10 #[.string p0] w fun e w' => ∃ v0, e = .returned (.tuple #[.agg #[.int .i64 r0, v0], .bool r2]) ∧ OwnClue w' w.heap.size v0 r1 ∧ Below w.heap.size w w')
    (hI : ∀ w : World, Tab_libParse w → Calls Tryd.prog 11 #[.string p0] w fun e w' => ∃ v0, e = .returned (.tuple #[.agg #[.int .i64 r0, v0], .bool r2]) ∧ OwnClue w' w.heap.size v0 r1 ∧ Below w.heap.size w w') :
    Calls Tryd.prog 4 #[.string p0] w fun e w' => e = .returned (.bool true) ∧ Below w.heap.size w w' := by
  have HS := Lib.hid hS
  have HI := Lib.hid hI
  obtain ⟨n0, hn0⟩ : ∃ n, n = r1.length := ⟨_, rfl⟩
  have HN0 := Lib.hid hn0
  have hm0 : n0 ≤ 1048576 := by omega
  clear hn0 hS hI
  have B0 : Hid (Below w.heap.size w w) := Lib.hid (Below.refl _ _)
  have HT := Lib.hid ht_libParse
  clear ht_libParse
  go_enter Tryd.func4, Tryd.ntmps4
  have CC := Lib.hid (HS.out w)
  go_wp2_with fail
  go_at_call 10
  refine CC.out.mono ?_
  rintro e w1 ⟨vv, rfl, o1, b1⟩
  have y1 := b1.size
  have B1 : Hid (Below w.heap.size w w1) := Lib.hid (B0.out.trans (b1.mono (by omega)))
  clear B0 CC
  have V_1 := Lib.hid (OwnIClue.of o1)
  obtain ⟨va, vc, ve⟩ := V_1.out.1.any
  rw [← HN0.out] at ve
  subst ve
  clear o1 b1
  have y2 : (w1.alloc (.cells #[.int .i64 r0, .slice va n0 vc] 30)).heap.size = w1.heap.size + 1 := rz_size1 _ _
  have V_2 := Lib.hid (V_1.out.below ((Below.refl w1.heap.size w1).alloc (Nat.le_refl _) (.cells #[.int .i64 r0, .slice va n0 vc] 30)) (by omega))
  have BV_2 : Hid (BoxZ (w1.alloc (.cells #[.int .i64 r0, .slice va n0 vc] 30)) w1.heap.size r0 (.slice va n0 vc)) := Lib.hid (BoxZ.new w1 _ _ _)
  have B2 : Hid (Below w.heap.size w (w1.alloc (.cells #[.int .i64 r0, .slice va n0 vc] 30))) := Lib.hid (B1.out.alloc (by have := B1.out.size; omega) _)
  clear V_1 B1
  have CC := Lib.hid (HI.out (w1.alloc (.cells #[.int .i64 r0, .slice va n0 vc] 30)) (HT.out.below B2.out))
  go_wp2_with fail
  go_at_call 11
  refine CC.out.mono ?_
  rintro e w3 ⟨gv, rfl, o3, b3⟩
  have y3 := b3.size
  have V_3 := Lib.hid (V_2.out.below b3 (by omega))
  have BV_3 := Lib.hid (BV_2.out.below b3 BV_2.out.lt)
  have B3 : Hid (Below w.heap.size w w3) := Lib.hid (B2.out.trans (b3.mono (by omega)))
  clear V_2 BV_2 B2 CC
  have G_3 := Lib.hid (OwnIClue.of o3)
  obtain ⟨ga, gc, ge⟩ := G_3.out.1.any
  rw [← HN0.out] at ge
  subst ge
  clear o3 b3
  have y4 : (w3.alloc (.cells #[.int .i64 r0, .slice ga n0 gc] 30)).heap.size = w3.heap.size + 1 := rz_size1 _ _
  have V_4 := Lib.hid (V_3.out.below ((Below.refl w3.heap.size w3).alloc (Nat.le_refl _) (.cells #[.int .i64 r0, .slice ga n0 gc] 30)) (by omega))
  have BV_4 := Lib.hid (BV_3.out.alloc (.cells #[.int .i64 r0, .slice ga n0 gc] 30))
  have G_4 := Lib.hid (G_3.out.below ((Below.refl w3.heap.size w3).alloc (Nat.le_refl _) (.cells #[.int .i64 r0, .slice ga n0 gc] 30)) (by omega))
  have BG_4 : Hid (BoxZ (w3.alloc (.cells #[.int .i64 r0, .slice ga n0 gc] 30)) w3.heap.size r0 (.slice ga n0 gc)) := Lib.hid (BoxZ.new w3 _ _ _)
  have B4 : Hid (Below w.heap.size w (w3.alloc (.cells #[.int .i64 r0, .slice ga n0 gc] 30))) := Lib.hid (B3.out.alloc (by have := B3.out.size; omega) _)
  clear V_3 BV_3 G_3 B3
  obtain ⟨kBG0, kBG1⟩ := BG_4.out
  obtain ⟨kBV0, kBV1⟩ := BV_4.out
  have EE := Lib.hid (eqPuzzle_two (w3.alloc (.cells #[.int .i64 r0, .slice ga n0 gc] 30)) _ _ _ _ _ _ r0 r1 (by omega) G_4.out V_4.out)
  go_wp2_with fail
  go_at_call 9
  refine EE.out.mono ?_
  rintro e w5 ⟨rfl, b5⟩
  have y5 := b5.size
  have V_5 := Lib.hid (V_4.out.below b5 (by omega))
  have BV_5 := Lib.hid (BV_4.out.below b5 BV_4.out.lt)
  have G_5 := Lib.hid (G_4.out.below b5 (by omega))
  have BG_5 := Lib.hid (BG_4.out.below b5 BG_4.out.lt)
  have B5 : Hid (Below w.heap.size w w5) := Lib.hid (B4.out.trans (b5.mono (by omega)))
  clear V_4 BV_4 G_4 BG_4 B4 EE kBG0 kBG1 kBV0 kBV1
  clear b5
  obtain ⟨kBG0, kBG1⟩ := BG_5.out
  have EE := Lib.hid (markPuzzle_in w5 _ _ _ r0 r1 (by omega) (by omega) G_5.out)
  go_wp2_with fail
  go_at_call 12
  refine EE.out.mono ?_
  rintro e w6 ⟨rfl, o6, b6⟩
  have y6 := b6.size
  have V_6 := Lib.hid (V_5.out.betw b6 (by omega) (by omega))
  have BV_6 := Lib.hid (BV_5.out.betw b6 (by omega))
  have BG_6 := Lib.hid (BG_5.out.betw b6 (by omega))
  have B6 : Hid (Below w.heap.size w w6) := Lib.hid (betw_below B5.out b6 (by omega))
  clear V_5 BV_5 G_5 BG_5 B5 EE kBG0 kBG1
  have G_6 := Lib.hid o6
  clear o6 b6
  rw [← HN0.out] at G_6 ⊢
  obtain ⟨kBG0, kBG1⟩ := BG_6.out
  have EE := Lib.hid (heldPuzzle_in w6 _ _ _ r0 n0 hm0 (by omega) G_6.out)
  go_wp2_with fail
  go_at_call 13
  refine EE.out.mono ?_
  rintro e w7 ⟨rfl, b7⟩
  have y7 := b7.size
  have V_7 := Lib.hid (V_6.out.below b7 (by omega))
  have BV_7 := Lib.hid (BV_6.out.below b7 BV_6.out.lt)
  have G_7 := Lib.hid (G_6.out.below b7 (by omega))
  have BG_7 := Lib.hid (BG_6.out.below b7 BG_6.out.lt)
  have B7 : Hid (Below w.heap.size w w7) := Lib.hid (B6.out.trans (b7.mono (by omega)))
  clear V_6 BV_6 G_6 BG_6 B6 EE kBG0 kBG1
  clear b7
  have CC := Lib.hid (HI.out w7 (HT.out.below B7.out))
  go_wp2_with fail
  go_at_call 11
  refine CC.out.mono ?_
  rintro e w8 ⟨hv, rfl, o8, b8⟩
  have y8 := b8.size
  have V_8 := Lib.hid (V_7.out.below b8 (by omega))
  have BV_8 := Lib.hid (BV_7.out.below b8 BV_7.out.lt)
  have G_8 := Lib.hid (G_7.out.below b8 (by omega))
  have BG_8 := Lib.hid (BG_7.out.below b8 BG_7.out.lt)
  have B8 : Hid (Below w.heap.size w w8) := Lib.hid (B7.out.trans (b8.mono (by omega)))
  clear V_7 BV_7 G_7 BG_7 B7 CC
  have H_8 := Lib.hid (OwnIClue.of o8)
  obtain ⟨ha, hc, he⟩ := H_8.out.1.any
  rw [← HN0.out] at he
  subst he
  clear o8 b8
  have y9 : (w8.alloc (.cells #[.int .i64 r0, .slice ha n0 hc] 30)).heap.size = w8.heap.size + 1 := rz_size1 _ _
  have V_9 := Lib.hid (V_8.out.below ((Below.refl w8.heap.size w8).alloc (Nat.le_refl _) (.cells #[.int .i64 r0, .slice ha n0 hc] 30)) (by omega))
  have BV_9 := Lib.hid (BV_8.out.alloc (.cells #[.int .i64 r0, .slice ha n0 hc] 30))
  have G_9 := Lib.hid (G_8.out.below ((Below.refl w8.heap.size w8).alloc (Nat.le_refl _) (.cells #[.int .i64 r0, .slice ha n0 hc] 30)) (by omega))
  have BG_9 := Lib.hid (BG_8.out.alloc (.cells #[.int .i64 r0, .slice ha n0 hc] 30))
  have H_9 := Lib.hid (H_8.out.below ((Below.refl w8.heap.size w8).alloc (Nat.le_refl _) (.cells #[.int .i64 r0, .slice ha n0 hc] 30)) (by omega))
  have BH_9 : Hid (BoxZ (w8.alloc (.cells #[.int .i64 r0, .slice ha n0 hc] 30)) w8.heap.size r0 (.slice ha n0 hc)) := Lib.hid (BoxZ.new w8 _ _ _)
  have B9 : Hid (Below w.heap.size w (w8.alloc (.cells #[.int .i64 r0, .slice ha n0 hc] 30))) := Lib.hid (B8.out.alloc (by have := B8.out.size; omega) _)
  clear V_8 BV_8 G_8 BG_8 H_8 B8
  obtain ⟨kBH0, kBH1⟩ := BH_9.out
  obtain ⟨kBV0, kBV1⟩ := BV_9.out
  have EE := Lib.hid (eqPuzzle_two (w8.alloc (.cells #[.int .i64 r0, .slice ha n0 hc] 30)) _ _ _ _ _ _ r0 r1 (by omega) H_9.out V_9.out)
  go_wp2_with fail
  go_at_call 9
  refine EE.out.mono ?_
  rintro e w10 ⟨rfl, b10⟩
  have y10 := b10.size
  have V_10 := Lib.hid (V_9.out.below b10 (by omega))
  have BV_10 := Lib.hid (BV_9.out.below b10 BV_9.out.lt)
  have G_10 := Lib.hid (G_9.out.below b10 (by omega))
  have BG_10 := Lib.hid (BG_9.out.below b10 BG_9.out.lt)
  have H_10 := Lib.hid (H_9.out.below b10 (by omega))
  have BH_10 := Lib.hid (BH_9.out.below b10 BH_9.out.lt)
  have B10 : Hid (Below w.heap.size w w10) := Lib.hid (B9.out.trans (b10.mono (by omega)))
  clear V_9 BV_9 G_9 BG_9 H_9 BH_9 B9 EE kBH0 kBH1 kBV0 kBV1
  clear b10
  clear H_10 BH_10
  obtain ⟨kBG0, kBG1⟩ := BG_10.out
  have EE := Lib.hid (heldPuzzle_in w10 _ _ _ r0 n0 hm0 (by omega) G_10.out)
  go_wp2_with fail
  go_at_call 13
  refine EE.out.mono ?_
  rintro e w11 ⟨rfl, b11⟩
  have y11 := b11.size
  have V_11 := Lib.hid (V_10.out.below b11 (by omega))
  have BV_11 := Lib.hid (BV_10.out.below b11 BV_10.out.lt)
  have G_11 := Lib.hid (G_10.out.below b11 (by omega))
  have BG_11 := Lib.hid (BG_10.out.below b11 BG_10.out.lt)
  have B11 : Hid (Below w.heap.size w w11) := Lib.hid (B10.out.trans (b11.mono (by omega)))
  clear V_10 BV_10 G_10 BG_10 B10 EE kBG0 kBG1
  clear b11
  go_wp2
  go_ret
  exact ⟨rfl, B11.out⟩

set_option maxHeartbeats 1000000 in
theorem walkFnExactParsePuzzle (p0 : ByteArray) (wf0 : p0.size ≤ maxLen) (w : World) (ht_libParse : Tab_libParse w) :
    Calls Tryd.prog 4 #[.string p0] w fun e w' => e = .returned (.bool true) ∧ Below w.heap.size w w' := by
  by_cases hl0 : p0.size ≤ 1048576
  case neg =>
    have b0 : decide ((1048576 : Int) < (p0.size : Nat)) = true := by simp; omega
    go_enter Tryd.func4, Tryd.ntmps4
    go_wp2
    go_ret
    exact ⟨rfl, Below.refl _ _⟩
  exact lawParsePuzzle w p0 (outParsePuzzle_0 p0) (outParsePuzzle_1 p0) (outParsePuzzle_2 p0) hl0 (lenParsePuzzle_1 p0 hl0) ht_libParse
    (fun w => specParsePuzzle_any w p0 wf0 hl0)
    (fun w ht => implParsePuzzle_any w p0 wf0 hl0 ht)

end Go.Proofs.YtodlpdbmiicdfabDoor
