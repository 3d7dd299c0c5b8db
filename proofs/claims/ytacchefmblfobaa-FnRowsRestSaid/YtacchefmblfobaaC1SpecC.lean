
/- The model's CountTurns and TurnsOfEach. -/
import Derived.Test.YtacchefmblfobaaC1Spec
import Derived.Test.YtacchefmblfobaaC1Slices
import Derived.Test.YtacchefmblfobaaC1Rested
namespace Go.Proofs.Ytacchefmblfobaa.C1
open Go.ChangeShapes Go.WideShapes Go.ChangeAt Go.RowKit

theorem ret_ib_SpecC {a b : Int} {x : Bool} (h : a = b) : Ending.returned (.tuple #[.int .i64 a, .bool x]) = .returned (.tuple #[.int .i64 b, .bool x]) := by rw [h]

set_option maxRecDepth 20000 in
set_option maxHeartbeats 2000000 in
theorem specCountTurns_yes (l : List Bool) (h1 : 1 ≤ l.length) (h2 : l.length ≤ 60) (w : World) :
    Calls Try.prog 14 #[.string (Rw.str l)] w fun e w' => e = .returned (.tuple #[.int .i64 (Rw.countOf l : Nat), .bool true]) ∧ Below w.heap.size w w' := by
  have hgood := goodB_str h1 h2
  have hml : (Rw.str l).size ≤ maxLen := by rw [Rw.size_str]; unfold maxLen; omega
  have hmw := Rw.mw_row l h2
  have hcb := Rw.countOf_le l
  obtain ⟨T, hTT⟩ : ∃ T, T = Rw.countOf l := ⟨_, rfl⟩
  rw [← hTT] at hcb ⊢
  have HTT := Lib.hid hTT
  obtain ⟨s, hs⟩ : ∃ s, s = Rw.str l := ⟨_, rfl⟩
  rw [← hs] at hgood hml ⊢
  have HS := Lib.hid hs
  have hT3 : T ≤ 3600 := by omega
  clear hTT hs hmw hcb
  go_enter Try.func14, Try.ntmps14
  go_wp2_with (go_at_call 65; refine (rwGood_any _ _ hml).mono ?_; rintro e w' ⟨rfl, rfl⟩)
  go_loopw [0, 4] (fun r t wr => ∃ (k : Nat) (mj : List Bool), k ≤ T ∧ t = .int .i64 (k : Nat) ∧ r = .string (Rw.str mj) ∧ k + Rw.countOf mj = T ∧ mj.length = l.length ∧ Below w.heap.size w wr) (fun _ t _ => T - (intOf t).toNat)
  case atStart => exact ⟨0, l, Nat.zero_le _, rfl, by rw [HS.out], by rw [HTT.out]; omega, rfl, Below.refl _ _⟩
  case round =>
    obtain ⟨k, mj, hk, rfl, rfl, hW, hwl, hB⟩ := hrel
    have HC := Lib.hid (fun w2 => rwPairs_any mj (by omega) (by omega) w2)
    have HU := Lib.hid (fun w2 => rwTick_any mj (by omega) (by omega) w2)
    obtain ⟨sj, hsj⟩ : ∃ sj, sj = Rw.str mj := ⟨_, rfl⟩
    rw [← hsj] at HC HU ⊢
    have HB := Lib.hid hB
    have hws := hB.size
    by_cases hp : Rw.pairs mj = []
    · rw [countOf_nil hp] at hW
      have hl0 : (Rw.pairs mj).length = 0 := by rw [hp]; rfl
      rw [hl0, hp] at HC
      have hkT : Hid ((k : Int) = (T : Int)) := Lib.hid (by omega)
      clear hp hW hB hwl hsj hl0
      go_wp2_with fail
      go_at_call 70
      refine (HC.out _).mono ?_
      rintro e w2 ⟨v, rfl, hown, hbel⟩
      have H2 : Hid (Below w.heap.size w w2) := HB.out.trans (hbel.mono hws)
      rcases own_shape hown with ⟨rfl, _⟩ | ⟨gv, cap, rfl, _⟩
      all_goals
        clear hown hbel
        go_wp2
        go_ret2
        exact ⟨ret_ib_SpecC hkT.out, H2.out⟩
    · rw [countOf_cons hp] at hW
      have hpos : 0 < (Rw.pairs mj).length := List.length_pos_iff.2 hp
      obtain ⟨P, hP⟩ : ∃ P, P = (Rw.pairs mj).length := ⟨_, rfl⟩
      rw [← hP] at HC hW hpos
      have HW := Lib.hid hW
      have hkP : k + P ≤ T := by omega
      have HL := Lib.hid hwl
      clear hp hW hB hwl hsj hP
      go_wp2_with fail
      go_at_call 70
      refine (HC.out _).mono ?_
      rintro e w2 ⟨v, rfl, hown, hbel⟩
      have hb2 := hbel.size
      have H2 : Hid (Below w.heap.size w w2) := HB.out.trans (hbel.mono hws)
      rcases own_shape hown with ⟨rfl, h0⟩ | ⟨gv, cap, rfl, _⟩
      · omega
      · clear hown hbel
        go_wp2_with fail
        go_at_call 70
        refine (HC.out _).mono ?_
        rintro e w3 ⟨v, rfl, hown, hbel⟩
        have hb3 := hbel.size
        have H3 : Hid (Below w.heap.size w w3) := H2.out.trans (hbel.mono (by omega))
        rcases own_shape hown with ⟨rfl, h0⟩ | ⟨gv2, cap2, rfl, _⟩
        · omega
        · clear hown hbel
          go_wp2_with fail
          go_at_call 71
          refine (HU.out _).mono ?_
          rintro e w4 ⟨rfl, hb4⟩
          have H4 : Hid (Below w.heap.size w w4) := H3.out.trans (hb4.mono (by omega))
          clear hb4
          go_wp2
          go_roundw
          case rel => exact ⟨k + P, _, by omega, by go_num, rfl, by have := HW.out; omega, by rw [Rw.length_tick]; exact HL.out, H4.out⟩
          case measure => simp [intOf]; omega

/-- what is left to turn of a row's text -/
def mOf : Value → Nat | .string s => Rw.mw 0 (s.data.toList.map (· == 62)) | _ => 0
theorem mOf_str (m : List Bool) : mOf (.string (Rw.str m)) = Rw.mw 0 m := by
  have e : (Rw.str m).data.toList.map (· == 62) = m := by
    simp only [Rw.str, Rw.txt, List.map_map]
    have : ((fun x : UInt8 => x == 62) ∘ Rw.sgn) = id := by funext b; cases b <;> rfl
    rw [this, List.map_id]
  show Rw.mw 0 ((Rw.str m).data.toList.map (· == 62)) = _
  rw [e]
theorem asInts_inc (c : List Nat) (p : Nat) : (asInts c).set p ((c.getD p 0 : Nat) + 1 : Int) = asInts (Rw.inc c p) := by
  unfold asInts Rw.inc
  rw [List.map_set]
  congr 1
theorem asInts_bump (c : List Nat) (p : Nat) : ((asInts c).set p (((c.getD p 0 : Nat) : Int) + 1)).set (p + 1) (((c.getD (p + 1) 0 : Nat) : Int) + 1) = asInts (Rw.bump c p) := by
  unfold Rw.bump
  rw [asInts_inc, ← asInts_inc (Rw.inc c p)]
  congr 3
  unfold Rw.inc
  rw [Rw.getD_set, if_neg (by omega)]
theorem made_zero {w w1 : World} {B n : Nat} (h : w1.ownsRow B 3 1 (.slice (some ⟨w.heap.size, 0, none⟩) n n) n (madeCells #[.int .i64 0] (n * 1)).toList) :
    Own w1 B (.slice (some ⟨w.heap.size, 0, none⟩) n n) (asInts (List.replicate n 0)) := by
  unfold Own asInts
  rw [List.length_map, List.length_replicate]
  rw [Nat.mul_one, toList_madeCells_one] at h
  rw [List.map_replicate, List.map_replicate]; exact h

set_option maxRecDepth 20000 in
set_option maxHeartbeats 4000000 in
theorem specTurnsOfEach_yes (l : List Bool) (h1 : 1 ≤ l.length) (h2 : l.length ≤ 60) (w : World) :
    Calls Try.prog 16 #[.string (Rw.str l)] w fun e w' => ∃ v, e = .returned (.tuple #[v, .bool true]) ∧ Own w' w.heap.size v (asInts (Rw.turnsOf l (List.replicate l.length 0))) ∧ Below w.heap.size w w' := by
  obtain ⟨i0, hi, hz0, hz1, hz2⟩ := info_parts Try.info_int
  have hgood := goodB_str h1 h2
  have hsz := Rw.size_str l
  have hmw := Rw.mw_row l h2
  have hcb := Rw.countOf_le l
  obtain ⟨s, hs⟩ : ∃ s, s = Rw.str l := ⟨_, rfl⟩
  rw [← hs] at hgood hsz ⊢
  have hml : s.size ≤ maxLen := by unfold maxLen; omega
  have HS := Lib.hid hs
  have HZ := Lib.hid hsz
  have HCB : Hid (Rw.countOf l ≤ 3600) := Lib.hid (by omega)
  have hs1 : 1 ≤ s.size := by omega
  have hs60 : s.size ≤ 60 := by omega
  obtain ⟨n, hn⟩ : ∃ n, n = s.size := ⟨_, rfl⟩
  have HNS := Lib.hid hn
  have hn60 : n ≤ 60 := by omega
  clear hs hsz hmw hcb hn
  go_enter Try.func16, Try.ntmps16
  go_wp2_with (first | (go_at_call 65; refine (rwGood_any _ _ hml).mono ?_; rintro e w' ⟨rfl, rfl⟩) | (at_make; refine wpList_make_full _ rfl _ _ 29 rfl w.heap.size 3 i0 (.int .i64 0) 1 Try.underlying29 hi hz0 hz1 .i64 .i64 _ _ s.size rfl rfl rfl rfl (by rw [hz2]; omega) (by unfold maxLen; omega) (Nat.le_refl _) ?_; intro w1 hown hgrow))
  have hO := made_zero hown
  have hb0 := below_made hgrow
  have hgs : w.heap.size < w1.heap.size := (World.ownsRow.lt hO _ rfl).2
  rw [← HNS.out] at hO ⊢
  clear hown hgrow
  go_loopw [0] (fun r wr => ∃ (k : Nat) (mj : List Bool) (cj : List Nat), r = .string (Rw.str mj) ∧ Way l (List.replicate l.length 0) k mj cj ∧ Own wr w.heap.size (.slice (some ⟨w.heap.size, 0, none⟩) n n) (asInts cj) ∧ w1.heap.size ≤ wr.heap.size ∧ Below w.heap.size w wr) (fun r _ => mOf r)
  case atStart => exact ⟨0, l, _, by rw [HS.out], Way.start l _, by rw [← HZ.out, ← HNS.out]; exact hO, Nat.le_refl _, hb0⟩
  case round =>
    obtain ⟨k, mj, cj, rfl, hW, ho, hsz1, hB⟩ := hrel
    have hwl := hW.2.2.2.1
    have hcl : cj.length = l.length := by have := hW.2.2.2.2.1; simpa using this
    have hcs : cj.sum ≤ 7200 := by have := hW.2.2.2.2.2; have := HCB.out; simp only [List.sum_replicate_nat, Nat.mul_zero, Nat.zero_add] at *; omega
    have hlz := HZ.out
    have hnz := HNS.out
    have HC := Lib.hid (fun w2 => rwPairs_any mj (by omega) (by omega) w2)
    have HU := Lib.hid (fun w2 => rwTick_any mj (by omega) (by omega) w2)
    obtain ⟨sj, hsj⟩ : ∃ sj, sj = Rw.str mj := ⟨_, rfl⟩
    rw [← hsj] at HC HU ⊢
    have HSJ := Lib.hid hsj
    have HB := Lib.hid hB
    have HO := Lib.hid ho
    have hws := hB.size
    by_cases hp : Rw.pairs mj = []
    · have HD := Lib.hid (hW.done hp)
      have hl0 : (Rw.pairs mj).length = 0 := by rw [hp]; rfl
      rw [hl0, hp] at HC
      clear hp hW hB hwl hsj hl0 ho hO hb0 hlz hnz
      go_wp2_with fail
      go_at_call 70
      refine (HC.out _).mono ?_
      rintro e w2 ⟨v, rfl, hown, hbel⟩
      have H2 : Hid (Below w.heap.size w w2) := HB.out.trans (hbel.mono hws)
      have H3 : Hid (Own w2 w.heap.size (.slice (some ⟨w.heap.size, 0, none⟩) n n) (asInts (Rw.turnsOf l (List.replicate l.length 0)))) := by
        have := HO.out.below hbel (Nat.le_refl _)
        rw [HD.out.2.2] at this; exact this
      rcases own_shape hown with ⟨rfl, _⟩ | ⟨gv, cap, rfl, _⟩
      all_goals
        clear hown hbel
        go_wp2
        go_ret2
        exact ⟨_, rfl, H3.out, H2.out⟩
    · have hpos : 0 < (Rw.pairs mj).length := List.length_pos_iff.2 hp
      have hplen : (Rw.pairs mj).length ≤ 60 := by have := Rw.pairsTo_le mj (mj.length - 1); unfold Rw.pairs; omega
      have HX := Lib.hid (hW.next (by simp) hp)
      have hmd : Hid (Rw.mw 0 (Rw.tick mj) < Rw.mw 0 mj) := Rw.tick_lt mj hp
      obtain ⟨P, hP⟩ : ∃ P, P = (Rw.pairs mj).length := ⟨_, rfl⟩
      rw [← hP] at HC hpos hplen
      have HP := Lib.hid hP
      have HWL : Hid (mj.length = n) := Lib.hid (by omega)
      have HCL : Hid (cj.length = n) := Lib.hid (by omega)
      clear hp hW hB hwl hsj hP ho hO hb0 hlz hnz hcl
      go_wp2_with fail
      go_at_call 70
      refine (HC.out _).mono ?_
      rintro e w2 ⟨v, rfl, hown, hbel⟩
      have hb2 := hbel.size
      have H2 : Hid (Below w.heap.size w w2) := HB.out.trans (hbel.mono hws)
      have HO2 := Lib.hid (HO.out.below hbel (Nat.le_refl _))
      rcases own_shape hown with ⟨rfl, h0⟩ | ⟨gv, cap, rfl, _⟩
      · omega
      · clear hown hbel
        go_wp2_with fail
        go_at_call 70
        refine (HC.out _).mono ?_
        rintro e w3 ⟨v, rfl, hown, hbel⟩
        have hb3 := hbel.size
        have H3 : Hid (Below w.heap.size w w3) := H2.out.trans (hbel.mono (by omega))
        have HO3 := Lib.hid (HO2.out.below hbel (Nat.le_refl _))
        have HPO := Lib.hid hown
        rcases own_shape hown with ⟨rfl, h0⟩ | ⟨gv2, cap2, rfl, hgv2⟩
        · omega
        · clear hown hbel
          have hg23 : w.heap.size < w2.heap.size := by omega
          go_wp2
          go_loopw [20] (fun i wr => ∃ j : Nat, j ≤ P ∧ i = .int .i64 (j : Int) ∧ Own wr w.heap.size (.slice (some ⟨w.heap.size, 0, none⟩) n n) (asInts (counted mj cj j)) ∧ w3.grownBy wr (some w.heap.size)) (fun i _ => P - (intOf i).toNat)
          case atStart => exact ⟨0, Nat.zero_le _, rfl, HO3.out, World.grownBy.refl _ _⟩
          case round =>
            obtain ⟨j, hj, rfl, hoq, hG⟩ := hrel
            have hlc := length_counted mj cj j
            have hclen := HCL.out
            have hal := asInts_len (counted mj cj j)
            by_cases hlt : j < P
            · have hPq : wr.ownsRow w2.heap.size 3 1 (.slice (some ⟨gv2, 0, none⟩) P cap2) P (ints (Rw.pairs mj)) := HPO.out.kept hG (.inr (by simp [Value.ownBlock]; omega))
              have hjl : j < (Rw.pairs mj).length := by have := HP.out; omega
              have hcell := own_cell' hPq HP.out j hjl
              obtain ⟨p, hp⟩ : ∃ p, p = (Rw.pairs mj)[j] := ⟨_, rfl⟩
              have hmem := Rw.mem_pairs (List.getElem_mem hjl)
              have HBm := Lib.hid (counted_succ mj cj j hjl)
              rw [← hp] at hcell hmem HBm
              have hpn : p + 1 < n := by have := HWL.out; omega
              have hcount := sum_counted mj cj (by have := HWL.out; omega) j
              obtain ⟨cc, hcc⟩ : ∃ cc, cc = counted mj cj j := ⟨_, rfl⟩
              rw [← hcc] at hoq hlc hal HBm hcount
              have e1 := hoq.cell (by omega) p (by omega)
              have e2 := hoq.cell (by omega) (p + 1) (by omega)
              have f1 := hoq.free (by omega) p
              have f2 := hoq.free (by omega) (p + 1)
              rw [getD_asInts] at e1 e2
              have hx1 := Rw.getD_le_sum cc p
              have hx2 := Rw.getD_le_sum cc (p + 1)
              have HAB := Lib.hid (asInts_bump cc p)
              obtain ⟨x, hxx⟩ : ∃ x, x = cc.getD p 0 := ⟨_, rfl⟩
              obtain ⟨y, hyy⟩ : ∃ y, y = cc.getD (p + 1) 0 := ⟨_, rfl⟩
              rw [← hxx] at e1 hx1 HAB
              rw [← hyy] at e2 hx2 HAB
              have hxb : x ≤ 10000 := by omega
              have hyb : y ≤ 10000 := by omega
              have HOQ : Hid (Own ((wr.setCell ⟨w.heap.size, p, none⟩ (.int .i64 ((x : Int) + 1))).setCell ⟨w.heap.size, p + 1, none⟩ (.int .i64 ((y : Int) + 1))) w.heap.size (.slice (some ⟨w.heap.size, 0, none⟩) n n) (asInts (counted mj cj (j + 1)))) := by
                rw [HBm.out, ← HAB.out]
                exact (hoq.set (by omega) p _).set (by rw [List.length_set]; omega) (p + 1) _
              have HGQ : Hid (w3.grownBy ((wr.setCell ⟨w.heap.size, p, none⟩ (.int .i64 ((x : Int) + 1))).setCell ⟨w.heap.size, p + 1, none⟩ (.int .i64 ((y : Int) + 1))) (some w.heap.size)) := grownBy_trans hG (grownBy_trans (set_grown _ _ _ _) (set_grown _ _ _ _))
              clear hxx hyy hcc hp hmem hcount hoq hlc hal hPq hG hclen hx1 hx2
              go_wp2
              go_roundw
              case rel => exact ⟨j + 1, by omega, by go_num, HOQ.out, HGQ.out⟩
              case measure => simp [intOf]; omega
            · have hjk : j = (Rw.pairs mj).length := by have := HP.out; omega
              rw [counted_all mj cj j hjk] at hoq
              have HOQ := Lib.hid hoq
              have HBQ : Hid (Below w.heap.size w wr) := H3.out.grown hG (by omega) (fun k hk => by cases hk; exact Nat.le_refl _)
              have hqz := hG.size
              clear hjk hoq hG hlc hal hclen
              go_wp2_with fail
              go_at_call 71
              refine (HU.out _).mono ?_
              rintro e w4 ⟨rfl, hb4⟩
              have h4z := hb4.size
              have HO4 := Lib.hid (HOQ.out.below hb4 (Nat.le_refl _))
              have HB4 : Hid (Below w.heap.size w w4) := HBQ.out.trans (hb4.mono (by omega))
              clear hb4
              go_wp2
              go_roundw
              case rel => exact ⟨k + 1, _, _, rfl, HX.out, HO4.out, by omega, HB4.out⟩
              case measure => rw [HSJ.out, mOf_str, mOf_str]; exact hmd.out

end Go.Proofs.Ytacchefmblfobaa.C1
