/- Chapter 4, the program: AreMistakes. -/
import Derived.Test.YtjbomclildkjaaaDoorIk
import Derived.Test.YtjbomclildkjaaaDoorMj
import Derived.Test.YtjbomclildkjaaaDoorGo
namespace Go.Proofs.YtjbomclildkjaaaDoor
open Go.ChangeShapes Go.WideShapes Go.ChangeAt Go.RowKit
open Dr

theorem CameMistake.takeZ {w : World} {a : Option Addr} {len : Nat} {ps : List RMistake} (h : CameMistake w a len ps) (k : Nat) (hk : k ≤ len) : CameMistake w a k (ps.take k) := by
  refine ⟨by rw [List.length_take]; have := h.1; omega, fun hp => ?_⟩
  obtain ⟨b, off, ha, hc⟩ := h.2 (by omega)
  refine ⟨b, off, ha, fun j hj => ?_⟩
  rw [show (ps.take k).getD j zMistake = ps.getD j zMistake from by simp [List.getD_eq_getElem?_getD, hj]]
  exact hc j (by omega)
theorem toldB_take (ps : List RMistake) (p : RMistake) (k : Nat) : toldB (ps.take k) p k = toldB ps p k := by
  unfold toldB
  rw [Bool.eq_iff_iff, List.any_eq_true, List.any_eq_true]
  constructor
  · rintro ⟨j, hj, h⟩
    have hj2 := List.mem_range.1 hj
    refine ⟨j, hj, ?_⟩
    rw [show (ps.take k).getD j zMistake = ps.getD j zMistake from by simp [List.getD_eq_getElem?_getD, hj2]] at h
    exact h
  · rintro ⟨j, hj, h⟩
    have hj2 := List.mem_range.1 hj
    refine ⟨j, hj, ?_⟩
    rw [show (ps.take k).getD j zMistake = ps.getD j zMistake from by simp [List.getD_eq_getElem?_getD, hj2]]
    exact h
/-- what holds at the label -/
def AmJ (w0 : World) (n : Int) (s : ByteArray) (a : Option Addr) (len cap : Nat) (ps : List RMistake) (a' : Act) (w' : World) : Prop :=
  ∃ (k : Nat) (u24 u25 u26 u27 u28 u29 u30 u31 u32 u33 u34 u35 u36 u37 u38 u39 u40 u41 u42 u43 u44 u45 u46 u47 : Value), k ≤ len ∧ a' = { tmps := List.toArray (Value.int .i64 n :: Value.string s :: Value.slice a len cap :: undef :: undef :: undef :: Value.bool false :: Value.int .i64 (k : Int) :: Value.int .i64 n :: Value.bool false :: Value.bool false :: Value.int .i64 n :: Value.bool false :: Value.bool false :: Value.bool false :: Value.string s :: Value.bool true :: Value.bool false :: Value.bool false :: Value.bool false :: Value.slice a len cap :: Value.int .i64 (len : Int) :: Value.bool false :: Value.bool false :: u24 :: u25 :: u26 :: u27 :: u28 :: u29 :: u30 :: u31 :: u32 :: u33 :: u34 :: u35 :: u36 :: u37 :: u38 :: u39 :: u40 :: u41 :: u42 :: u43 :: u44 :: u45 :: u46 :: u47 :: []), defers := [] } ∧ Hid (∀ j, j < k → okR n s ps j = true) ∧ Hid (Below w0.heap.size w0 w')
set_option maxRecDepth 20000 in
set_option maxHeartbeats 1000000 in
theorem implAreMistakes_any (w : World) (n : Int) (s : ByteArray) (a : Option Addr) (len cap : Nat) (ps : List RMistake) (_wn : (Lit.int .i64 n).wf = true) (_ws : s.size ≤ maxLen) (hs : s.size ≤ 1048576) (hl : len ≤ 1048576) (hc : CameMistake w a len ps) (hcp : len ≤ cap ∧ cap ≤ 9223372036854775807) (hT : Tab_signOfTurn w) :
    Calls Tryd.prog 46 #[.int .i64 n, .string s, .slice a len cap] w fun e w' => e = .returned (.bool (outAreMistakes_0 n s ps)) ∧ Below w.heap.size w w' := by
  have HW := Lib.hid (implAreCommands_any w s _ws hs hT)
  have HZ : Hid (ps.length = len) := Lib.hid hc.1
  have HC := Lib.hid hc
  have HT := Lib.hid (fun w2 (hb : Below w.heap.size w w2) => hT.below hb)
  obtain ⟨hcp, hcm⟩ := hcp
  clear hc hT _wn _ws
  by_cases h1 : n < 1
  · have HE : Hid (outAreMistakes_0 n s ps = false) := Lib.hid (by unfold outAreMistakes_0 mistB; rw [inB_no (by omega)]; rfl)
    go_enter Tryd.func46, Tryd.ntmps46
    go_wp2
    go_step3
    go_wp2
    simp only [Exit.noGoto]
    go_ret
    exact ⟨ret_bool (by rw [HE.out]), Below.refl _ _⟩
  · by_cases h2 : 30 < n
    · have HE : Hid (outAreMistakes_0 n s ps = false) := Lib.hid (by unfold outAreMistakes_0 mistB; rw [inB_no (by omega)]; rfl)
      go_enter Tryd.func46, Tryd.ntmps46
      go_wp2
      go_step3
      go_wp2
      simp only [Exit.noGoto]
      go_ret
      exact ⟨ret_bool (by rw [HE.out]), Below.refl _ _⟩
    · rcases hb2 : wordB s with _ | _
      · have HE : Hid (outAreMistakes_0 n s ps = false) := Lib.hid (by unfold outAreMistakes_0 mistB; rw [hb2, Bool.false_and, Bool.and_false])
        rw [show outAreCommands_0 s = false from hb2] at HW
        clear hb2
        go_enter Tryd.func46, Tryd.ntmps46
        go_wp2
        go_step3
        go_wp2_with (go_at_call 21; refine HW.out.mono ?_; rintro e w1 ⟨rfl, b1⟩)
        simp only [Exit.noGoto]
        go_ret
        exact ⟨ret_bool (by rw [HE.out]), b1⟩
      · by_cases h20 : len ≤ 20
        · have HY : Hid ((∀ k, k < ps.length → okR n s ps k = true) → mistB n s ps = true) := Lib.hid (mist_yes (inB_of (by omega)) hb2 (by have := HZ.out; omega))
          have hs60 : s.size ≤ 60 := by
            unfold wordB at hb2
            rw [Bool.and_eq_true] at hb2
            exact of_decide_eq_true hb2.1
          rw [show outAreCommands_0 s = true from hb2] at HW
          have d1 : decide (n < 1) = false := decide_eq_false h1
          have d2 : decide (30 < n) = false := decide_eq_false h2
          have d3 : decide (20 < (len : Int)) = false := decide_eq_false (by omega)
          clear hb2 h1 h2
          go_enter Tryd.func46, Tryd.ntmps46
          go_wp2
          refine wp_scope_pass 0 (AmJ w n s a len cap ps) (fun a' _ => len + 1 - (intOf (a'.tmps.getD 7 undef)).toNat) rfl ?_ ?_
          · rintro a' wr ⟨k, u24, u25, u26, u27, u28, u29, u30, u31, u32, u33, u34, u35, u36, u37, u38, u39, u40, u41, u42, u43, u44, u45, u46, u47, hk, rfl, HK, HB⟩
            by_cases hlt : k < len
            · have bk : ((k : Int) == (len : Int)) = false := by rw [beq_eq_false_iff_ne]; omega
              obtain ⟨b, off, rfl, hcell⟩ := (HC.out.below HB.out).2 (by omega)
              obtain ⟨e0, e1, e2, hsm⟩ := hcell k hlt
              have HOK := Lib.hid (okR_isM n s ps k)
              rw [toldB_not] at HOK
              have HNO : Hid (okR n s ps k = false → mistB n s ps = false) := Lib.hid (mist_no (by rw [HZ.out]; exact hlt))
              have HTO := Lib.hid (fun w2 (hb : Below wr.heap.size wr w2) => isToldBy_any w2 (some ⟨b, off, none⟩) k cap (ps.take k) (by omega) (((HC.out.below HB.out).below hb).takeZ k (by omega)) (ps.getD k zMistake).1 (ps.getD k zMistake).2.1 (ps.getD k zMistake).2.2)
              have HIS := Lib.hid (fun w2 (hb : Below wr.heap.size wr w2) => isMistake_any w2 n s (ps.getD k zMistake).1 (ps.getD k zMistake).2.1 (ps.getD k zMistake).2.2 hs60 hsm (HT.out w2 (HB.out.trans (hb.mono HB.out.size))))
              rw [show ((ps.getD k zMistake).1, (ps.getD k zMistake).2.1, (ps.getD k zMistake).2.2) = ps.getD k zMistake from rfl] at HTO HIS
              rw [toldB_take] at HTO
              obtain ⟨bt, hbt⟩ : ∃ b, b = toldB ps (ps.getD k zMistake) k := ⟨_, rfl⟩
              obtain ⟨bm, hbm⟩ : ∃ b, b = isM n s (ps.getD k zMistake) := ⟨_, rfl⟩
              rw [← hbt] at HTO HOK
              rw [← hbm] at HIS HOK
              obtain ⟨p, hp⟩ : ∃ p, p = ps.getD k zMistake := ⟨_, rfl⟩
              rw [← hp] at e0 e1 e2 HTO HIS
              obtain ⟨x0, x1, x2⟩ := p
              simp only at e0 e1 e2 HTO HIS
              have k0 := fun X : Lw wr => X.cell e0
              have k1 := fun X : Lw wr => X.cell e1
              have k2 := fun X : Lw wr => X.cell e2
              have i1 : (0 : Int) ≤ (k : Int) := by omega
              have i2 : (k : Int) < (len : Int) := by omega
              have i3 : (k : Int) ≤ (cap : Int) := by omega
              clear hcell hp hbt hbm hsm e0 e1 e2
              rcases bm with _ | _
              · have HE := Lib.hid (HNO.out (by rw [HOK.out]; rfl))
                clear HNO HOK
                go_wp2_with fail
                refine wp_region_lw (by kernel_rfl) (by kernel_rfl) ?_
                repeat (go_big_quiet_step ((go_at_call 80; exact lw_call (fun w2 hb => HIS.out w2 hb) _)))
                refine wpQuiet_nil ?_
                rintro w' ⟨X, rfl⟩
                go_wp2
                simp only [Exit.jump]
                go_ret
                exact ⟨ret_bool (by show false = outAreMistakes_0 n s ps; exact HE.out.symm), HB.out.trans (X.b.mono HB.out.size)⟩
              · rcases bt with _ | _
                · have HK2 : Hid (∀ j, j < k + 1 → okR n s ps j = true) := Lib.hid (fun j hj => by
                    by_cases e : j = k
                    · subst e; rw [HOK.out]; rfl
                    · exact HK.out j (by omega))
                  clear HNO HOK
                  go_wp2_with fail
                  refine wp_region_lw (by kernel_rfl) (by kernel_rfl) ?_
                  repeat (go_big_quiet_step (first | (go_at_call 80; exact lw_call (fun w2 hb => HIS.out w2 hb) _) | (go_at_call 81; exact lw_call (fun w2 hb => HTO.out w2 hb) _)))
                  refine wpQuiet_nil ?_
                  rintro w' ⟨X, rfl⟩
                  go_wp2
                  go_step3
                  exact ⟨rfl, ⟨k + 1, _, _, _, _, _, _, _, _, _, _, _, _, _, _, _, _, _, _, _, _, _, _, _, _, by omega, rfl, HK2, Lib.hid (HB.out.trans (X.b.mono HB.out.size))⟩, by simp [intOf]; omega⟩
                · have HE := Lib.hid (HNO.out (by rw [HOK.out]; rfl))
                  clear HNO HOK
                  go_wp2_with fail
                  refine wp_region_lw (by kernel_rfl) (by kernel_rfl) ?_
                  repeat (go_big_quiet_step (first | (go_at_call 80; exact lw_call (fun w2 hb => HIS.out w2 hb) _) | (go_at_call 81; exact lw_call (fun w2 hb => HTO.out w2 hb) _)))
                  refine wpQuiet_nil ?_
                  rintro w' ⟨X, rfl⟩
                  go_wp2
                  simp only [Exit.jump]
                  go_ret
                  exact ⟨ret_bool (by show false = outAreMistakes_0 n s ps; exact HE.out.symm), HB.out.trans (X.b.mono HB.out.size)⟩
            · obtain rfl : k = len := by omega
              have HE : Hid (outAreMistakes_0 n s ps = true) := Lib.hid (HY.out (fun j hj => HK.out j (by rw [HZ.out] at hj; exact hj)))
              have bk : ((k : Int) == (k : Int)) = true := by simp
              go_wp2
              simp only [Exit.jump]
              go_ret
              exact ⟨ret_bool (by rw [HE.out]), HB.out⟩
          · intro H
            go_wp2_with (go_at_call 21; refine HW.out.mono ?_; rintro e w1 ⟨rfl, b1⟩)
            go_step3
            simp only [Exit.then]
            rename_i K hK
            refine hK _ _ (H _ _ ?_)
            exact ⟨0, _, _, _, _, _, _, _, _, _, _, _, _, _, _, _, _, _, _, _, _, _, _, _, _, Nat.zero_le _, rfl, Lib.hid (fun j h => absurd h (Nat.not_lt_zero _)), Lib.hid b1⟩
        · have HE : Hid (outAreMistakes_0 n s ps = false) := Lib.hid (by unfold outAreMistakes_0 mistB; rw [decide_eq_false (by have := HZ.out; omega : ¬ ps.length ≤ 20), Bool.false_and, Bool.and_false, Bool.and_false])
          rw [show outAreCommands_0 s = true from hb2] at HW
          have h20b : 20 < (len : Int) := by omega
          clear hb2
          go_enter Tryd.func46, Tryd.ntmps46
          go_wp2
          go_step3
          go_wp2_with (go_at_call 21; refine HW.out.mono ?_; rintro e w1 ⟨rfl, b1⟩)
          simp only [Exit.noGoto]
          go_ret
          exact ⟨ret_bool (by rw [HE.out]), b1⟩

end Go.Proofs.YtjbomclildkjaaaDoor
