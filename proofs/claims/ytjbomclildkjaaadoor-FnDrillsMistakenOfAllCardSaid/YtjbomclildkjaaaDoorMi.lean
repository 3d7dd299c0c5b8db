/- Chapter 4: the model's mistakes: drMistakes, AreMistakes. -/
import Derived.Test.YtjbomclildkjaaaDoorDrA
import Derived.Test.YtjbomclildkjaaaDoorRMistake
import Derived.Test.YtjbomclildkjaaaDoorIn
import Derived.Test.YtjbomclildkjaaaDoorDrew
import Derived.BigQuiet
namespace Go.Proofs.YtjbomclildkjaaaDoor
open Go.ChangeShapes Go.WideShapes Go.ChangeAt Go.RowKit
open Dr

namespace Dr
/-- the byte at a place -/
def byt (s : ByteArray) (k : Nat) : Int := ((s.data.toList.getD k 0).toNat : Int)
theorem byt_get (s : ByteArray) (k : Nat) (h : k < s.size) : byt s k = ((s[k]).toNat : Int) := by
  unfold byt
  have e : s.data.toList.getD k 0 = s[k] := by
    rw [List.getD_eq_getElem?_getD, List.getElem?_eq_getElem (by rw [Array.length_toList]; exact h), Option.getD_some, Array.getElem_toList]
    rfl
  rw [e]
def sameR (p q : RMistake) : Bool := decide (p.1 = q.1 ∧ p.2.1 = q.2.1)
/-- the k-th one is a mistake, and another one than those before -/
def okR (n : Int) (s : ByteArray) (ps : List RMistake) (k : Nat) : Bool :=
  inB (ps.getD k zMistake).1 0 (n - 1) && (inB (ps.getD k zMistake).2.1 0 (s.size - 1) && (decide ((ps.getD k zMistake).2.2.size = 1) &&
    (decide (0 ≤ turnI (byt (ps.getD k zMistake).2.2 0)) && (!decide (byt (ps.getD k zMistake).2.2 0 = byt s (ps.getD k zMistake).2.1.toNat) &&
      (List.range k).all fun j => !sameR (ps.getD j zMistake) (ps.getD k zMistake)))))
def mistB (n : Int) (s : ByteArray) (ps : List RMistake) : Bool := inB n 1 30 && (wordB s && (decide (ps.length ≤ 20) && (List.range ps.length).all (okR n s ps)))
theorem mist_no {n : Int} {s : ByteArray} {ps : List RMistake} {k : Nat} (hk : k < ps.length) (h : okR n s ps k = false) : mistB n s ps = false := by
  unfold mistB
  have : ((List.range ps.length).all (okR n s ps)) = false := by rw [List.all_eq_false]; exact ⟨k, List.mem_range.2 hk, by rw [h]; simp⟩
  rw [this]; simp
theorem mist_yes {n : Int} {s : ByteArray} {ps : List RMistake} (h1 : inB n 1 30 = true) (h2 : wordB s = true) (h3 : ps.length ≤ 20) (h : ∀ k, k < ps.length → okR n s ps k = true) : mistB n s ps = true := by
  unfold mistB
  rw [h1, h2, decide_eq_true h3, Bool.true_and, Bool.true_and, Bool.true_and, List.all_eq_true]
  exact fun k hk => h k (List.mem_range.1 hk)
end Dr

set_option maxRecDepth 20000 in
set_option maxHeartbeats 8000000 in
theorem drMistakes_any (w : World) (n : Int) (s : ByteArray) (a : Option Addr) (len cap : Nat) (ps : List RMistake) (hs : s.size ≤ 1048576) (hl : len ≤ 1048576) (hc : CameMistake w a len ps) (hcp : len ≤ cap ∧ cap ≤ 9223372036854775807) :
    Calls Tryd.prog 86 #[.int .i64 n, .string s, .slice a len cap] w fun e w' => e = .returned (.bool (mistB n s ps)) ∧ Below w.heap.size w w' := by
  have HI := Lib.hid (l1In_any n 1 30 w)
  have HW := Lib.hid (drWord_any s w hs)
  have HZ : Hid (ps.length = len) := Lib.hid hc.1
  have HC := Lib.hid hc
  obtain ⟨hcp, hcm⟩ := hcp
  clear hc
  rcases hb : inB n 1 30 with _ | _
  · have HE : Hid (mistB n s ps = false) := Lib.hid (by unfold mistB; rw [hb]; rfl)
    rw [hb] at HI
    clear hb
    go_enter Tryd.func86, Tryd.ntmps86
    go_wp2_with (go_at_call 69; refine HI.out.mono ?_; rintro e w' ⟨rfl, rfl⟩)
    go_ret
    exact ⟨ret_bool (by rw [HE.out]), Below.refl _ _⟩
  · rcases hb2 : wordB s with _ | _
    · have HE : Hid (mistB n s ps = false) := Lib.hid (by unfold mistB; rw [hb, hb2]; rfl)
      rw [hb] at HI
      rw [hb2] at HW
      clear hb hb2
      go_enter Tryd.func86, Tryd.ntmps86
      go_wp2_with (first | (go_at_call 69; refine HI.out.mono ?_; rintro e w' ⟨rfl, rfl⟩) | (go_at_call 56; refine HW.out.mono ?_; rintro e w' ⟨rfl, rfl⟩))
      go_ret
      exact ⟨ret_bool (by rw [HE.out]), Below.refl _ _⟩
    · by_cases h20 : len ≤ 20
      · have HY : Hid ((∀ k, k < ps.length → okR n s ps k = true) → mistB n s ps = true) := Lib.hid (mist_yes hb hb2 (by have := HZ.out; omega))
        have hs60 : s.size ≤ 60 := by
          unfold wordB at hb2
          rw [Bool.and_eq_true] at hb2
          exact of_decide_eq_true hb2.1
        obtain ⟨hn1, hn2⟩ := inB_yes hb
        rw [hb] at HI
        rw [hb2] at HW
        clear hb hb2
        go_enter Tryd.func86, Tryd.ntmps86
        go_wp2_with (first | (go_at_call 69; refine HI.out.mono ?_; rintro e w' ⟨rfl, rfl⟩) | (go_at_call 56; refine HW.out.mono ?_; rintro e w' ⟨rfl, rfl⟩))
        go_loopw [26] (fun i wr => ∃ k : Nat, k ≤ len ∧ i = .int .i64 (k : Int) ∧ Hid (∀ j, j < k → okR n s ps j = true) ∧ Hid (Below w.heap.size w wr)) (fun i _ => len - (intOf i).toNat)
        case atStart => exact ⟨0, Nat.zero_le _, rfl, Lib.hid (fun j h => absurd h (Nat.not_lt_zero _)), Lib.hid (Below.refl _ _)⟩
        case round =>
          obtain ⟨k, hk, rfl, HK, HB⟩ := hrel
          have hz := HB.out.size
          by_cases hlt : k < len
          · obtain ⟨b, off, rfl, hcell⟩ := (HC.out.below HB.out).2 (by omega)
            obtain ⟨e0, e1, e2, _⟩ := hcell k hlt
            have HNO : Hid (okR n s ps k = false → mistB n s ps = false) := Lib.hid (mist_no (by rw [HZ.out]; exact hlt))
            have HOK : Hid (okR n s ps k = (inB (ps.getD k zMistake).1 0 (n - 1) && (inB (ps.getD k zMistake).2.1 0 (s.size - 1) && (decide ((ps.getD k zMistake).2.2.size = 1) && (decide (0 ≤ turnI (byt (ps.getD k zMistake).2.2 0)) && (!decide (byt (ps.getD k zMistake).2.2 0 = byt s (ps.getD k zMistake).2.1.toNat) && (List.range k).all fun j => !sameR (ps.getD j zMistake) (ps.getD k zMistake))))))) := Lib.hid rfl
            obtain ⟨p, hp⟩ : ∃ p, p = ps.getD k zMistake := ⟨_, rfl⟩
            rw [← hp] at e0 e1 e2 HOK
            obtain ⟨x0, x1, x2⟩ := p
            simp only at e0 e1 e2 HOK
            have HP := Lib.hid hp
            have i1 : (0 : Int) ≤ (k : Int) := by omega
            have i2 : (k : Int) < (len : Int) := by omega
            have HI0 := Lib.hid (fun w2 => l1In_any x0 0 (n - 1) w2)
            have HI1 := Lib.hid (fun w2 => l1In_any x1 0 ((s.size : Int) - 1) w2)
            have HBA : Hid (Below w.heap.size w (wr.alloc (.cells #[.int .i64 x0, .int .i64 x1, .string x2] 55))) := Lib.hid (HB.out.alloc hz _)
            clear hcell hp
            rcases hx0 : inB x0 0 (n - 1) with _ | _
            · have HE := Lib.hid (HNO.out (by rw [HOK.out, hx0]; rfl))
              rw [hx0] at HI0
              clear hx0 HNO HOK HI1
              go_wp2_with (go_at_call 69; refine (HI0.out _).mono ?_; rintro e w' ⟨rfl, rfl⟩)
              go_ret
              exact ⟨ret_bool (by rw [HE.out]), HBA.out⟩
            · rcases hx1 : inB x1 0 ((s.size : Int) - 1) with _ | _
              · have HE := Lib.hid (HNO.out (by rw [HOK.out, hx0, hx1]; rfl))
                rw [hx0] at HI0
                rw [hx1] at HI1
                clear hx0 hx1 HNO HOK
                go_wp2_with fail
                go_at_call 69
                refine (HI0.out _).mono ?_
                rintro e w' ⟨rfl, rfl⟩
                go_wp2_with fail
                go_at_call 69
                refine (HI1.out _).mono ?_
                rintro e w' ⟨rfl, rfl⟩
                go_wp2
                go_ret
                exact ⟨ret_bool (by rw [HE.out]), HBA.out⟩
              · by_cases hx2 : x2.size = 1
                · obtain ⟨h01, h02⟩ := inB_yes hx0
                  obtain ⟨h11, h12⟩ := inB_yes hx1
                  obtain ⟨m1, rfl⟩ : ∃ m1 : Nat, x1 = (m1 : Int) := ⟨x1.toNat, by omega⟩
                  have hm1 : m1 < s.size := by omega
                  have hx20 : 0 < x2.size := by omega
                  have hby2 := byt_get x2 0 hx20
                  have hbys := byt_get s m1 hm1
                  obtain ⟨hb0, hb1⟩ := byte_bd (x2[0]'hx20)
                  have HT : Hid (∀ w2 : World, Calls Tryd.prog 73 #[.int .u8 ((x2[0]'hx20).toNat : Int)] w2 fun e w' => e = .returned (.int .i64 (turnI ((x2[0]'hx20).toNat : Int))) ∧ w' = w2) := Lib.hid (fun w2 => (drTurn_any ((x2[0]'hx20).toNat : Int) w2 hb0 hb1).mono fun e w' ⟨h1, h2⟩ => ⟨h1, h2.symm⟩)
                  rw [hx0, hx1, decide_eq_true hx2, Bool.true_and, Bool.true_and, Bool.true_and, hby2, Int.toNat_natCast, hbys] at HOK
                  rw [hx0] at HI0
                  rw [hx1] at HI1
                  have hx2n : ((x2.size : Int) != 1) = false := by rw [bne_eq_false_iff_eq]; omega
                  obtain ⟨t, ht⟩ : ∃ t, t = turnI ((x2[0]'hx20).toNat : Int) := ⟨_, rfl⟩
                  rw [← ht] at HT HOK
                  clear hx0 hx1 hby2 hbys ht
                  have i3 : (0 : Int) ≤ (m1 : Int) := by omega
                  have i4 : (m1 : Int) < (s.size : Int) := by omega
                  have i5 : (0 : Int) < (x2.size : Int) := by omega
                  by_cases htn : t < 0
                  · have HE := Lib.hid (HNO.out (by rw [HOK.out, decide_eq_false (by omega : ¬ 0 ≤ t)]; rfl))
                    have hd : decide (t < 0) = true := decide_eq_true htn
                    clear HNO HOK
                    go_wp2_with fail
                    go_at_call 69
                    refine (HI0.out _).mono ?_
                    rintro e w' ⟨rfl, rfl⟩
                    go_wp2_with fail
                    go_at_call 69
                    refine (HI1.out _).mono ?_
                    rintro e w' ⟨rfl, rfl⟩
                    go_wp2_with fail
                    go_quiet ((go_at_call 73; exact Calls.quiet_of_same (HT.out _)))
                    go_wp2
                    go_ret
                    exact ⟨ret_bool (by rw [HE.out]), HBA.out.trans ((drewN_down _ _).mono (HBA.out.size))⟩
                  · have hd : decide (t < 0) = false := decide_eq_false htn
                    rw [decide_eq_true (by omega : 0 ≤ t), Bool.true_and] at HOK
                    by_cases heq : ((x2[0]'hx20).toNat : Int) = ((s[m1]'hm1).toNat : Int)
                    · have HE := Lib.hid (HNO.out (by rw [HOK.out, decide_eq_true heq]; rfl))
                      have heqb : (((x2[0]'hx20).toNat : Int) == ((s[m1]'hm1).toNat : Int)) = true := by rw [beq_iff_eq]; exact heq
                      clear HNO HOK heq
                      go_wp2_with fail
                      go_at_call 69
                      refine (HI0.out _).mono ?_
                      rintro e w' ⟨rfl, rfl⟩
                      go_wp2_with fail
                      go_at_call 69
                      refine (HI1.out _).mono ?_
                      rintro e w' ⟨rfl, rfl⟩
                      go_wp2_with fail
                      go_quiet ((go_at_call 73; exact Calls.quiet_of_same (HT.out _)))
                      go_wp2
                      go_ret
                      exact ⟨ret_bool (by rw [HE.out]), HBA.out.trans ((drewN_down _ _).mono (HBA.out.size))⟩
                    · have heqb : (((x2[0]'hx20).toNat : Int) == ((s[m1]'hm1).toNat : Int)) = false := by rw [beq_eq_false_iff_ne]; exact heq
                      rw [decide_eq_false heq, Bool.not_false, Bool.true_and] at HOK
                      have i6 : (k : Int) ≤ (cap : Int) := by omega
                      have HMC : Hid (∀ w5, Below (wr.alloc (.cells #[.int .i64 x0, .int .i64 (m1 : Int), .string x2] 55)).heap.size (wr.alloc (.cells #[.int .i64 x0, .int .i64 (m1 : Int), .string x2] 55)) w5 → w5.cell? ⟨wr.heap.size, 0, none⟩ = some (.int .i64 x0) ∧ w5.cell? ⟨wr.heap.size, 1, none⟩ = some (.int .i64 (m1 : Int))) := Lib.hid (fun w5 h5 =>
                        ⟨(h5.cell (by simp)).trans (by rw [World.cell?_alloc_new]; rfl), (h5.cell (by simp)).trans (by rw [World.cell?_alloc_new]; rfl)⟩)
                      clear heq
                      go_wp2_with fail
                      go_at_call 69
                      refine (HI0.out _).mono ?_
                      rintro e w' ⟨rfl, rfl⟩
                      go_wp2_with fail
                      go_at_call 69
                      refine (HI1.out _).mono ?_
                      rintro e w' ⟨rfl, rfl⟩
                      go_wp2_with fail
                      go_quiet ((go_at_call 73; exact Calls.quiet_of_same (HT.out _)))
                      go_wp2
                      obtain ⟨wo, rfl⟩ : ∃ wo : World, wo = wr := ⟨_, rfl⟩
                      go_loopw [71] (fun i wr => ∃ j : Nat, j ≤ k ∧ i = .int .i64 (j : Int) ∧ Hid (∀ q, q < j → sameR (ps.getD q zMistake) (x0, (m1 : Int), x2) = false) ∧ Hid (Below (wo.alloc (.cells #[.int .i64 x0, .int .i64 (m1 : Int), .string x2] 55)).heap.size (wo.alloc (.cells #[.int .i64 x0, .int .i64 (m1 : Int), .string x2] 55)) wr)) (fun i _ => k - (intOf i).toNat)
                      case atStart => exact ⟨0, Nat.zero_le _, rfl, Lib.hid (fun q h => absurd h (Nat.not_lt_zero _)), Lib.hid (drewN_down _ _)⟩
                      case round =>
                        obtain ⟨j, hj, rfl, HJ, HB2⟩ := hrel
                        have HB3 : Hid (Below w.heap.size w wr) := Lib.hid (HBA.out.trans (HB2.out.mono HBA.out.size))
                        obtain ⟨c0, c1⟩ := HMC.out wr HB2.out
                        by_cases hlt2 : j < k
                        · obtain ⟨b', off', hbo, hcell⟩ := (HC.out.below HB3.out).2 (by omega)
                          cases hbo
                          obtain ⟨d0, d1, d2, _⟩ := hcell j (by omega)
                          have HSM : Hid (sameR (ps.getD j zMistake) (x0, (m1 : Int), x2) = decide ((ps.getD j zMistake).1 = x0 ∧ (ps.getD j zMistake).2.1 = (m1 : Int))) := Lib.hid rfl
                          obtain ⟨y0, hy0⟩ : ∃ y, y = (ps.getD j zMistake).1 := ⟨_, rfl⟩
                          obtain ⟨y1, hy1⟩ : ∃ y, y = (ps.getD j zMistake).2.1 := ⟨_, rfl⟩
                          obtain ⟨y2, hy2⟩ : ∃ y, y = (ps.getD j zMistake).2.2 := ⟨_, rfl⟩
                          rw [← hy0] at d0 HSM
                          rw [← hy1] at d1 HSM
                          rw [← hy2] at d2
                          have j1 : (0 : Int) ≤ (j : Int) := by omega
                          have j2 : (j : Int) < (k : Int) := by omega
                          have HB4 : Hid (Below (wo.alloc (.cells #[.int .i64 x0, .int .i64 (m1 : Int), .string x2] 55)).heap.size (wo.alloc (.cells #[.int .i64 x0, .int .i64 (m1 : Int), .string x2] 55)) (wr.alloc (.cells #[.int .i64 y0, .int .i64 y1, .string y2] 55))) := Lib.hid (HB2.out.alloc HB2.out.size _)
                          have HB5 : Hid (Below w.heap.size w (wr.alloc (.cells #[.int .i64 y0, .int .i64 y1, .string y2] 55))) := Lib.hid (HB3.out.alloc HB3.out.size _)
                          have gl : wo.heap.size < wr.heap.size := by have := HB2.out.size; simp at this; omega
                          clear hcell hy0 hy1 hy2
                          by_cases hs0 : y0 = x0
                          · by_cases hs1 : y1 = (m1 : Int)
                            · have HE := Lib.hid (HNO.out (by
                                rw [HOK.out, List.all_eq_false]
                                refine ⟨j, List.mem_range.2 hlt2, ?_⟩
                                rw [HSM.out, decide_eq_true ⟨hs0, hs1⟩]
                                simp))
                              have hq0 : (y0 == x0) = true := by rw [beq_iff_eq]; exact hs0
                              have hq1 : (y1 == (m1 : Int)) = true := by rw [beq_iff_eq]; exact hs1
                              clear hs0 hs1 HNO HOK
                              go_wp2
                              go_ret
                              exact ⟨ret_bool (by rw [HE.out]), HB5.out⟩
                            · have HJ2 : Hid (∀ q, q < j + 1 → sameR (ps.getD q zMistake) (x0, (m1 : Int), x2) = false) := Lib.hid (fun q hq => by
                                by_cases e : q = j
                                · subst e; rw [HSM.out, decide_eq_false (fun e => hs1 e.2)]
                                · exact HJ.out q (by omega))
                              have hq0 : (y0 == x0) = true := by rw [beq_iff_eq]; exact hs0
                              have hq1 : (y1 == (m1 : Int)) = false := by rw [beq_eq_false_iff_ne]; exact hs1
                              clear hs0 hs1
                              go_wp2
                              go_roundw
                              case rel => exact ⟨j + 1, by omega, by go_num, HJ2, HB4⟩
                              case measure => simp [intOf]; omega
                          · have HJ2 : Hid (∀ q, q < j + 1 → sameR (ps.getD q zMistake) (x0, (m1 : Int), x2) = false) := Lib.hid (fun q hq => by
                              by_cases e : q = j
                              · subst e; rw [HSM.out, decide_eq_false (fun e => hs0 e.1)]
                              · exact HJ.out q (by omega))
                            have hq0 : (y0 == x0) = false := by rw [beq_eq_false_iff_ne]; exact hs0
                            clear hs0
                            go_wp2
                            go_roundw
                            case rel => exact ⟨j + 1, by omega, by go_num, HJ2, HB4⟩
                            case measure => simp [intOf]; omega
                        · have HK2 : Hid (∀ q, q < k + 1 → okR n s ps q = true) := Lib.hid (fun q hq => by
                            by_cases e : q = k
                            · subst e
                              rw [HOK.out, List.all_eq_true]
                              intro r hr
                              rw [HJ.out r (by have := List.mem_range.1 hr; omega)]
                              rfl
                            · exact HK.out q (by omega))
                          clear HNO HOK
                          go_wp2
                          go_roundw
                          case rel => exact ⟨k + 1, by omega, by go_num, HK2, HB3⟩
                          case measure => simp [intOf]; omega
                · have HE := Lib.hid (HNO.out (by rw [HOK.out, hx0, hx1, decide_eq_false hx2]; rfl))
                  have hx2n : ((x2.size : Int) != 1) = true := by rw [bne_iff_ne]; omega
                  rw [hx0] at HI0
                  rw [hx1] at HI1
                  clear hx0 hx1 HNO HOK
                  go_wp2_with fail
                  go_at_call 69
                  refine (HI0.out _).mono ?_
                  rintro e w' ⟨rfl, rfl⟩
                  go_wp2_with fail
                  go_at_call 69
                  refine (HI1.out _).mono ?_
                  rintro e w' ⟨rfl, rfl⟩
                  go_wp2
                  go_ret
                  exact ⟨ret_bool (by rw [HE.out]), HBA.out⟩
          · have HE := Lib.hid (HY.out (fun j hj => HK.out j (by have := HZ.out; omega)))
            go_wp2
            go_ret
            exact ⟨ret_bool (by rw [HE.out]), HB.out⟩
      · have HE : Hid (mistB n s ps = false) := Lib.hid (by unfold mistB; rw [decide_eq_false (by have := HZ.out; omega)]; simp)
        rw [hb] at HI
        rw [hb2] at HW
        clear hb hb2
        go_enter Tryd.func86, Tryd.ntmps86
        go_wp2_with (first | (go_at_call 69; refine HI.out.mono ?_; rintro e w' ⟨rfl, rfl⟩) | (go_at_call 56; refine HW.out.mono ?_; rintro e w' ⟨rfl, rfl⟩))
        go_ret
        exact ⟨ret_bool (by rw [HE.out]), Below.refl _ _⟩

end Go.Proofs.YtjbomclildkjaaaDoor
