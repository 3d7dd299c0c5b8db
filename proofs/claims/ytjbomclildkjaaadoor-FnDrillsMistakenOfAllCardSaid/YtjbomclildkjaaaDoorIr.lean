/- Chapter 4, the program: withOneMore: an array of counts by mistakes and turns, by one sign more. -/
import Derived.Test.YtjbomclildkjaaaDoorIh
import Derived.Test.YtjbomclildkjaaaDoorWb
import Derived.StillTailTactics
import Derived.Test.YtjbomclildkjaaaDoorAgg
import Derived.Test.YtjbomclildkjaaaDoorLw
namespace Go.Proofs.YtjbomclildkjaaaDoor
open Go.ChangeShapes Go.WideShapes Go.ChangeAt Go.RowKit
open Dr

def cI (l : List Int) : List Value := l.map (Value.int .i64)
theorem length_cI (l : List Int) : (cI l).length = l.length := by unfold cI; rw [List.length_map]
theorem Blk.cellZ {w : World} {g : Nat} {t : TypeId} {zs : List Int} (h : Blk w g t (cI zs)) (j : Nat) (hj : j < zs.length) : w.cell? ⟨g, j, none⟩ = some (.int .i64 (zs.getD j 0)) := by
  rw [h.cell]
  unfold cI
  simp [hj]
theorem cI_one (l : List Int) : ∀ v ∈ cI l, v.oneCell' = true := by
  intro v hv
  unfold cI at hv
  simp only [List.mem_map] at hv
  obtain ⟨z, _, rfl⟩ := hv
  rfl
theorem Blk.setZ {w : World} {g : Nat} {t : TypeId} {zs : List Int} (h : Blk w g t (cI zs)) (j : Nat) (z : Int) : Blk (w.setCell ⟨g, j, none⟩ (.int .i64 z)) g t (cI (zs.set j z)) := by
  have h1 := h.set j (.int .i64 z)
  unfold cI at h1 ⊢
  rw [List.map_set]
  exact h1
theorem Blk.otherZ {w : World} {g g' : Nat} {t : TypeId} {cs : List Value} (h : Blk w g t cs) (j : Nat) (v : Value) (hne : g ≠ g') : Blk (w.setCell ⟨g', j, none⟩ v) g t cs :=
  h.grown (set_grown w g' j v) (fun e => hne (by cases e; rfl))
/-- of those, how many end with one of the first d commands -/
def pTo (f : Nat → Nat → Nat) (c m t : Nat) : Nat → Nat
  | 0 => 0
  | d + 1 => pTo f c m t d + pull f c m t d
def nextF (f : Nat → Nat → Nat) (c m t : Nat) : Nat := pTo f c m t 4
theorem nextF_ways (ts : List Nat) (k m t : Nat) : nextF (waysTo ts k) (ts.getD k 0) m t = waysTo ts (k + 1) m t := by
  unfold nextF
  rw [waysTo]
  simp only [pTo]
  omega
def capM (f : Nat → Nat → Nat) : List Int := upTo (fun p => ((min (f (p / 4) (p % 4)) capC : Nat) : Int)) 244
theorem length_capM (f : Nat → Nat → Nat) : (capM f).length = 244 := length_upTo _ _
theorem capM_get (f : Nat → Nat → Nat) (m t : Nat) (hm : m < 61) (ht : t < 4) : (capM f).getD (m * 4 + t) 0 = ((min (f m t) capC : Nat) : Int) := by
  unfold capM
  rw [getD_upTo _ _ _ (by omega), show (m * 4 + t) / 4 = m from by omega, show (m * 4 + t) % 4 = t from by omega]
def lonL (f : Nat → Nat → Nat) (c p d : Nat) : List Int := upTo (fun q => ((if q < p then min (nextF f c (q / 4) (q % 4)) capC else if q = p then min (pTo f c (q / 4) (q % 4) d) capC else 0 : Nat) : Int)) 244
theorem length_lonL (f : Nat → Nat → Nat) (c p d : Nat) : (lonL f c p d).length = 244 := length_upTo _ _
theorem lonL_get (f : Nat → Nat → Nat) (c m t d : Nat) (hm : m < 61) (ht : t < 4) : (lonL f c (m * 4 + t) d).getD (m * 4 + t) 0 = ((min (pTo f c m t d) capC : Nat) : Int) := by
  unfold lonL
  rw [getD_upTo _ _ _ (by omega), if_neg (by omega), if_pos rfl, show (m * 4 + t) / 4 = m from by omega, show (m * 4 + t) % 4 = t from by omega]
theorem lonL_zero (f : Nat → Nat → Nat) (c : Nat) : lonL f c 0 0 = List.replicate 244 0 := by
  refine ext_getD 0 (by rw [length_lonL, List.length_replicate]) fun i hi => ?_
  rw [length_lonL] at hi
  unfold lonL
  rw [getD_upTo _ _ _ hi, if_neg (by omega)]
  have h0 : (List.replicate 244 (0 : Int)).getD i 0 = 0 := by rw [List.getD_eq_getElem?_getD, List.getElem?_replicate, if_pos hi]; rfl
  rw [h0]
  split
  · simp [pTo]
  · rfl
theorem lonL_next (f : Nat → Nat → Nat) (c p : Nat) : lonL f c p 4 = lonL f c (p + 1) 0 := by
  unfold lonL
  refine upTo_congr _ _ _ fun q _ => ?_
  by_cases h1 : q < p
  · rw [if_pos h1, if_pos (by omega)]
  · by_cases h2 : q = p
    · rw [if_neg h1, if_pos h2, if_pos (by omega)]
      rfl
    · rw [if_neg h1, if_neg h2, if_neg (by omega)]
      split
      · simp [pTo]
      · rfl
theorem lonL_all (f : Nat → Nat → Nat) (c : Nat) : lonL f c 244 0 = capM (nextF f c) := by
  unfold lonL capM
  refine upTo_congr _ _ _ fun q hq => ?_
  rw [if_pos hq]
theorem lonL_set (f : Nat → Nat → Nat) (c m t d : Nat) (hm : m < 61) (ht : t < 4) (x : Nat) (hx : pull f c m t d = x) :
    (lonL f c (m * 4 + t) d).set (m * 4 + t) ((min (min (pTo f c m t d) capC + min x capC) capC : Nat) : Int) = lonL f c (m * 4 + t) (d + 1) := by
  refine ext_getD 0 (by rw [List.length_set, length_lonL, length_lonL]) fun q hq => ?_
  rw [List.length_set, length_lonL] at hq
  rw [getD_set, length_lonL]
  by_cases e : m * 4 + t = q
  · subst e
    rw [if_pos ⟨rfl, by omega⟩, lonL_get _ _ _ _ _ hm ht, pTo, hx, cap_add]
  · rw [if_neg (fun h => e h.1)]
    unfold lonL
    rw [getD_upTo _ _ _ hq, getD_upTo _ _ _ hq]
    by_cases h1 : q < m * 4 + t
    · rw [if_pos h1, if_pos h1]
    · rw [if_neg h1, if_neg h1, if_neg (by omega), if_neg (by omega)]
theorem lonL_skip (f : Nat → Nat → Nat) (c m t d : Nat) (hx : pull f c m t d = 0) (hm : m < 61) (ht : t < 4) : lonL f c (m * 4 + t) (d + 1) = lonL f c (m * 4 + t) d := by
  rw [← lonL_set f c m t d hm ht 0 hx]
  refine ext_getD 0 (by rw [List.length_set]) fun q hq => ?_
  rw [List.length_set, length_lonL] at hq
  rw [getD_set, length_lonL]
  by_cases e : m * 4 + t = q
  · subst e
    rw [if_pos ⟨rfl, by omega⟩, lonL_get _ _ _ _ _ hm ht]
    have : min (min (pTo f c m t d) capC + min 0 capC) capC = min (pTo f c m t d) capC := by omega
    rw [this]
  · rw [if_neg (fun h => e h.1)]
theorem pull_same (f : Nat → Nat → Nat) (c m t : Nat) : pull f c m t c = f m (goTo c t) := by unfold pull; rw [if_pos rfl]; rfl
theorem pull_more (f : Nat → Nat → Nat) (c m t d : Nat) (h : ¬ d = c) : pull f c (m + 1) t d = f m (goTo d t) := by unfold pull; rw [if_neg h]; rfl
theorem pull_first (f : Nat → Nat → Nat) (c t d : Nat) (h : ¬ d = c) : pull f c 0 t d = 0 := by unfold pull; rw [if_neg h]
theorem Tryd.info_ways : (Tryd.prog.info? 91).map (fun i => (i.zero, i.size)) = some (some (.agg (cI (List.replicate 244 0)).toArray), 244) := by kernel_rfl
theorem Tryd.size_ways : (Tryd.prog.info? 91).map (·.size) = some 244 := by kernel_rfl
set_option maxRecDepth 20000 in
set_option maxHeartbeats 800000 in
theorem withOneMore_any (w : World) (f : Nat → Nat → Nat) (c : Nat) (_hc : c < 4) :
    Calls Tryd.prog 82 #[.agg (cI (capM f)).toArray, .int .i64 (c : Int)] w fun e w' => e = .returned (.agg (cI (capM (nextF f c))).toArray) ∧ Below w.heap.size w w' := by
  have HZ0 := Lib.hid (lonL_zero f c)
  have HLA := Lib.hid (lonL_all f c)
  have HLN := Lib.hid (lonL_next f c)
  have HTB := Lib.hid (fun (t y : Nat) (w2 : World) (ht : t < 4) (hy : y < 4) => turnTo_any t y w2 ht hy)
  go_enter Tryd.func82, Tryd.ntmps82
  go_wp2_with (refine wpList_box 91 _ rfl rfl (cI (capM f)) rfl ?_; intro w1 g2 G1 B1 L1)
  refine ⟨?_⟩
  go_wp2_with (refine wpList_new 91 rfl rfl _ _ Tryd.info_ways ?_; intro w2 g4 G2 B2 L2)
  refine ⟨?_⟩
  go_wp2_with (refine wpList_new 91 rfl rfl _ _ Tryd.info_ways ?_; intro w3 g5 G3 B3 L3)
  refine ⟨?_⟩
  have hne : Hid (g4 ≠ g2 ∧ g5 ≠ g2 ∧ g5 ≠ g4 ∧ w.heap.size ≤ g4 ∧ w.heap.size ≤ g5) := Lib.hid (by
    have := G1.out; have := G2.out; have := G3.out; have := L1.out.size; have := L2.out.size; have := B1.out.lt; have := B2.out.lt
    omega)
  have BG := Lib.hid ((B1.out.below L2.out B1.out.lt).below L3.out (by have := B1.out.lt; have := L2.out.size; omega))
  have BR := Lib.hid (B2.out.below L3.out B2.out.lt)
  have LA : Hid (Below w.heap.size w w3) := Lib.hid ((L1.out.trans (L2.out.mono L1.out.size)).trans (L3.out.mono (by have := L1.out.size; have := L2.out.size; omega)))
  have CC : Hid (Blk w3 g5 91 (cI (lonL f c 0 0))) := Lib.hid (by rw [HZ0.out]; exact B3.out)
  clear B1 B2 B3 L1 L2 L3 G1 G2 G3
  go_wp2
  go_loopw [10] (fun i wr => ∃ m : Nat, m ≤ 61 ∧ i = .int .i64 (m : Int) ∧ Hid (Blk wr g5 91 (cI (lonL f c (m * 4) 0))) ∧ Hid (Blk wr g2 91 (cI (capM f))) ∧ Hid (Blk wr g4 91 (cI (List.replicate 244 0))) ∧ Hid (Below w.heap.size w wr)) (fun i _ => 61 - (intOf i).toNat)
  case atStart => exact ⟨0, Nat.zero_le _, rfl, CC, BG, BR, LA⟩
  case round =>
    obtain ⟨m, hm, rfl, C1, D1, E1, F1⟩ := hrel
    clear CC BG BR LA
    by_cases hlt : m < 61
    · obtain ⟨wo, rfl⟩ : ∃ wo : World, wo = wr := ⟨_, rfl⟩
      have jm : (m : Int) < 61 := by omega
      go_wp2
      go_loopw [13] (fun i wr => ∃ t : Nat, t ≤ 4 ∧ i = .int .i64 (t : Int) ∧ Hid (Blk wr g5 91 (cI (lonL f c (m * 4 + t) 0))) ∧ Hid (Blk wr g2 91 (cI (capM f))) ∧ Hid (Blk wr g4 91 (cI (List.replicate 244 0))) ∧ Hid (Below w.heap.size w wr)) (fun i _ => 4 - (intOf i).toNat)
      case atStart => exact ⟨0, Nat.zero_le _, rfl, C1, D1, E1, F1⟩
      case round =>
        obtain ⟨t, ht, rfl, C2, D2, E2, F2⟩ := hrel
        clear C1 D1 E1 F1
        by_cases hlt2 : t < 4
        · obtain ⟨wp, rfl⟩ : ∃ wo : World, wo = wr := ⟨_, rfl⟩
          have jt : (t : Int) < 4 := by omega
          go_wp2
          go_loopw [16] (fun i wr => ∃ d : Nat, d ≤ 4 ∧ i = .int .i64 (d : Int) ∧ Hid (Blk wr g5 91 (cI (lonL f c (m * 4 + t) d))) ∧ Hid (Blk wr g2 91 (cI (capM f))) ∧ Hid (Blk wr g4 91 (cI (List.replicate 244 0))) ∧ Hid (Below w.heap.size w wr)) (fun i _ => 4 - (intOf i).toNat)
          case atStart => exact ⟨0, Nat.zero_le _, rfl, C2, D2, E2, F2⟩
          case round =>
            obtain ⟨d, hd, rfl, C3, D3, E3, F3⟩ := hrel
            clear C2 D2 E2 F2
            by_cases hlt3 : d < 4
            · have hgl := goTo_lt d t
              have HT1 := Lib.hid (fun w2 => HTB.out d t w2 hlt3 hlt2)
              have e1 := C3.out.cellZ (m * 4 + t) (by rw [length_lonL]; omega)
              rw [lonL_get _ _ _ _ _ hlt hlt2] at e1
              have f1 := C3.out.free (m * 4 + t)
              by_cases hdc : d = c
              · have bd : ((d : Int) == (c : Int)) = true := by rw [beq_iff_eq, hdc]
                have HS := Lib.hid (lonL_set f c m t d hlt hlt2 (f m (goTo d t)) (by rw [hdc]; exact pull_same f c m t))
                have e2 := D3.out.cellZ (m * 4 + goTo d t) (by rw [length_capM]; omega)
                rw [capM_get _ _ _ hlt hgl] at e2
                obtain ⟨v, hv⟩ : ∃ v, v = goTo d t := ⟨_, rfl⟩
                rw [← hv] at HS e2 HT1 hgl
                obtain ⟨A, hA⟩ : ∃ x, x = min (pTo f c m t d) capC := ⟨_, rfl⟩
                obtain ⟨P, hP⟩ : ∃ x, x = min (f m v) capC := ⟨_, rfl⟩
                rw [← hA] at HS e1
                rw [← hP] at HS e2
                have hA2 : A ≤ 1000000000000001 := by rw [hA]; exact Nat.min_le_right _ _
                have hP2 : P ≤ 1000000000000001 := by rw [hP]; exact Nat.min_le_right _ _
                have bdw : Below wr.heap.size wr wr.drew := (Lw.drew1 wr).b
                have j1 : (0 : Int) ≤ (m : Int) := by omega
                have j2 : (m : Int) < 61 := by omega
                have j3 : (0 : Int) ≤ (t : Int) := by omega
                have j4 : (t : Int) < 4 := by omega
                have j5 : (0 : Int) ≤ (v : Int) := by omega
                have j6 : (v : Int) < 4 := by omega
                have eR : min ((A : Int) + (P : Int)) 1000000000000001 = ((min (A + P) capC : Nat) : Int) := by unfold capC; omega
                have HO2 : Hid (Blk (wr.drew.setCell ⟨g5, m * 4 + t, none⟩ (.int .i64 ((min (A + P) capC : Nat) : Int))) g5 91 (cI (lonL f c (m * 4 + t) (d + 1)))) := Lib.hid (by rw [← HS.out]; exact (show Blk wr.drew _ _ _ from C3.out).setZ _ _)
                have HD2 := Lib.hid ((show Blk wr.drew _ _ _ from D3.out).otherZ (m * 4 + t) (.int .i64 ((min (A + P) capC : Nat) : Int)) (Ne.symm hne.out.2.1))
                have HE2 := Lib.hid ((show Blk wr.drew _ _ _ from E3.out).otherZ (m * 4 + t) (.int .i64 ((min (A + P) capC : Nat) : Int)) (Ne.symm hne.out.2.2.1))
                have HF2 := Lib.hid ((F3.out.trans (bdw.mono F3.out.size)).setCell (p := ⟨g5, m * 4 + t, none⟩) hne.out.2.2.2.2 (.int .i64 ((min (A + P) capC : Nat) : Int)))
                obtain ⟨R, hR⟩ : ∃ x, x = min (A + P) capC := ⟨_, rfl⟩
                rw [← hR] at eR HO2 HD2 HE2 HF2
                have eI : (if (1000000000000001 : Int) < IntKind.i64.wrap ((A : Int) + (P : Int)) then (1000000000000001 : Int) else IntKind.i64.wrap ((A : Int) + (P : Int))) = (R : Int) := by
                  have ew : IntKind.i64.wrap ((A : Int) + (P : Int)) = (A : Int) + (P : Int) := by rw [IntKind.wrap_i64]; omega
                  rw [ew, ← eR]
                  split <;> omega
                clear eR
                clear hv hA hP hR C3 D3 E3 F3 HS hdc
                go_wp2_with fail
                go_still_tail 18, (by kernel_rfl)
                still_call ((HT1.out _).mono fun e w' ⟨he, hw⟩ => ⟨he, hw.symm⟩)
                repeat still_step
                refine wpStill_nil ?_
                change wpList _ _ _ _ _ wr.drew
                go_wp2
                go_roundw
                case rel => exact ⟨d + 1, by omega, by go_num, HO2, HD2, HE2, HF2⟩
                case measure => simp [intOf]; omega
              · have bd : ((d : Int) == (c : Int)) = false := by rw [beq_eq_false_iff_ne]; omega
                rcases m with _ | m
                · have C4 : Hid (Blk wr g5 91 (cI (lonL f c (0 * 4 + t) (d + 1)))) := Lib.hid (by rw [lonL_skip _ _ _ _ _ (pull_first f c t d hdc) hlt hlt2]; exact C3.out)
                  clear C3 e1 f1 HT1 hgl hdc
                  go_wp2
                  go_roundw
                  case rel => exact ⟨d + 1, by omega, by go_num, C4, D3, E3, F3⟩
                  case measure => simp [intOf]; omega
                · have HS := Lib.hid (lonL_set f c (m + 1) t d hlt hlt2 (f m (goTo d t)) (pull_more f c m t d hdc))
                  have e2 := D3.out.cellZ (m * 4 + goTo d t) (by rw [length_capM]; omega)
                  rw [capM_get _ _ _ (by omega) hgl] at e2
                  obtain ⟨v, hv⟩ : ∃ v, v = goTo d t := ⟨_, rfl⟩
                  rw [← hv] at HS e2 HT1 hgl
                  obtain ⟨A, hA⟩ : ∃ x, x = min (pTo f c (m + 1) t d) capC := ⟨_, rfl⟩
                  obtain ⟨P, hP⟩ : ∃ x, x = min (f m v) capC := ⟨_, rfl⟩
                  rw [← hA] at HS e1
                  rw [← hP] at HS e2
                  have hA2 : A ≤ 1000000000000001 := by rw [hA]; exact Nat.min_le_right _ _
                  have hP2 : P ≤ 1000000000000001 := by rw [hP]; exact Nat.min_le_right _ _
                  have bdw : Below wr.heap.size wr wr.drew := (Lw.drew1 wr).b
                  have j1 : (0 : Int) ≤ (m : Int) := by omega
                  have j2 : (m : Int) < 61 := by omega
                  have j7 : (0 : Int) ≤ (m : Int) + 1 := by omega
                  have j8 : (m : Int) + 1 < 61 := by omega
                  have j3 : (0 : Int) ≤ (t : Int) := by omega
                  have j4 : (t : Int) < 4 := by omega
                  have j5 : (0 : Int) ≤ (v : Int) := by omega
                  have j6 : (v : Int) < 4 := by omega
                  have eR : min ((A : Int) + (P : Int)) 1000000000000001 = ((min (A + P) capC : Nat) : Int) := by unfold capC; omega
                  have HO2 : Hid (Blk (wr.drew.setCell ⟨g5, (m + 1) * 4 + t, none⟩ (.int .i64 ((min (A + P) capC : Nat) : Int))) g5 91 (cI (lonL f c ((m + 1) * 4 + t) (d + 1)))) := Lib.hid (by rw [← HS.out]; exact (show Blk wr.drew _ _ _ from C3.out).setZ _ _)
                  have HD2 := Lib.hid ((show Blk wr.drew _ _ _ from D3.out).otherZ ((m + 1) * 4 + t) (.int .i64 ((min (A + P) capC : Nat) : Int)) (Ne.symm hne.out.2.1))
                  have HE2 := Lib.hid ((show Blk wr.drew _ _ _ from E3.out).otherZ ((m + 1) * 4 + t) (.int .i64 ((min (A + P) capC : Nat) : Int)) (Ne.symm hne.out.2.2.1))
                  have HF2 := Lib.hid ((F3.out.trans (bdw.mono F3.out.size)).setCell (p := ⟨g5, (m + 1) * 4 + t, none⟩) hne.out.2.2.2.2 (.int .i64 ((min (A + P) capC : Nat) : Int)))
                  obtain ⟨R, hR⟩ : ∃ x, x = min (A + P) capC := ⟨_, rfl⟩
                  rw [← hR] at eR HO2 HD2 HE2 HF2
                  have eI : (if (1000000000000001 : Int) < IntKind.i64.wrap ((A : Int) + (P : Int)) then (1000000000000001 : Int) else IntKind.i64.wrap ((A : Int) + (P : Int))) = (R : Int) := by
                    have ew : IntKind.i64.wrap ((A : Int) + (P : Int)) = (A : Int) + (P : Int) := by rw [IntKind.wrap_i64]; omega
                    rw [ew, ← eR]
                    split <;> omega
                  clear eR
                  clear hv hA hP hR C3 D3 E3 F3 HS hdc
                  go_wp2_with fail
                  go_still_tail 18, (by kernel_rfl)
                  still_call ((HT1.out _).mono fun e w' ⟨he, hw⟩ => ⟨he, hw.symm⟩)
                  repeat still_step
                  refine wpStill_nil ?_
                  change wpList _ _ _ _ _ wr.drew
                  go_wp2
                  go_roundw
                  case rel => exact ⟨_, _, _, _, _, _, _, _, _, _, _, _, _, _, _, _, _, _, _, _, _, _, _, _, _, _, _, _, _, _, _, _, ⟨d + 1, by omega, by go_num, HO2, HD2, HE2, HF2⟩, rfl⟩
                  case measure => simp [intOf]; omega
            · obtain rfl : d = 4 := by omega
              have C4 : Hid (Blk wr g5 91 (cI (lonL f c (m * 4 + (t + 1)) 0))) := Lib.hid (by rw [← Nat.add_assoc, ← HLN.out]; exact C3.out)
              clear C3
              go_wp2
              go_roundw
              case rel => exact ⟨t + 1, by omega, by go_num, C4, D3, E3, F3⟩
              case measure => simp [intOf]; omega
        · obtain rfl : t = 4 := by omega
          have C4 : Hid (Blk wr g5 91 (cI (lonL f c ((m + 1) * 4) 0))) := Lib.hid (by rw [show (m + 1) * 4 = m * 4 + 4 from by omega]; exact C2.out)
          clear C2
          go_wp2
          go_roundw
          case rel => exact ⟨m + 1, by omega, by go_num, C4, D2, E2, F2⟩
          case measure => simp [intOf]; omega
    · obtain rfl : m = 61 := by omega
      have C4 : Hid (Blk wr g5 91 (cI (capM (nextF f c)))) := Lib.hid (by rw [← HLA.out]; exact C1.out)
      clear C1
      go_wp2_with (refine wpList_loadAll 91 _ rfl rfl g5 _ (cI (capM (nextF f c))) _ Tryd.underlying91 rfl 244 Tryd.size_ways rfl C4 (by rw [length_cI, length_capM]) ?_)
      refine ⟨?_⟩
      go_wp2_with (refine wpList_storeAll 91 _ _ rfl rfl g4 _ (cI (List.replicate 244 0)) (cI (capM (nextF f c))) 244 Tryd.size_ways rfl rfl E1 (by rw [length_cI, length_capM]) (by rw [length_cI, List.length_replicate]) (cI_one _) ?_; intro w4 R4 L4)
      refine ⟨?_⟩
      go_wp2
      refine ret_cell 4 91 (by kernel_rfl) g4 _ (cI (capM (nextF f c))) _ Tryd.underlying91 rfl 244 Tryd.size_ways rfl R4.out (by rw [length_cI, length_capM]) rfl ?_
      exact ⟨rfl, grownBy_below F1.out L4.out (Nat.le_refl _) hne.out.2.2.2.1⟩

end Go.Proofs.YtjbomclildkjaaaDoor
