/- Chapter 6, the program: saddles, SaddlePlaces. -/
import Derived.Test.YtcljhjfmhnmgnaaKh
import Derived.Test.YtcljhjfmhnmgnaaAny
namespace Go.Proofs.Ytcljhjfmhnmgnaa
open Go.ChangeShapes Go.WideShapes Go.ChangeAt Go.RowKit
open Fi

structure SadIV (w0 : World) (g1 : Nat) (bs : List Int) (zss : List (List Int)) (R C : Nat) (l : Array Bool) (ww : World) (v4 v5 v9 v10 v11 v12 v13 : Value) : Prop where
  f0 : l.getD 0 false = true → v9 = .agg (cellsI bs).toArray
  f1 : l.getD 1 false = true → Own ww w0.heap.size v10 (ofL leastL zss R)
  f2 : l.getD 2 false = true → v11 = .agg (cellsI bs).toArray
  f3 : l.getD 3 false = true → ∃ ts, v12 = .agg (cellsI ts).toArray ∧ IsZ ts (turnL zss) C R
  f4 : l.getD 4 false = true → Own ww w0.heap.size v13 (ofL mostL (turnL zss) C)
  f5 : l.getD 5 false = true → Own ww w0.heap.size v4 (ofL leastL zss R)
  f6 : l.getD 6 false = true → Own ww w0.heap.size v5 (ofL mostL (turnL zss) C)
def SadI (w0 : World) (g1 : Nat) (bs : List Int) (zss : List (List Int)) (R C : Nat) (l : Array Bool) (a : Act) (w : World) : Prop :=
  ∃ v4 v5 v9 v10 v11 v12 v13 : Value, a = { tmps := List.toArray (Value.agg (cellsI bs).toArray :: Value.pointer (some ⟨g1, 0, none⟩) :: Value.slice none 0 0 :: Value.slice none 0 0 :: v4 :: v5 :: undef :: undef :: undef :: v9 :: v10 :: v11 :: v12 :: v13 :: undef :: undef :: undef :: undef :: undef :: undef :: undef :: undef :: undef :: undef :: undef :: undef :: undef :: undef :: undef :: undef :: undef :: undef :: undef :: undef :: undef :: undef :: undef :: undef :: undef :: undef :: undef :: undef :: undef :: undef :: undef :: undef :: undef :: undef :: undef :: undef :: undef :: undef :: undef :: []), defers := [] } ∧ Hid (SadIV w0 g1 bs zss R C l w v4 v5 v9 v10 v11 v12 v13) ∧ Hid (Below w0.heap.size w0 w)

set_option maxRecDepth 20000 in
set_option maxHeartbeats 4000000 in
theorem saddles_any (w : World) (bs : List Int) (zss : List (List Int)) (R C : Nat) (h : IsZ bs zss R C) :
    Calls Try.prog 49 #[.agg (cellsI bs).toArray] w fun e w' => ∃ v, e = .returned v ∧ OwnSS w' w.heap.size v (sadTo zss R) ∧ Below w.heap.size w w' := by
  have HI := Lib.hid h
  have hfl := isB_len h.is
  have hr1 := h.good.r1
  have hr8 := h.good.r8
  have hc1 := h.good.c1
  have hc8 := h.good.c8
  have HRC : Hid ((row zss 0).length = C) := Lib.hid (h.good.cols 0 hr1)
  have HIS := Lib.hid h.is
  have HLR : Hid ((ofL leastL zss R).length = R ∧ ∀ k, k < R → (ofL leastL zss R).getD k 0 = leastL (row zss k)) := Lib.hid ⟨length_upTo _ _, fun k hk => getD_upTo _ _ _ hk⟩
  have HLC : Hid ((ofL mostL (turnL zss) C).length = C ∧ ∀ k, k < C → (ofL mostL (turnL zss) C).getD k 0 = mostL ((turnL zss).getD k [])) := Lib.hid ⟨length_upTo _ _, fun k hk => getD_upTo _ _ _ hk⟩
  have HSR : Hid (∀ i, sadTo zss (i + 1) = sadTo zss i ++ sadRow zss i C) := Lib.hid (fun i => by rw [← HRC.out]; rfl)
  have HSM : Hid (∀ i, (sadTo zss i).length ≤ i * C) := Lib.hid (fun i => by rw [← HRC.out]; exact (sadTo_mem zss i).1)
  clear h
  go_enter Try.func49, Try.ntmps49
  go_wp2_with (refine wpList_box 42 _ rfl rfl (cellsI bs) rfl ?_; intro w1 g1 G1 B1 L1)
  refine ⟨?_⟩
  have LA : Hid (Below w.heap.size w w1) := L1
  clear G1 L1
  go_wp2_with fail
  refine wp_region_inv (by kernel_rfl) (SadI w1 g1 bs zss R C) (by kernel_rfl) ?_ ?_ ?_
  · exact ⟨_, _, _, _, _, _, _, rfl, Lib.hid ⟨fun h => by simp at h, fun h => by simp at h, fun h => by simp at h, fun h => by simp at h, fun h => by simp at h, fun h => by simp at h, fun h => by simp at h⟩, Lib.hid ⟨rfl, rfl, rfl, Nat.le_refl _, fun _ _ => rfl⟩⟩
  · intro i o l a w' ho hsz hl hdep hI
    obtain ⟨v4, v5, v9, v10, v11, v12, v13, rfl, HV, BL⟩ := hI
    clear hsz hl
    match i, ho with
    | 0, ho =>
      obtain rfl := Option.some.inj ho
      clear hdep ho
      refine wpList_loadAll 42 _ rfl rfl g1 _ (cellsI bs) _ Try.underlying42 rfl 66 Try.size_block rfl (Lib.hid (B1.out.below BL.out B1.out.lt)) hfl ?_
      refine ⟨?_⟩
      go_wp2
      exact ⟨v4, v5, _, v10, v11, v12, v13, rfl, Lib.hid ⟨fun _ => rfl, fun h => HV.out.f1 (ung (by decide) h), fun h => HV.out.f2 (ung (by decide) h), fun h => HV.out.f3 (ung (by decide) h), fun h => HV.out.f4 (ung (by decide) h), fun h => HV.out.f5 (ung (by decide) h), fun h => HV.out.f6 (ung (by decide) h)⟩, BL⟩
    | 1, ho =>
      obtain rfl := Option.some.inj ho
      obtain rfl := HV.out.f0 (hdep ⟨0, .data⟩ (by simp) rfl)
      clear hdep ho
      go_wp2_with fail
      go_at_call 62
      refine (ofRows_shortest _ bs _ _ _ HI.out).mono ?_
      rintro e w2 ⟨v, rfl, o2, b2⟩
      have O2 := Lib.hid (o2.mono BL.out.size)
      clear o2
      have B2 : Hid (Below w1.heap.size w1 w2) := Lib.hid (BL.out.trans (b2.mono BL.out.size))
      have HBB := Lib.hid b2
      clear b2
      go_wp2
      exact ⟨v4, v5, _, _, v11, v12, v13, rfl, Lib.hid ⟨fun h => HV.out.f0 (ung (by decide) h), fun _ => O2.out, fun h => HV.out.f2 (ung (by decide) h), fun h => HV.out.f3 (ung (by decide) h), fun h => ((HV.out.f4 (ung (by decide) h))).below HBB.out (Nat.le_refl _), fun h => ((HV.out.f5 (ung (by decide) h))).below HBB.out (Nat.le_refl _), fun h => ((HV.out.f6 (ung (by decide) h))).below HBB.out (Nat.le_refl _)⟩, B2⟩
    | 2, ho =>
      obtain rfl := Option.some.inj ho
      clear hdep ho
      refine wpList_loadAll 42 _ rfl rfl g1 _ (cellsI bs) _ Try.underlying42 rfl 66 Try.size_block rfl (Lib.hid (B1.out.below BL.out B1.out.lt)) hfl ?_
      refine ⟨?_⟩
      go_wp2
      exact ⟨v4, v5, v9, v10, _, v12, v13, rfl, Lib.hid ⟨fun h => HV.out.f0 (ung (by decide) h), fun h => HV.out.f1 (ung (by decide) h), fun _ => rfl, fun h => HV.out.f3 (ung (by decide) h), fun h => HV.out.f4 (ung (by decide) h), fun h => HV.out.f5 (ung (by decide) h), fun h => HV.out.f6 (ung (by decide) h)⟩, BL⟩
    | 3, ho =>
      obtain rfl := Option.some.inj ho
      obtain rfl := HV.out.f2 (hdep ⟨2, .data⟩ (by simp) rfl)
      clear hdep ho
      go_wp2_with fail
      go_at_call 41
      refine (turnedB_any _ bs _ _ _ HI.out).mono ?_
      rintro e w2 ⟨us, rfl, hi2, b2⟩
      have HI2 := Lib.hid hi2
      clear hi2
      have B2 : Hid (Below w1.heap.size w1 w2) := Lib.hid (BL.out.trans (b2.mono BL.out.size))
      have HBB := Lib.hid b2
      clear b2
      go_wp2
      exact ⟨v4, v5, v9, v10, _, _, v13, rfl, Lib.hid ⟨fun h => HV.out.f0 (ung (by decide) h), fun h => ((HV.out.f1 (ung (by decide) h))).below HBB.out (Nat.le_refl _), fun h => HV.out.f2 (ung (by decide) h), fun _ => ⟨us, rfl, HI2.out⟩, fun h => ((HV.out.f4 (ung (by decide) h))).below HBB.out (Nat.le_refl _), fun h => ((HV.out.f5 (ung (by decide) h))).below HBB.out (Nat.le_refl _), fun h => ((HV.out.f6 (ung (by decide) h))).below HBB.out (Nat.le_refl _)⟩, B2⟩
    | 4, ho =>
      obtain rfl := Option.some.inj ho
      obtain ⟨ts, rfl, hts⟩ := HV.out.f3 (hdep ⟨3, .data⟩ (by simp) rfl)
      clear hdep ho
      have HTS := Lib.hid hts
      clear hts
      go_wp2_with fail
      go_at_call 62
      refine (ofRows_tallest _ ts _ _ _ HTS.out).mono ?_
      rintro e w2 ⟨v, rfl, o2, b2⟩
      have O2 := Lib.hid (o2.mono BL.out.size)
      clear o2
      have B2 : Hid (Below w1.heap.size w1 w2) := Lib.hid (BL.out.trans (b2.mono BL.out.size))
      have HBB := Lib.hid b2
      clear b2
      go_wp2
      exact ⟨v4, v5, v9, v10, v11, _, _, rfl, Lib.hid ⟨fun h => HV.out.f0 (ung (by decide) h), fun h => ((HV.out.f1 (ung (by decide) h))).below HBB.out (Nat.le_refl _), fun h => HV.out.f2 (ung (by decide) h), fun h => HV.out.f3 (ung (by decide) h), fun _ => O2.out, fun h => ((HV.out.f5 (ung (by decide) h))).below HBB.out (Nat.le_refl _), fun h => ((HV.out.f6 (ung (by decide) h))).below HBB.out (Nat.le_refl _)⟩, B2⟩
    | 5, ho =>
      obtain rfl := Option.some.inj ho
      obtain o10 := HV.out.f1 (hdep ⟨1, .data⟩ (by simp) rfl)
      clear hdep ho
      have HO10 := Lib.hid o10
      clear o10
      go_wp2
      exact ⟨_, v5, v9, _, v11, v12, v13, rfl, Lib.hid ⟨fun h => HV.out.f0 (ung (by decide) h), fun h => HV.out.f1 (ung (by decide) h), fun h => HV.out.f2 (ung (by decide) h), fun h => HV.out.f3 (ung (by decide) h), fun h => HV.out.f4 (ung (by decide) h), fun _ => HO10.out, fun h => HV.out.f6 (ung (by decide) h)⟩, BL⟩
    | 6, ho =>
      obtain rfl := Option.some.inj ho
      obtain o13 := HV.out.f4 (hdep ⟨4, .data⟩ (by simp) rfl)
      clear hdep ho
      have HO13 := Lib.hid o13
      clear o13
      go_wp2
      exact ⟨v4, _, v9, v10, v11, v12, _, rfl, Lib.hid ⟨fun h => HV.out.f0 (ung (by decide) h), fun h => HV.out.f1 (ung (by decide) h), fun h => HV.out.f2 (ung (by decide) h), fun h => HV.out.f3 (ung (by decide) h), fun h => HV.out.f4 (ung (by decide) h), fun h => HV.out.f5 (ung (by decide) h), fun _ => HO13.out⟩, BL⟩
    | i + 7, ho => simp at ho
  · intro l a w2 hall hI
    obtain ⟨v4, v5, v9, v10, v11, v12, v13, rfl, HV, BL⟩ := hI
    obtain rfl := HV.out.f0 (hall 0 (by decide))
    obtain o10 := HV.out.f1 (hall 1 (by decide))
    obtain rfl := HV.out.f2 (hall 2 (by decide))
    obtain ⟨ts, rfl, hts⟩ := HV.out.f3 (hall 3 (by decide))
    obtain o13 := HV.out.f4 (hall 4 (by decide))
    obtain o4 := HV.out.f5 (hall 5 (by decide))
    obtain o5 := HV.out.f6 (hall 6 (by decide))
    clear hall HV
    have LB : Hid (Below w.heap.size w w2) := Lib.hid (LA.out.trans (BL.out.mono LA.out.size))
    obtain ⟨a4, c4, rfl, hc4, _⟩ := o4.cameC
    obtain ⟨a5, c5, rfl, hc5, _⟩ := o5.cameC
    rw [HLR.out.1] at hc4 ⊢
    rw [HLC.out.1] at hc5 ⊢
    have HC4 := Lib.hid hc4
    have HC5 := Lib.hid hc5
    have HBK : Hid (Blk w2 g1 42 (cellsI bs)) := Lib.hid (B1.out.below BL.out B1.out.lt)
    have c64 : w2.cell? ⟨g1, 64, none⟩ = some (.int .i64 (R : Int)) := by rw [HBK.out.celI 64 (by rw [HIS.out.len]; omega), HIS.out.rows]
    clear o4 o5 o10 o13 hts hc4 hc5 B1 BL LA
    go_wp2
    go_loopw [3, 16] (fun v i wr => ∃ k : Nat, k ≤ R ∧ i = .int .i64 k ∧ Hid (OwnSS wr w2.heap.size v (sadTo zss k)) ∧ Hid (Below w2.heap.size w2 wr)) (fun _ i _ => R - (intOf i).toNat)
    case atStart => exact ⟨0, Nat.zero_le _, rfl, Lib.hid (ownSS_nil _ _), Lib.hid (Below.refl _ _)⟩
    case round =>
      obtain ⟨k, hk, rfl, HO, HB⟩ := hrel
      clear c64
      by_cases hlt : k < R
      · have c65 : wr.cell? ⟨g1, 65, none⟩ = some (.int .i64 (C : Int)) := by rw [(HBK.out.below HB.out HBK.out.lt).celI 65 (by rw [HIS.out.len]; omega), HIS.out.cols]
        have HO0 : Hid (OwnSS wr w2.heap.size _ (sadTo zss k ++ sadRow zss k 0)) := Lib.hid (by rw [sadRow, List.append_nil]; exact HO.out)
        have HY := Lib.hid (HLR.out.2 k hlt)
        have i3 : (0 : Int) ≤ (k : Int) := by omega
        have i4 : (k : Int) < (R : Int) := by omega
        have i5 : (k : Int) < 8 := by omega
        have hbm : (sadTo zss k).length ≤ 64 := by have := HSM.out k; have := Nat.mul_le_mul (show k ≤ 8 by omega) hc8; omega
        obtain ⟨b4, f4, ha4, hcell4⟩ := HC4.out.2 hr1
        subst ha4
        have HX4 := Lib.hid (fun (w5 : World) (h5 : Below w2.heap.size w2 w5) => (h5.cell (World.block_lt_of_cell? w2 _ (hcell4 k hlt))).trans (hcell4 k hlt))
        obtain ⟨y, hy⟩ : ∃ y, y = (ofL leastL zss R).getD k 0 := ⟨_, rfl⟩
        rw [← hy] at HX4 HY
        clear hcell4 hy HO
        go_wp2
        go_loopw [3, 21] (fun v i wr => ∃ j : Nat, j ≤ C ∧ i = .int .i64 j ∧ Hid (OwnSS wr w2.heap.size v (sadTo zss k ++ sadRow zss k j)) ∧ Hid (Below w2.heap.size w2 wr)) (fun _ i _ => C - (intOf i).toNat)
        case atStart => exact ⟨0, Nat.zero_le _, rfl, HO0, HB⟩
        case round =>
          obtain ⟨j, hj, rfl, HO, HB4⟩ := hrel
          clear HO0 HB c65
          by_cases hlt2 : j < C
          · have c1 : wr.cell? ⟨g1, k * 8 + j, none⟩ = some (.int .i64 (bs.getD (k * 8 + j) 0)) := (HBK.out.below HB4.out HBK.out.lt).celI (k * 8 + j) (by rw [HIS.out.len]; omega)
            rw [HIS.out.at' k j hlt hlt2 trivial] at c1
            have c4' := HX4.out wr HB4.out
            obtain ⟨b5, f5, ha5, hcell5⟩ := HC5.out.2 hc1
            subst ha5
            have c5' := (HB4.out.cell (World.block_lt_of_cell? w2 _ (hcell5 j hlt2))).trans (hcell5 j hlt2)
            have HP := Lib.hid (HLC.out.2 j hlt2)
            obtain ⟨p, hp⟩ : ∃ x, x = (ofL mostL (turnL zss) C).getD j 0 := ⟨_, rfl⟩
            rw [← hp] at c5' HP
            have HSB : Hid (sadB zss k j = (decide (fOf zss k j = y) && decide (fOf zss k j = p))) := Lib.hid (by unfold sadB; rw [HY.out, HP.out]; rfl)
            have HRS : Hid (sadRow zss k (j + 1) = if sadB zss k j then sadRow zss k j ++ [[(k : Int), (j : Int)]] else sadRow zss k j) := Lib.hid rfl
            obtain ⟨z, hz⟩ : ∃ z, z = fOf zss k j := ⟨_, rfl⟩
            rw [← hz] at c1 HSB
            have i6 : (0 : Int) ≤ (j : Int) := by omega
            have i7 : (j : Int) < (C : Int) := by omega
            have i8 : (j : Int) < 8 := by omega
            have hz4 := HB4.out.size
            have hbl : (sadTo zss k ++ sadRow zss k j).length ≤ 1000000000 := by have := (sadRow_mem zss k j).1; rw [List.length_append]; omega
            clear hcell5 hp hz
            by_cases h1 : z = y
            · have g1' : (z == y) = true := by rw [beq_iff_eq]; exact h1
              by_cases h2 : z = p
              · have g2' : (z == p) = true := by rw [beq_iff_eq]; exact h2
                have HS : Hid (sadTo zss k ++ sadRow zss k (j + 1) = (sadTo zss k ++ sadRow zss k j) ++ [[(k : Int), (j : Int)]]) := Lib.hid (by rw [HRS.out, HSB.out, decide_eq_true h1, decide_eq_true h2, List.append_assoc]; rfl)
                clear h1 h2
                go_wp2_with (at_builtin; refine wpList_appRow rfl _ _ rfl _ wr _ _ _ _ _ _ rfl rfl (by simp) HO.out ((Below.refl _ _).alloc (Nat.le_refl _) _) (own_two wr _ _) hz4 hbl ?_; intro v' w5 hO hB5)
                have HO5 : Hid (OwnSS w5 w2.heap.size v' (sadTo zss k ++ sadRow zss k (j + 1))) := Lib.hid (by rw [HS.out]; exact hO)
                have HB5 : Hid (Below w2.heap.size w2 w5) := Lib.hid ((HB4.out.alloc hz4 _).trans hB5)
                clear hO hB5
                go_wp2
                go_roundw
                case rel => exact ⟨j + 1, by omega, by go_num, HO5, HB5⟩
                case measure => simp [intOf]; omega
              · have g2' : (z == p) = false := by rw [beq_eq_false_iff_ne]; exact h2
                have HS : Hid (sadTo zss k ++ sadRow zss k (j + 1) = (sadTo zss k ++ sadRow zss k j)) := Lib.hid (by rw [HRS.out, HSB.out, decide_eq_false h2, Bool.and_false]; rfl)
                clear h1 h2
                go_wp2
                go_roundw
                case rel => exact ⟨j + 1, by omega, by go_num, Lib.hid (by rw [HS.out]; exact HO.out), HB4⟩
                case measure => simp [intOf]; omega
            · have g1' : (z == y) = false := by rw [beq_eq_false_iff_ne]; exact h1
              have HS : Hid (sadTo zss k ++ sadRow zss k (j + 1) = (sadTo zss k ++ sadRow zss k j)) := Lib.hid (by rw [HRS.out, HSB.out, decide_eq_false h1, Bool.false_and]; rfl)
              clear h1
              go_wp2
              go_roundw
              case rel => exact ⟨j + 1, by omega, by go_num, Lib.hid (by rw [HS.out]; exact HO.out), HB4⟩
              case measure => simp [intOf]; omega
          · obtain rfl : j = C := by omega
            have HO5 : Hid (OwnSS wr w2.heap.size _ (sadTo zss (k + 1))) := Lib.hid (by rw [HSR.out]; exact HO.out)
            clear HO
            go_wp2
            go_roundw
            case rel => exact ⟨k + 1, by omega, by go_num, HO5, HB4⟩
            case measure => simp [intOf]; omega
      · obtain rfl : k = R := by omega
        go_wp2
        go_ret
        exact ⟨_, rfl, HO.out.mono LB.out.size, LB.out.trans (HB.out.mono LB.out.size)⟩

set_option maxRecDepth 20000 in
set_option maxHeartbeats 1000000 in
theorem of_SaddlePlaces (w : World) (a : Option Addr) (len cap : Nat) (zss : List (List Int)) (hf : LenSS zss) (hc : CameSS w a len zss) :
    Calls Try.prog 48 #[.slice a len cap, .func (.func 49) #[] #[]] w fun e w' => ∃ v0, e = .returned (.tuple #[v0, .bool (outSaddlePlaces_1 zss)]) ∧ OwnSS w' w.heap.size v0 (outSaddlePlaces_0 zss) ∧ Below w.heap.size w w' := by
  have HG := Lib.hid (areFiles_any w a len cap zss hf hc)
  rcases hb : goodF zss with _ | _
  · have H0 : Hid (outSaddlePlaces_0 zss = [] ∧ outSaddlePlaces_1 zss = false) := Lib.hid (by unfold outSaddlePlaces_0 outSaddlePlaces_1; rw [hb]; exact ⟨rfl, rfl⟩)
    rw [hb] at HG
    clear hb hc hf
    go_enter Try.func48, Try.ntmps48
    go_wp2_with (go_at_call 24; refine HG.out.mono ?_; rintro e w' ⟨rfl, rfl⟩)
    go_ret2
    exact ⟨_, by rw [H0.out.2]; exact rfl, by rw [H0.out.1]; exact ownSS_nil _ _, Below.refl _ _⟩
  · have g := good_of hb
    have H0 : Hid (outSaddlePlaces_0 zss = sadTo zss zss.length ∧ outSaddlePlaces_1 zss = true) := Lib.hid (by unfold outSaddlePlaces_0 outSaddlePlaces_1; rw [hb]; exact ⟨rfl, rfl⟩)
    have HBL := Lib.hid (blockOf_any w a len cap zss _ _ g hc)
    rw [hb] at HG
    clear hb hc hf g
    go_enter Try.func48, Try.ntmps48
    go_wp2_with fail
    go_at_call 24
    refine HG.out.mono ?_
    rintro e w' ⟨rfl, rfl⟩
    go_wp2_with fail
    go_at_call 60
    refine HBL.out.mono ?_
    rintro e w2 ⟨bs, rfl, hi, b2⟩
    have HI := Lib.hid hi
    have L2 := Lib.hid b2
    clear hi b2 HBL
    go_wp2_with fail
    go_at_call 49
    refine (saddles_any w2 bs _ _ _ HI.out).mono ?_
    rintro e w3 ⟨v3, rfl, o3, b3⟩
    have L3 : Hid (Below w.heap.size w w3) := Lib.hid (L2.out.trans (b3.mono L2.out.size))
    have O3 := Lib.hid (o3.mono L2.out.size)
    clear b3 o3
    go_wp2
    go_ret2
    exact ⟨_, by rw [H0.out.2]; exact rfl, by rw [H0.out.1]; exact O3.out, L3.out⟩
set_option maxRecDepth 20000 in
set_option maxHeartbeats 400000 in
theorem implSaddlePlaces_any (w : World) (a : Option Addr) (len cap : Nat) (zss : List (List Int)) (hf : LenSS zss) (hc : CameSS w a len zss) :
    Calls Try.prog 21 #[.slice a len cap] w fun e w' => ∃ v0, e = .returned (.tuple #[v0, .bool (outSaddlePlaces_1 zss)]) ∧ OwnSS w' w.heap.size v0 (outSaddlePlaces_0 zss) ∧ Below w.heap.size w w' := by
  have HO := Lib.hid (of_SaddlePlaces w a len cap zss hf hc)
  clear hf hc
  obtain ⟨x0, hx0⟩ : ∃ x, x = outSaddlePlaces_0 zss := ⟨_, rfl⟩
  obtain ⟨x1, hx1⟩ : ∃ x, x = outSaddlePlaces_1 zss := ⟨_, rfl⟩
  rw [← hx0, ← hx1] at HO ⊢
  clear hx0 hx1
  go_enter Try.func21, Try.ntmps21
  go_wp2_with fail
  go_at_call 48
  refine HO.out.mono ?_
  rintro e w2 ⟨v, rfl, o2, b2⟩
  have B2 := Lib.hid b2
  have O2 := Lib.hid o2
  clear b2 o2
  go_wp2
  go_ret2
  exact ⟨_, rfl, O2.out, B2.out⟩

end Go.Proofs.Ytcljhjfmhnmgnaa
