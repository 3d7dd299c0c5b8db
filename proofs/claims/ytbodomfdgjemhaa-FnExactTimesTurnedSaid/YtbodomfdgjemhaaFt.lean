/- Chapter 3, the program's formations: formationOf, turned, TurnFormation, TimesTurned. -/
import Derived.Test.YtbodomfdgjemhaaArr
import Derived.Test.YtbodomfdgjemhaaClone
import Derived.Test.YtbodomfdgjemhaaFoO
namespace Go.Proofs.Ytbodomfdgjemhaa
open Go.ChangeShapes Go.WideShapes Go.ChangeAt Go.RowKit
open Fo

theorem sides_div {r c : Int} (h1 : 1 ≤ r) (h2 : 1 ≤ c) : sidesB r c = decide (r ≤ 200 / c) := by
  have h3 : r ≤ 200 / c ↔ r * c ≤ 200 := Int.le_ediv_iff_mul_le (by omega)
  unfold sidesB
  by_cases h : r ≤ 200 / c
  · have h4 := h3.1 h
    have h5 : 1 * c ≤ r * c := Int.mul_le_mul_of_nonneg_right h1 (by omega)
    have h6 : r * 1 ≤ r * c := Int.mul_le_mul_of_nonneg_left h2 (by omega)
    rw [decide_eq_true h, inB_of ⟨h1, by omega⟩, inB_of ⟨h2, by omega⟩, decide_eq_true h4]
    rfl
  · rw [decide_eq_false h, decide_eq_false (fun e => h (h3.2 e))]
    simp
theorem sides_no1 {r c : Int} (h : ¬ 1 ≤ r) : sidesB r c = false := by unfold sidesB; rw [inB_no (fun e => h e.1)]; rfl
theorem sides_no2 {r c : Int} (h : ¬ 1 ≤ c) : sidesB r c = false := by unfold sidesB; rw [inB_no (n := c) (fun e => h e.1)]; simp
set_option maxHeartbeats 1000000 in
theorem canBeTurned_any (r c : Int) (w : World) :
    Calls Try.prog 54 #[.int .i64 r, .int .i64 c] w fun e w' => e = .returned (.bool (sidesB r c)) ∧ w = w' := by
  by_cases h1 : 1 ≤ r
  · by_cases h2 : 1 ≤ c
    · have HB := sides_div h1 h2
      have hc0 : ¬ c = 0 := by omega
      have h3 : 0 ≤ 200 / c := Int.ediv_nonneg (by omega) (by omega)
      have h4 : 200 / c ≤ 200 := Int.ediv_le_self _ (by omega)
      by_cases h : r ≤ 200 / c
      · have HE : Hid (sidesB r c = true) := Lib.hid (by rw [HB, decide_eq_true h])
        clear HB
        go_enter Try.func54, Try.ntmps54
        go_wp2
        go_ret
        exact ⟨ret_bool (by rw [HE.out]), rfl⟩
      · have HE : Hid (sidesB r c = false) := Lib.hid (by rw [HB, decide_eq_false h])
        clear HB
        go_enter Try.func54, Try.ntmps54
        go_wp2
        go_ret
        exact ⟨ret_bool (by rw [HE.out]), rfl⟩
    · have HE : Hid (sidesB r c = false) := Lib.hid (sides_no2 h2)
      go_enter Try.func54, Try.ntmps54
      go_wp2
      go_ret
      exact ⟨ret_bool (by rw [HE.out]), rfl⟩
  · have HE : Hid (sidesB r c = false) := Lib.hid (sides_no1 h1)
    go_enter Try.func54, Try.ntmps54
    go_wp2
    go_ret
    exact ⟨ret_bool (by rw [HE.out]), rfl⟩

def zeros : List Int := fillTo (fun _ => 0) 200 0
def told (f : Nat → Int) (n : Nat) : List Int := fillTo f 200 n
theorem length_told (f : Nat → Int) (n : Nat) (h : n ≤ 200) : (told f n).length = 200 := length_fillTo f 200 n h
theorem told_zero (f : Nat → Int) : told f 0 = zeros := by unfold told zeros; rw [fillTo_zero, fillTo_zero]
theorem length_zeros : zeros.length = 200 := length_fillTo _ _ _ (by omega)
theorem told_succ (f : Nat → Int) (k : Nat) (x : Int) (hk : k < 200) (hx : x = f k) : (told f k).set k x = told f (k + 1) := by rw [hx]; exact fillTo_succ f 200 k hk
set_option maxRecDepth 100000 in
theorem Try.info_formation : (Try.prog.info? 44).map (fun i => (i.zero, i.size)) = some (some (.agg (cellsI zeros).toArray), 200) := by kernel_rfl
theorem Try.size_formation : (Try.prog.info? 44).map (·.size) = some 200 := by kernel_rfl

set_option maxHeartbeats 1000000 in
theorem formationOf_any (n : Nat) (hn : n ≤ 200) (w : World) :
    Calls Try.prog 55 #[.int .i64 n] w fun e w' => e = .returned (.agg (cellsI (told (fun i : Nat => (i : Int)) n)).toArray) ∧ Below w.heap.size w w' := by
  go_enter Try.func55, Try.ntmps55
  go_wp2_with (refine wpList_new 44 rfl rfl _ _ Try.info_formation ?_; intro w1 g1 G1 B1 L1)
  refine ⟨?_⟩
  go_wp2_with (refine wpList_new 44 rfl rfl _ _ Try.info_formation ?_; intro w2 g2 G2 B2 L2)
  refine ⟨?_⟩
  have g12 : Hid (g1 ≠ g2) := Lib.hid (by have := G2.out; have := B1.out.lt; omega)
  have g2l : Hid (w.heap.size ≤ g2) := Lib.hid (by have := G2.out; have := L1.out.size; omega)
  have g1l : Hid (w.heap.size ≤ g1) := Lib.hid (by have := G1.out; omega)
  have LA : Hid (Below w.heap.size w w2) := L1.out.trans (L2.out.mono L1.out.size)
  have B1' : Hid (Blk w2 g1 44 (cellsI zeros)) := Lib.hid (B1.out.below L2.out B1.out.lt)
  have B2' : Hid (Blk w2 g2 44 (cellsI (told (fun i : Nat => (i : Int)) 0))) := by rw [told_zero]; exact B2
  clear G1 G2 L1 L2 B1 B2
  go_wp2
  go_loopw [6] (fun i wr => ∃ k : Nat, k ≤ n ∧ i = .int .i64 (k : Int) ∧ Hid (Blk wr g2 44 (cellsI (told (fun i : Nat => (i : Int)) k))) ∧ Hid (Blk wr g1 44 (cellsI zeros)) ∧ Hid (Below w.heap.size w wr)) (fun i _ => n - (intOf i).toNat)
  case atStart => exact ⟨0, Nat.zero_le _, rfl, B2', B1', LA⟩
  case round =>
    obtain ⟨k, hk, rfl, HO, HZ, HB⟩ := hrel
    by_cases hlt : k < n
    · have e1 := HO.out.celI k (by rw [length_told _ _ (by omega)]; omega)
      have f1 := HO.out.free k
      have HO2 : Hid (Blk (wr.setCell ⟨g2, k, none⟩ (.int .i64 (k : Int))) g2 44 (cellsI (told (fun i : Nat => (i : Int)) (k + 1)))) := Lib.hid (by
        rw [← told_succ (fun i : Nat => (i : Int)) k (k : Int) (by omega) rfl]; exact HO.out.setI k _)
      have HZ2 : Hid (Blk (wr.setCell ⟨g2, k, none⟩ (.int .i64 (k : Int))) g1 44 (cellsI zeros)) := Lib.hid (HZ.out.grown (set_grown _ _ _ _) (fun e => g12.out (Option.some.inj e).symm))
      have HB2 : Hid (Below w.heap.size w (wr.setCell ⟨g2, k, none⟩ (.int .i64 (k : Int)))) := Lib.hid (HB.out.setCell g2l.out _)
      obtain ⟨z, hz⟩ : ∃ z, z = (told (fun i : Nat => (i : Int)) k).getD k 0 := ⟨_, rfl⟩
      rw [← hz] at e1
      have i1 : (0 : Int) ≤ (k : Int) := by omega
      have i2 : (k : Int) < 200 := by omega
      clear hz
      go_wp2
      go_roundw
      case rel => exact ⟨k + 1, by omega, by go_num, HO2, HZ2, HB2⟩
      case measure => simp [intOf]; omega
    · obtain rfl : k = n := by omega
      go_wp2_with (refine wpList_loadAll 44 _ rfl rfl g2 _ (cellsI (told (fun i : Nat => (i : Int)) k)) _ Try.underlying44 rfl 200 Try.size_formation rfl HO (by rw [length_cellsI, length_told _ _ hn]) ?_)
      refine ⟨?_⟩
      go_wp2_with (refine wpList_storeAll 44 _ _ rfl rfl g1 _ (cellsI zeros) (cellsI (told (fun i : Nat => (i : Int)) k)) 200 Try.size_formation rfl rfl HZ (by rw [length_cellsI, length_told _ _ hn]) (by rw [length_cellsI, length_zeros]) (cellsI_one _) ?_; intro w5 B5 L5)
      refine ⟨?_⟩
      go_wp2
      refine ret_cell 2 44 (by kernel_rfl) g1 _ (cellsI (told (fun i : Nat => (i : Int)) k)) _ Try.underlying44 rfl 200 Try.size_formation rfl B5.out (by rw [length_cellsI, length_told _ _ hn]) rfl ?_
      exact ⟨rfl, grownBy_below HB.out L5.out (Nat.le_refl _) g1l.out⟩

/-- a formation that is turned once more -/
def turnedF (R C : Nat) (f : List Int) : Nat → Int := fun j => f.getD (turnAt R C j) 0
set_option maxHeartbeats 4000000 in
theorem turnedOf_any (R C : Nat) (h1 : 1 ≤ R) (h3 : 1 ≤ C) (h5 : R * C ≤ 200) (f : List Int) (hf : f.length = 200) (w : World) :
    Calls Try.prog 56 #[.agg (cellsI f).toArray, .int .i64 R, .int .i64 C] w fun e w' => e = .returned (.agg (cellsI (told (turnedF R C f) (C * R))).toArray) ∧ Below w.heap.size w w' := by
  have hR : R ≤ 200 := Nat.le_trans (Nat.le_mul_of_pos_right R h3) h5
  have hC : C ≤ 200 := Nat.le_trans (Nat.le_mul_of_pos_left C h1) h5
  have HF := Lib.hid hf
  have H5 : Hid (C * R ≤ 200) := Lib.hid (by rw [Nat.mul_comm]; exact h5)
  have H6 := Lib.hid h5
  obtain ⟨F, hF⟩ : ∃ F, F = turnedF R C f := ⟨_, rfl⟩
  have HFF := Lib.hid hF
  rw [← hF]
  clear hF hf h5
  go_enter Try.func56, Try.ntmps56
  go_wp2_with (refine wpList_box 44 _ rfl rfl (cellsI f) rfl ?_; intro w0 g0 G0 B0 L0)
  refine ⟨?_⟩
  go_wp2_with (refine wpList_new 44 rfl rfl _ _ Try.info_formation ?_; intro w1 g1 G1 B1 L1)
  refine ⟨?_⟩
  go_wp2_with (refine wpList_new 44 rfl rfl _ _ Try.info_formation ?_; intro w2 g2 G2 B2 L2)
  refine ⟨?_⟩
  have g12 : Hid (g1 ≠ g2 ∧ g0 ≠ g2) := Lib.hid (by have := G2.out; have := B1.out.lt; have := B0.out.lt; have := L1.out.size; omega)
  have g2l : Hid (w.heap.size ≤ g2) := Lib.hid (by have := G2.out; have := L1.out.size; have := L0.out.size; omega)
  have g1l : Hid (w.heap.size ≤ g1) := Lib.hid (by have := G1.out; have := L0.out.size; omega)
  have LA : Hid (Below w.heap.size w w2) := (L0.out.trans (L1.out.mono L0.out.size)).trans (L2.out.mono (by have := L0.out.size; have := L1.out.size; omega))
  have B0' : Hid (Blk w2 g0 44 (cellsI f)) := Lib.hid ((B0.out.below L1.out B0.out.lt).below L2.out (by have := B0.out.lt; have := L1.out.size; omega))
  have B1' : Hid (Blk w2 g1 44 (cellsI zeros)) := Lib.hid (B1.out.below L2.out B1.out.lt)
  have B2' : Hid (Blk w2 g2 44 (cellsI (told F 0))) := by rw [told_zero]; exact B2
  clear G0 G1 G2 L0 L1 L2 B0 B1 B2
  go_wp2
  go_loopw [11] (fun i wr => ∃ c : Nat, c ≤ C ∧ i = .int .i64 (c : Int) ∧ Hid (Blk wr g2 44 (cellsI (told F (c * R)))) ∧ Hid (Blk wr g1 44 (cellsI zeros)) ∧ Hid (Blk wr g0 44 (cellsI f)) ∧ Hid (Below w.heap.size w wr)) (fun i _ => C - (intOf i).toNat)
  case atStart => exact ⟨0, Nat.zero_le _, rfl, by rw [Nat.zero_mul]; exact B2', B1', B0', LA⟩
  case round =>
    obtain ⟨c, hc, rfl, HO, HZ, HS, HB⟩ := hrel
    by_cases hlt : c < C
    · obtain ⟨wo, rfl⟩ : ∃ wo : World, wo = wr := ⟨_, rfl⟩
      obtain ⟨p, hp⟩ : ∃ p, p = c * R := ⟨_, rfl⟩
      have e1 : (c : Int) * (R : Int) = (p : Int) := by rw [hp]; simp
      have hpb : p + R ≤ 200 := by have := Nat.mul_le_mul_right R (show c + 1 ≤ C from hlt); rw [Nat.succ_mul] at this; have := H5.out; omega
      have HP := Lib.hid hp
      rw [← hp] at HO
      clear hp
      go_wp2
      go_loopw [15] (fun i wr => ∃ k : Nat, k ≤ R ∧ i = .int .i64 (k : Int) ∧ Hid (Blk wr g2 44 (cellsI (told F (p + k)))) ∧ Hid (Blk wr g1 44 (cellsI zeros)) ∧ Hid (Blk wr g0 44 (cellsI f)) ∧ Hid (Below w.heap.size w wr)) (fun i _ => R - (intOf i).toNat)
      case atStart => exact ⟨0, Nat.zero_le _, rfl, HO, HZ, HS, HB⟩
      case round =>
        obtain ⟨k, hk, rfl, HO2, HZ2, HS2, HB2⟩ := hrel
        by_cases hlt2 : k < R
        · obtain ⟨q, hq⟩ : ∃ q, q = (R - 1 - k) * C := ⟨_, rfl⟩
          have e2 : ((R : Int) - 1 - (k : Int)) * (C : Int) = (q : Int) := by rw [hq, Int.natCast_mul]; congr 1; omega
          have hqb : q + C ≤ 200 := by
            have := Nat.mul_le_mul_right C (show R - 1 - k + 1 ≤ R by omega); rw [Nat.succ_mul, ← hq] at this; have := H6.out; omega
          have hT : turnAt R C (p + k) = q + c := by rw [HP.out, turnAt_of R C c k hlt2, hq]
          obtain ⟨m1, hm1⟩ : ∃ m1, m1 = p + k := ⟨_, rfl⟩
          obtain ⟨m2, hm2⟩ : ∃ m1, m1 = q + c := ⟨_, rfl⟩
          have e3 : (p : Int) + (k : Int) = (m1 : Int) := by omega
          have e4 : (q : Int) + (c : Int) = (m2 : Int) := by omega
          have i1 : (0 : Int) ≤ (m1 : Int) := by omega
          have i2 : (m1 : Int) < 200 := by omega
          have i3 : (0 : Int) ≤ (m2 : Int) := by omega
          have i4 : (m2 : Int) < 200 := by omega
          rw [← hm1] at HO2 hT
          rw [← hm2] at hT
          have c1 := HO2.out.celI m1 (by rw [length_told _ _ (by omega)]; omega)
          have c2 := HS2.out.celI m2 (by rw [HF.out]; omega)
          have f1 := HO2.out.free m1
          have hval : f.getD m2 0 = F m1 := by rw [HFF.out]; unfold turnedF; rw [hT]
          obtain ⟨z, hz⟩ : ∃ z, z = f.getD m2 0 := ⟨_, rfl⟩
          obtain ⟨y, hy⟩ : ∃ z, z = (told F m1).getD m1 0 := ⟨_, rfl⟩
          rw [← hz] at c2 hval
          rw [← hy] at c1
          have HO3 : Hid (Blk (wr.setCell ⟨g2, m1, none⟩ (.int .i64 z)) g2 44 (cellsI (told F (p + (k + 1))))) := Lib.hid (by
            rw [show p + (k + 1) = m1 + 1 by omega, ← told_succ F m1 z (by omega) hval]; exact HO2.out.setI m1 _)
          have HZ3 : Hid (Blk (wr.setCell ⟨g2, m1, none⟩ (.int .i64 z)) g1 44 (cellsI zeros)) := Lib.hid (HZ2.out.grown (set_grown _ _ _ _) (fun e => g12.out.1 (Option.some.inj e).symm))
          have HS3 : Hid (Blk (wr.setCell ⟨g2, m1, none⟩ (.int .i64 z)) g0 44 (cellsI f)) := Lib.hid (HS2.out.grown (set_grown _ _ _ _) (fun e => g12.out.2 (Option.some.inj e).symm))
          have HB3 : Hid (Below w.heap.size w (wr.setCell ⟨g2, m1, none⟩ (.int .i64 z))) := Lib.hid (HB2.out.setCell g2l.out _)
          clear hz hy hval hT hm1 hm2 hq HO2 HZ2 HS2 HB2
          go_wp2
          go_roundw
          case rel => exact ⟨k + 1, by omega, by go_num, HO3, HZ3, HS3, HB3⟩
          case measure => simp [intOf]; omega
        · have HO3 : Hid (Blk wr g2 44 (cellsI (told F ((c + 1) * R)))) := Lib.hid (by rw [Nat.succ_mul, ← HP.out, show R = k by omega]; exact HO2.out)
          clear HO2
          go_wp2
          go_roundw
          case rel => exact ⟨c + 1, by omega, by go_num, HO3, HZ2, HS2, HB2⟩
          case measure => simp [intOf]; omega
    · obtain rfl : c = C := by omega
      obtain ⟨n, hn⟩ : ∃ n, n = c * R := ⟨_, rfl⟩
      rw [← hn] at HO
      have HNN := Lib.hid hn
      have hnl : (cellsI (told F n)).length = 200 := by rw [length_cellsI, length_told _ _ (by have := H5.out; omega)]
      have HN := Lib.hid hnl
      clear hn hnl
      go_wp2_with (refine wpList_loadAll 44 _ rfl rfl g2 _ (cellsI (told F n)) _ Try.underlying44 rfl 200 Try.size_formation rfl HO HN.out ?_)
      refine ⟨?_⟩
      go_wp2_with (refine wpList_storeAll 44 _ _ rfl rfl g1 _ (cellsI zeros) (cellsI (told F n)) 200 Try.size_formation rfl rfl HZ HN.out (by rw [length_cellsI, length_zeros]) (cellsI_one _) ?_; intro w5 B5 L5)
      refine ⟨?_⟩
      go_wp2
      refine ret_cell 6 44 (by kernel_rfl) g1 _ (cellsI (told F n)) _ Try.underlying44 rfl 200 Try.size_formation rfl B5.out HN.out rfl ?_
      exact ⟨by rw [← HNN.out], grownBy_below HB.out L5.out (Nat.le_refl _) g1l.out⟩

theorem told_congr {f g : Nat → Int} {n : Nat} (h : ∀ i, i < n → f i = g i) : told f n = told g n := by unfold told fillTo; rw [upTo_congr f g n h]
theorem getD_told (f : Nat → Int) (n j : Nat) (h : j < n) : (told f n).getD j 0 = f j := getD_fill_lo f 200 n j h
theorem take_told (f : Nat → Int) (n : Nat) : (told f n).take n = upTo f n := by
  unfold told fillTo
  rw [List.take_append_of_le_length (by rw [length_upTo]; exact Nat.le_refl _), List.take_of_length_le (by rw [length_upTo]; exact Nat.le_refl _)]
theorem turned_told {R C : Nat} (h1 : 1 ≤ R) (f : Nat → Int) (n : Nat) (hn : n = R * C) : told (turnedF R C (told f n)) (C * R) = told (fun j => f (turnAt R C j)) n := by
  rw [Nat.mul_comm C R, ← hn]
  refine told_congr fun j hj => ?_
  unfold turnedF
  rw [getD_told f n _ (by rw [hn] at hj ⊢; exact turnAt_lt h1 hj)]
set_option maxHeartbeats 1000000 in
theorem implTurnFormation_any (w : World) (r c : Int) (_wr : (Lit.int .i64 r).wf = true) (_wc : (Lit.int .i64 c).wf = true) :
    Calls Try.prog 30 #[.int .i64 r, .int .i64 c] w fun e w' => ∃ v0, e = .returned (.tuple #[v0, .bool (outTurnFormation_1 r c)]) ∧ Own w' w.heap.size v0 (outTurnFormation_0 r c) ∧ Below w.heap.size w w' := by
  have HH := Lib.hid (canBeTurned_any r c w)
  clear _wr _wc
  rcases hb : sidesB r c with _ | _
  · have H0 : Hid (outTurnFormation_0 r c = [] ∧ outTurnFormation_1 r c = false) := Lib.hid (by unfold outTurnFormation_0 outTurnFormation_1; rw [hb]; exact ⟨rfl, rfl⟩)
    rw [hb] at HH
    clear hb
    go_enter Try.func30, Try.ntmps30
    go_wp2_with (go_at_call 54; refine HH.out.mono ?_; rintro e w' ⟨rfl, rfl⟩)
    go_ret2
    exact ⟨_, by rw [H0.out.2]; exact rfl, by rw [H0.out.1]; exact own_nil _ _, Below.refl _ _⟩
  · obtain ⟨R, C, rfl, rfl, h1, h2, h3, h4, h5⟩ := sides_nat hb
    have H0 : Hid (outTurnFormation_0 R C = turnL R C ∧ outTurnFormation_1 R C = true) := Lib.hid (by unfold outTurnFormation_0 outTurnFormation_1; rw [hb]; exact ⟨rfl, rfl⟩)
    rw [hb] at HH
    obtain ⟨n, hn⟩ : ∃ n, n = R * C := ⟨_, rfl⟩
    have e1 : (R : Int) * (C : Int) = (n : Int) := by rw [hn]; simp
    have nb : n ≤ 200 := by omega
    have HF := Lib.hid (formationOf_any n nb w)
    have HT := Lib.hid (fun w2 => turnedOf_any R C h1 h3 h5 (told (fun i : Nat => (i : Int)) n) (length_told _ _ nb) w2)
    rw [turned_told h1 (fun i : Nat => (i : Int)) n hn] at HT
    have HL : Hid ((told (turnF R C) n).take n = turnL R C) := Lib.hid (by rw [take_told]; unfold turnL; rw [hn, Nat.mul_comm])
    have HLN : Hid ((told (turnF R C) n).length = 200) := Lib.hid (length_told _ _ nb)
    have HT2 : Hid (∀ w2 : World, Calls Try.prog 56 #[.agg (cellsI (told (fun i : Nat => (i : Int)) n)).toArray, .int .i64 R, .int .i64 C] w2 fun e w' => e = .returned (.agg (cellsI (told (turnF R C) n)).toArray) ∧ Below w2.heap.size w2 w') := Lib.hid HT.out
    obtain ⟨f0, hf0⟩ : ∃ f, f = told (fun i : Nat => (i : Int)) n := ⟨_, rfl⟩
    obtain ⟨f1, hf1⟩ : ∃ f, f = told (turnF R C) n := ⟨_, rfl⟩
    rw [← hf0] at HF HT2
    rw [← hf1] at HT2 HL HLN
    clear hb hn h5 HT hf0 hf1
    go_enter Try.func30, Try.ntmps30
    go_wp2_with fail
    go_at_call 54
    refine HH.out.mono ?_
    rintro e w' ⟨rfl, rfl⟩
    go_wp2_with fail
    go_at_call 55
    refine HF.out.mono ?_
    rintro e w2 ⟨rfl, b2⟩
    have B2 := Lib.hid b2
    clear b2
    go_wp2_with fail
    go_at_call 56
    refine (HT2.out w2).mono ?_
    rintro e w3 ⟨rfl, b3⟩
    have B3 : Hid (Below w.heap.size w w3) := Lib.hid (B2.out.trans (b3.mono B2.out.size))
    clear b3
    go_wp2_with (refine wpList_new 44 rfl rfl _ _ Try.info_formation ?_; intro w4 g G4 K4 L4)
    refine ⟨?_⟩
    have B4 : Hid (Below w.heap.size w w4) := Lib.hid (B3.out.trans (L4.out.mono B3.out.size))
    have g4 : Hid (w.heap.size ≤ g) := Lib.hid (by have := G4.out; have := B3.out.size; omega)
    go_wp2_with (refine wpList_storeAll 44 _ _ rfl rfl g _ (cellsI zeros) (cellsI f1) 200 Try.size_formation rfl rfl K4 (by rw [length_cellsI, HLN.out]) (by rw [length_cellsI, length_zeros]) (cellsI_one _) ?_; intro w5 K5 L5)
    refine ⟨?_⟩
    have B5 : Hid (Below w.heap.size w w5) := Lib.hid (grownBy_below B4.out L5.out (Nat.le_refl _) g4.out)
    have HK := Lib.hid (clone_any w5 ⟨g, 0, none⟩ n 200 (turnL R C) (by omega) (by have := K5.out.cameI n (by rw [HLN.out]; exact nb); rw [HL.out] at this; exact this))
    have i1 : (0 : Int) ≤ (n : Int) := by omega
    have i2 : (n : Int) ≤ 200 := by omega
    go_wp2_with fail
    go_at_call 57
    refine HK.out.mono ?_
    rintro e w6 ⟨v, rfl, o6, b6⟩
    have O6 : Hid (Own w6 w.heap.size v (turnL R C)) := Lib.hid (o6.mono B5.out.size)
    have B6 : Hid (Below w.heap.size w w6) := Lib.hid (B5.out.trans (b6.mono B5.out.size))
    clear o6 b6
    go_wp2
    go_ret2
    exact ⟨_, by rw [H0.out.2]; exact rfl, by rw [H0.out.1]; exact O6.out, B6.out⟩

end Go.Proofs.Ytbodomfdgjemhaa
