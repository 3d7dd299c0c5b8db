/- Chapter 5, the program's paces: isValid, ArePaces, isTime, stepsAt, stepping, SteppingAt. -/
import Derived.Test.YthnbimfdodfhoaaPa
namespace Go.Proofs.Ythnbimfdodfhoaa
open Go.ChangeShapes Go.WideShapes Go.ChangeAt Go.RowKit
open Pa

theorem pace_cells (w : World) (x y : Int) : (w.alloc (.cells #[.int .i64 x, .int .i64 y] 48)).cell? ⟨w.heap.size, 0, none⟩ = some (.int .i64 x) ∧ (w.alloc (.cells #[.int .i64 x, .int .i64 y] 48)).cell? ⟨w.heap.size, 1, none⟩ = some (.int .i64 y) :=
  ⟨by rw [World.cell?_alloc_new]; rfl, by rw [World.cell?_alloc_new]; rfl⟩

set_option maxHeartbeats 1000000 in
theorem isValid_any (x y : Int) (w : World) :
    Calls Try.prog 46 #[.agg #[.int .i64 x, .int .i64 y]] w fun e w' => e = .returned (.bool (paceB (x, y))) ∧ Below w.heap.size w w' := by
  have HB : Hid (Below w.heap.size w (w.alloc (.cells #[.int .i64 x, .int .i64 y] 48))) := Lib.hid ((Below.refl _ _).alloc (Nat.le_refl _) _)
  by_cases h1 : 1 ≤ x
  · by_cases h2 : x ≤ 60
    · by_cases h3 : 0 ≤ y
      · by_cases h4 : y < x
        · have HE : Hid (paceB (x, y) = true) := Lib.hid (by unfold paceB; rw [inB_of ⟨h1, h2⟩, inB_of ⟨h3, by omega⟩]; rfl)
          go_enter Try.func46, Try.ntmps46
          go_wp2
          go_ret
          exact ⟨ret_bool (by rw [HE.out]), HB.out⟩
        · have HE : Hid (paceB (x, y) = false) := Lib.hid (by unfold paceB; rw [inB_no (n := y) (by omega)]; simp)
          go_enter Try.func46, Try.ntmps46
          go_wp2
          go_ret
          exact ⟨ret_bool (by rw [HE.out]), HB.out⟩
      · have HE : Hid (paceB (x, y) = false) := Lib.hid (by unfold paceB; rw [inB_no (n := y) (by omega)]; simp)
        go_enter Try.func46, Try.ntmps46
        go_wp2
        go_ret
        exact ⟨ret_bool (by rw [HE.out]), HB.out⟩
    · have HE : Hid (paceB (x, y) = false) := Lib.hid (by unfold paceB; rw [inB_no (n := x) (by omega)]; rfl)
      go_enter Try.func46, Try.ntmps46
      go_wp2
      go_ret
      exact ⟨ret_bool (by rw [HE.out]), HB.out⟩
  · have HE : Hid (paceB (x, y) = false) := Lib.hid (by unfold paceB; rw [inB_no (n := x) (by omega)]; rfl)
    go_enter Try.func46, Try.ntmps46
    go_wp2
    go_ret
    exact ⟨ret_bool (by rw [HE.out]), HB.out⟩

set_option maxHeartbeats 2000000 in
theorem implArePaces_any (w : World) (a : Option Addr) (len cap : Nat) (ps : List RPace) (hl : len ≤ 1048576) (hc : CamePace w a len ps) :
    Calls Try.prog 16 #[.slice a len cap] w fun e w' => e = .returned (.bool (outArePaces_0 ps)) ∧ Below w.heap.size w w' := by
  have HOG : Hid (outArePaces_0 ps = goodP ps) := rfl
  have HZ : Hid (ps.length = len) := Lib.hid hc.1
  have HC := Lib.hid hc
  clear hc
  by_cases hs1 : len < 1
  · have HE := Lib.hid (good_no1 (ps := ps) (by rw [HZ.out]; exact inB_no (by omega)))
    go_enter Try.func16, Try.ntmps16
    go_wp2
    go_ret
    exact ⟨ret_bool (by rw [HOG.out, HE.out]), Below.refl _ _⟩
  by_cases hs2 : 6 < len
  · have HE := Lib.hid (good_no1 (ps := ps) (by rw [HZ.out]; exact inB_no (by omega)))
    go_enter Try.func16, Try.ntmps16
    go_wp2
    go_ret
    exact ⟨ret_bool (by rw [HOG.out, HE.out]), Below.refl _ _⟩
  have HY : Hid ((∀ k, k < ps.length → paceB (ps.getD k zPace) = true) → goodP ps = true) := Lib.hid (good_yes (by rw [HZ.out]; exact inB_of (by omega)))
  go_enter Try.func16, Try.ntmps16
  go_wp2
  go_loopw [15] (fun i wr => ∃ k : Nat, k ≤ len ∧ i = .int .i64 (k : Int) ∧ Hid (∀ j, j < k → paceB (ps.getD j zPace) = true) ∧ Hid (Below w.heap.size w wr)) (fun i _ => len - (intOf i).toNat)
  case atStart => exact ⟨0, Nat.zero_le _, rfl, Lib.hid (fun j h => absurd h (Nat.not_lt_zero _)), Lib.hid (Below.refl _ _)⟩
  case round =>
    obtain ⟨k, hk, rfl, HK, HB⟩ := hrel
    by_cases hlt : k < len
    · obtain ⟨b, off, rfl, hcell⟩ := (HC.out.below HB.out).2 (by omega)
      obtain ⟨e0, e1⟩ := hcell k hlt
      have HNO : Hid (paceB (ps.getD k zPace) = false → goodP ps = false) := Lib.hid (good_no2 (by rw [HZ.out]; exact hlt))
      obtain ⟨p, hp⟩ : ∃ p, p = ps.getD k zPace := ⟨_, rfl⟩
      rw [← hp] at e0 e1 HNO
      obtain ⟨x0, x1⟩ := p
      simp only at e0 e1
      have HP := Lib.hid hp
      have HT := Lib.hid (fun w2 => isValid_any x0 x1 w2)
      have i1 : (0 : Int) ≤ (k : Int) := by omega
      have i2 : (k : Int) < (len : Int) := by omega
      have HBA : Hid (Below w.heap.size w (wr.alloc (.cells #[.int .i64 x0, .int .i64 x1] 48))) := Lib.hid (HB.out.alloc HB.out.size _)
      clear hcell hp
      rcases hpb : paceB (x0, x1) with _ | _
      · have HE := Lib.hid (HNO.out hpb)
        rw [hpb] at HT
        clear hpb HNO
        go_wp2_with fail
        go_at_call 46
        refine (HT.out _).mono ?_
        rintro e w2 ⟨rfl, b2⟩
        have HB2 : Hid (Below w.heap.size w w2) := Lib.hid (HBA.out.trans (b2.mono HBA.out.size))
        clear b2
        go_wp2
        go_ret
        exact ⟨ret_bool (by rw [HOG.out, HE.out]), HB2.out⟩
      · have HK2 : Hid (∀ j, j < k + 1 → paceB (ps.getD j zPace) = true) := Lib.hid (fun j hj => by
          by_cases e : j = k
          · subst e; rw [← HP.out]; exact hpb
          · exact HK.out j (by omega))
        rw [hpb] at HT
        clear hpb HNO
        go_wp2_with fail
        go_at_call 46
        refine (HT.out _).mono ?_
        rintro e w2 ⟨rfl, b2⟩
        have HB2 : Hid (Below w.heap.size w w2) := Lib.hid (HBA.out.trans (b2.mono HBA.out.size))
        clear b2
        go_wp2
        go_roundw
        case rel => exact ⟨k + 1, by omega, by go_num, HK2, HB2⟩
        case measure => simp [intOf]; omega
    · have HE := Lib.hid (HY.out (fun j hj => HK.out j (by have := HZ.out; omega)))
      go_wp2
      go_ret
      exact ⟨ret_bool (by rw [HOG.out, HE.out]), HB.out⟩
theorem arePaces_any (w : World) (a : Option Addr) (len cap : Nat) (ps : List RPace) (hl : len ≤ 1048576) (hc : CamePace w a len ps) :
    Calls Try.prog 16 #[.slice a len cap] w fun e w' => e = .returned (.bool (goodP ps)) ∧ Below w.heap.size w w' := implArePaces_any w a len cap ps hl hc

set_option maxHeartbeats 400000 in
theorem isTime_any (t : Int) (w : World) :
    Calls Try.prog 50 #[.int .i64 t] w fun e w' => e = .returned (.bool (inB t 0 1000000000)) ∧ w = w' := by
  by_cases h1 : 0 ≤ t
  · by_cases h2 : t ≤ 1000000000
    · have HE : Hid (inB t 0 1000000000 = true) := Lib.hid (inB_of ⟨h1, h2⟩)
      go_enter Try.func50, Try.ntmps50
      go_wp2
      go_ret
      exact ⟨ret_bool (by rw [HE.out]), rfl⟩
    · have HE : Hid (inB t 0 1000000000 = false) := Lib.hid (inB_no (by omega))
      go_enter Try.func50, Try.ntmps50
      go_wp2
      go_ret
      exact ⟨ret_bool (by rw [HE.out]), rfl⟩
  · have HE : Hid (inB t 0 1000000000 = false) := Lib.hid (inB_no (by omega))
    go_enter Try.func50, Try.ntmps50
    go_wp2
    go_ret
    exact ⟨ret_bool (by rw [HE.out]), rfl⟩

theorem steps_cond {t x y : Nat} : ((t : Int).tmod (x : Int) == (y : Int)) = decide (t % x = y) := by
  rw [Int.tmod_eq_emod_of_nonneg (by omega)]
  by_cases h : t % x = y
  · rw [decide_eq_true h, beq_iff_eq]; subst h; simp
  · rw [decide_eq_false h, beq_eq_false_iff_ne]; omega
set_option maxHeartbeats 1000000 in
theorem stepsAt_any (x y t : Nat) (h1 : 1 ≤ x) (h2 : x ≤ 60) (_h3 : y < x) (h4 : t ≤ 1000000000000) (w : World) :
    Calls Try.prog 65 #[.agg #[.int .i64 (x : Int), .int .i64 (y : Int)], .int .i64 (t : Int)] w fun e w' => e = .returned (.bool (decide (t % x = y))) ∧ Below w.heap.size w w' := by
  have HB : Hid (Below w.heap.size w (w.alloc (.cells #[.int .i64 (x : Int), .int .i64 (y : Int)] 48))) := Lib.hid ((Below.refl _ _).alloc (Nat.le_refl _) _)
  have HE : Hid (((t : Int).tmod (x : Int) == (y : Int)) = decide (t % x = y)) := Lib.hid steps_cond
  have HEE : Hid (((t : Int) % (x : Int) == (y : Int)) = decide (t % x = y)) := Lib.hid (by rw [← HE.out, Int.tmod_eq_emod_of_nonneg (by omega)])
  have hx0 : ¬ x = 0 := by omega
  have hx1 : ¬ (x : Int) = 0 := by omega
  obtain ⟨e0, e1⟩ := pace_cells w (x : Int) (y : Int)
  have hz := HB.out.size
  go_enter Try.func65, Try.ntmps65
  go_wp2_with fail
  go_quiet (fail)
  go_wp2
  go_ret
  exact ⟨ret_bool (by first | exact HE.out | exact HEE.out), HB.out.trans ((drewN_down _ _).mono hz)⟩

set_option maxHeartbeats 2000000 in
theorem stepping_any (w : World) (a : Option Addr) (len cap : Nat) (qs : List (Nat × Nat)) (t : Nat) (ht : t ≤ 1000000000000) (hg : GoodQ qs) (hc : CameQ w a len qs) :
    Calls Try.prog 51 #[.slice a len cap, .int .i64 (t : Int)] w fun e w' => ∃ v, e = .returned v ∧ Own w' w.heap.size v (onL qs t) ∧ Below w.heap.size w w' := by
  have HZ : Hid (qs.length = len) := Lib.hid hc.1
  have HC := Lib.hid hc
  have HE := Lib.hid hg.each
  have h6 : len ≤ 6 := by have := hg.few; have := hc.1; omega
  clear hc hg
  go_enter Try.func51, Try.ntmps51
  go_wp2
  go_loopw [5, 10] (fun v i wr => ∃ k : Nat, k ≤ len ∧ i = .int .i64 (k : Int) ∧ Hid (Own wr w.heap.size v (onTo qs t k)) ∧ Hid (Below w.heap.size w wr)) (fun _ i _ => len - (intOf i).toNat)
  case atStart => exact ⟨0, Nat.zero_le _, rfl, Lib.hid (own_nil _ _), Lib.hid (Below.refl _ _)⟩
  case round =>
    obtain ⟨k, hk, rfl, HO, HB⟩ := hrel
    by_cases hlt : k < len
    · obtain ⟨b, off, rfl, hcell⟩ := (HC.out.below HB.out).2 (by omega)
      obtain ⟨e0, e1⟩ := hcell k hlt
      obtain ⟨hp1, hp2, hp3⟩ := HE.out k (by rw [HZ.out]; exact hlt)
      have HSY := Lib.hid (@onTo_yes qs t k)
      have HSN := Lib.hid (@onTo_no qs t k)
      obtain ⟨x, hx⟩ : ∃ x, x = (qs.getD k (1, 0)).1 := ⟨_, rfl⟩
      obtain ⟨y, hy⟩ : ∃ x, x = (qs.getD k (1, 0)).2 := ⟨_, rfl⟩
      rw [← hx] at e0 hp1 hp2 hp3 HSY HSN
      rw [← hy] at e1 hp3 HSY HSN
      have HT := Lib.hid (fun w2 => stepsAt_any x y t hp1 hp2 hp3 ht w2)
      have i1 : (0 : Int) ≤ (k : Int) := by omega
      have i2 : (k : Int) < (len : Int) := by omega
      have hbl : (onTo qs t k).length ≤ 1000000000 := by have := length_onTo qs t k; omega
      have HBA : Hid (Below w.heap.size w (wr.alloc (.cells #[.int .i64 (x : Int), .int .i64 (y : Int)] 48))) := Lib.hid (HB.out.alloc HB.out.size _)
      have HOA : Hid (Own (wr.alloc (.cells #[.int .i64 (x : Int), .int .i64 (y : Int)] 48)) w.heap.size _ (onTo qs t k)) := Lib.hid (own_alloc HO.out _)
      have hz := HBA.out.size
      clear hcell hx hy HO
      by_cases hmy : t % x = y
      · have HS := Lib.hid (HSY.out hmy)
        have hT := HT.out
        rw [decide_eq_true hmy] at hT
        have HT2 := Lib.hid hT
        clear hT hmy HSY HSN HT
        go_wp2_with fail
        go_at_call 65
        refine (HT2.out _).mono ?_
        rintro e w2 ⟨rfl, b2⟩
        have HO2 : Hid (Own w2 w.heap.size _ (onTo qs t k)) := Lib.hid (HOA.out.below b2 (Nat.le_refl _))
        have HB2 : Hid (Below w.heap.size w w2) := Lib.hid (HBA.out.trans (b2.mono hz))
        clear b2
        go_wp2_with (at_builtin; refine wpList_app rfl _ _ rfl w2 _ _ _ _ rfl rfl HO2.out HB2.out.size hbl ?_; intro v' w5 hO hB5; have HO5 : Hid (Own w5 w.heap.size v' (onTo qs t (k + 1))) := Lib.hid (by rw [HS.out]; exact hO); have HB5 : Hid (Below w.heap.size w w5) := Lib.hid (HB2.out.trans hB5); clear hO hB5)
        go_roundw
        case rel => exact ⟨k + 1, by omega, by go_num, HO5, HB5⟩
        case measure => simp [intOf]; omega
      · have HS := Lib.hid (HSN.out hmy)
        have hT := HT.out
        rw [decide_eq_false hmy] at hT
        have HT2 := Lib.hid hT
        clear hT hmy HSY HSN HT
        go_wp2_with fail
        go_at_call 65
        refine (HT2.out _).mono ?_
        rintro e w2 ⟨rfl, b2⟩
        have HO2 : Hid (Own w2 w.heap.size _ (onTo qs t k)) := Lib.hid (HOA.out.below b2 (Nat.le_refl _))
        have HB2 : Hid (Below w.heap.size w w2) := Lib.hid (HBA.out.trans (b2.mono hz))
        clear b2
        go_wp2
        go_roundw
        case rel => exact ⟨k + 1, by omega, by go_num, Lib.hid (by rw [HS.out]; exact HO2.out), HB2⟩
        case measure => simp [intOf]; omega
    · have HF : Hid (onTo qs t k = onL qs t) := Lib.hid (by unfold onL; rw [HZ.out, show k = len by omega])
      go_wp2
      go_ret
      exact ⟨_, rfl, by rw [← HF.out]; exact HO.out, HB.out⟩

set_option maxHeartbeats 1000000 in
theorem implSteppingAt_any (w : World) (a : Option Addr) (len cap : Nat) (ps : List RPace) (t : Int) (_wt : (Lit.int .i64 t).wf = true) (hl : len ≤ 1048576) (hc : CamePace w a len ps) :
    Calls Try.prog 19 #[.slice a len cap, .int .i64 t] w fun e w' => ∃ v0, e = .returned (.tuple #[v0, .bool (outSteppingAt_1 ps t)]) ∧ Own w' w.heap.size v0 (outSteppingAt_0 ps t) ∧ Below w.heap.size w w' := by
  have HG := Lib.hid (arePaces_any w a len cap ps hl hc)
  have HT := Lib.hid (fun w2 => isTime_any t w2)
  have HC := Lib.hid hc
  clear _wt hc
  rcases hb : goodP ps with _ | _
  · have H0 : Hid (outSteppingAt_0 ps t = [] ∧ outSteppingAt_1 ps t = false) := Lib.hid (by unfold outSteppingAt_0 outSteppingAt_1; rw [hb]; exact ⟨rfl, rfl⟩)
    rw [hb] at HG
    clear hb
    go_enter Try.func19, Try.ntmps19
    go_wp2_with fail
    go_at_call 16
    refine HG.out.mono ?_
    rintro e w2 ⟨rfl, b2⟩
    have B2 := Lib.hid b2
    clear b2
    go_wp2
    go_ret2
    exact ⟨_, by rw [H0.out.2]; exact rfl, by rw [H0.out.1]; exact own_nil _ _, B2.out⟩
  · rcases hb2 : inB t 0 1000000000 with _ | _
    · have H0 : Hid (outSteppingAt_0 ps t = [] ∧ outSteppingAt_1 ps t = false) := Lib.hid (by unfold outSteppingAt_0 outSteppingAt_1; rw [hb, hb2]; exact ⟨rfl, rfl⟩)
      rw [hb] at HG
      rw [hb2] at HT
      clear hb hb2
      go_enter Try.func19, Try.ntmps19
      go_wp2_with fail
      go_at_call 16
      refine HG.out.mono ?_
      rintro e w2 ⟨rfl, b2⟩
      have B2 := Lib.hid b2
      clear b2
      go_wp2_with (go_at_call 50; refine (HT.out _).mono ?_; rintro e w' ⟨rfl, rfl⟩)
      go_ret2
      exact ⟨_, by rw [H0.out.2]; exact rfl, by rw [H0.out.1]; exact own_nil _ _, B2.out⟩
    · obtain ⟨ht0, ht1⟩ := inB_yes hb2
      obtain ⟨T, rfl⟩ : ∃ T : Nat, t = (T : Int) := ⟨t.toNat, by omega⟩
      obtain ⟨qs, rfl, hgq⟩ := good_nat hb
      have H0 : Hid (outSteppingAt_0 (asP qs) T = onL qs T ∧ outSteppingAt_1 (asP qs) T = true) := Lib.hid (by unfold outSteppingAt_0 outSteppingAt_1; rw [hb, hb2, toQ_asP]; exact ⟨rfl, rfl⟩)
      have HA := Lib.hid (fun w2 (h : Below w.heap.size w w2) => stepping_any w2 a len cap qs T (by omega) hgq ((CameQ.of HC.out).below h))
      rw [hb] at HG
      rw [hb2] at HT
      clear hb hb2 hgq
      go_enter Try.func19, Try.ntmps19
      go_wp2_with fail
      go_at_call 16
      refine HG.out.mono ?_
      rintro e w2 ⟨rfl, b2⟩
      have B2 := Lib.hid b2
      have HA2 := Lib.hid (HA.out w2 b2)
      clear b2
      go_wp2_with fail
      go_at_call 50
      refine (HT.out _).mono ?_
      rintro e w' ⟨rfl, rfl⟩
      go_wp2_with fail
      go_at_call 51
      refine HA2.out.mono ?_
      rintro e w3 ⟨v, rfl, o3, b3⟩
      have O3 := Lib.hid o3
      have B3 : Hid (Below w.heap.size w w3) := Lib.hid (B2.out.trans (b3.mono B2.out.size))
      clear o3 b3
      go_wp2
      go_ret2
      exact ⟨_, by rw [H0.out.2]; exact rfl, by rw [H0.out.1]; exact O3.out.mono B2.out.size, B3.out⟩

end Go.Proofs.Ythnbimfdodfhoaa
