/- Chapter 8, the program: TimesAt, meet, firstMeeting, FirstMeeting, CountMeetings, MiddleMeeting. -/
import Derived.Test.YtmlamcimncfmcaaSjb
import Derived.Test.YtmlamcimncfmcaaSif
namespace Go.Proofs.Ytmlamcimncfmcaa
open Go.ChangeShapes Go.WideShapes Go.ChangeAt Go.RowKit
open Si

namespace Si
/-- what the walk of meet asks of a signal and its place -/
structure AtV (n t f : Nat) (l : Bool) (s v : Nat) : Prop where
  ok : OkS n f s
  at' : posN n f l s t = v
structure CoV (n t f : Nat) (l : Bool) (s : Nat) (b : Bool) : Prop where
  ok : OkS n f s
  co : comesB n s t = b
/-- the first one from E on up to 100000 -/
def fromTo (P : Nat → Bool) (E : Nat) : Option Nat := (List.range (100001 - E)).find? fun i => P (i + E)
theorem fromTo_hit {P : Nat → Bool} {E k : Nat} (h : ∀ j, j < k → P (j + E) = false) (hk : P (k + E) = true) (hn : k < 100001 - E) : fromTo P E = some k := by
  unfold fromTo
  rw [List.find?_range_eq_some]
  exact ⟨hk, List.mem_range.2 hn, fun j hj => by rw [h j hj]; rfl⟩
theorem fromTo_miss {P : Nat → Bool} {E : Nat} (h : ∀ j, j < 100001 - E → P (j + E) = false) : fromTo P E = none := by
  unfold fromTo
  rw [List.find?_eq_none]
  intro j hj
  rw [h j (List.mem_range.1 hj)]; decide
theorem fromTo_zero (P : Nat → Bool) : fromTo P 0 = firstTo P 100001 := by
  unfold fromTo firstTo
  rw [show 100001 - 0 = 100001 by omega]
  exact congrArg (fun f => List.find? f (List.range 100001)) (funext fun i => rfl)
theorem fromTo_one (n : Nat) : fromTo (meetB n 0 false 1 0 false 3) 1 = soonTo (midP n) 100000 := by
  unfold fromTo soonTo
  rw [show 100001 - 1 = 100000 by omega]
  congr 1
def fm0 (P : Nat → Bool) (E : Nat) : Int := match fromTo P E with | some k => ((k + E : Nat) : Int) | none => 0
def fm1 (P : Nat → Bool) (pos : Nat → Nat) (E : Nat) : Int := match fromTo P E with | some k => ((pos (k + E) : Nat) : Int) | none => 0
def fm2 (P : Nat → Bool) (E : Nat) : Bool := (fromTo P E).isSome
end Si

set_option maxHeartbeats 4000000 in
theorem implTimesAt_any (w : World) (n : Int) (f : Int) (l : Bool) (s : Int) (x : Int) (y : Int) (_wn : (Lit.int .i64 n).wf = true) (_wx : (Lit.int .i64 x).wf = true) (_wy : (Lit.int .i64 y).wf = true) :
    Calls Try.prog 24 #[.int .i64 n, .agg #[.int .i64 f, .bool l, .int .i64 s], .int .i64 x, .int .i64 y] w fun e w' => ∃ v0, e = .returned (.tuple #[v0, .bool (outTimesAt_1 n (f, l, s) x y)]) ∧ Own w' w.heap.size v0 (outTimesAt_0 n (f, l, s) x y) ∧ Below w.heap.size w w' := by
  clear _wn _wx _wy
  have HS := Lib.hid (fun w2 => isIn_any n f s l w2)
  have HX := Lib.hid (fun w2 => standsIn_any n x w2)
  have HY := Lib.hid (fun w2 => isTimeTold_any y w2)
  rcases hb0 : sigB n (f, l, s) with _ | _
  · have H0 : Hid (outTimesAt_0 n (f, l, s) x y = [] ∧ outTimesAt_1 n (f, l, s) x y = false) := Lib.hid (by unfold outTimesAt_0 outTimesAt_1; rw [hb0]; exact ⟨rfl, rfl⟩)
    rw [hb0] at HS
    clear hb0
    go_enter Try.func24, Try.ntmps24
    go_wp2_with fail
    go_at_call 42
    refine (HS.out _).mono ?_
    rintro e w2 ⟨rfl, bb⟩
    have Kw2 : Hid (KB1 w f l s w2) := Lib.hid bb
    clear bb
    go_wp2
    go_ret2
    exact ⟨_, by rw [H0.out.2]; exact rfl, by rw [H0.out.1]; exact own_nil _ _, Kw2.out.down⟩
  have hn := inB_yes (show inB n 1 100 = true by unfold sigB at hb0; rw [Bool.and_eq_true] at hb0; exact hb0.1)
  rcases hb1 : inB x 0 (n - 1) with _ | _
  · have H0 : Hid (outTimesAt_0 n (f, l, s) x y = [] ∧ outTimesAt_1 n (f, l, s) x y = false) := Lib.hid (by unfold outTimesAt_0 outTimesAt_1; rw [hb0, hb1]; exact ⟨rfl, rfl⟩)
    have e1 : stB n x = false := by unfold stB; rw [hb1, Bool.and_false]
    rw [hb0] at HS
    rw [e1] at HX
    clear hb0 hb1 e1
    go_enter Try.func24, Try.ntmps24
    go_wp2_with fail
    go_at_call 42
    refine (HS.out _).mono ?_
    rintro e w2 ⟨rfl, bb⟩
    have Kw2 : Hid (KB1 w f l s w2) := Lib.hid bb
    clear bb
    go_wp2_with fail
    go_at_call 53
    refine (HX.out _).mono ?_
    rintro e ww ⟨rfl, rfl⟩
    go_wp2
    go_ret2
    exact ⟨_, by rw [H0.out.2]; exact rfl, by rw [H0.out.1]; exact own_nil _ _, Kw2.out.down⟩
  have e1 : stB n x = true := by unfold stB; rw [hb1, inB_of hn]; rfl
  rcases hb2 : inB y 0 1000 with _ | _
  · have H0 : Hid (outTimesAt_0 n (f, l, s) x y = [] ∧ outTimesAt_1 n (f, l, s) x y = false) := Lib.hid (by unfold outTimesAt_0 outTimesAt_1; rw [hb0, hb1, hb2]; exact ⟨rfl, rfl⟩)
    rw [hb0] at HS
    rw [e1] at HX
    rw [hb2] at HY
    clear hb0 hb1 hb2 e1
    go_enter Try.func24, Try.ntmps24
    go_wp2_with fail
    go_at_call 42
    refine (HS.out _).mono ?_
    rintro e w2 ⟨rfl, bb⟩
    have Kw2 : Hid (KB1 w f l s w2) := Lib.hid bb
    clear bb
    go_wp2_with fail
    go_at_call 53
    refine (HX.out _).mono ?_
    rintro e ww ⟨rfl, rfl⟩
    go_wp2_with fail
    go_at_call 54
    refine (HY.out _).mono ?_
    rintro e ww ⟨rfl, rfl⟩
    go_wp2
    go_ret2
    exact ⟨_, by rw [H0.out.2]; exact rfl, by rw [H0.out.1]; exact own_nil _ _, Kw2.out.down⟩
  · obtain ⟨N, F, S, rfl, hp, hg⟩ := sig_nat hb0
    obtain ⟨rfl, rfl⟩ : f = (F : Int) ∧ s = (S : Int) := by injection hp with h1 h2; injection h2 with _ h3; exact ⟨h1, h3⟩
    obtain ⟨x1, x2⟩ := inB_yes hb1
    obtain ⟨y1, y2⟩ := inB_yes hb2
    obtain ⟨X, rfl⟩ : ∃ T : Nat, x = (T : Int) := ⟨x.toNat, by omega⟩
    obtain ⟨Y, rfl⟩ : ∃ T : Nat, y = (T : Int) := ⟨y.toNat, by omega⟩
    have H0 : Hid (outTimesAt_0 N ((F : Int), l, (S : Int)) X Y = timesTo N F l S X (Y + 1) ∧ outTimesAt_1 N ((F : Int), l, (S : Int)) X Y = true) := Lib.hid (by unfold outTimesAt_0 outTimesAt_1; rw [hb0, hb1, hb2]; exact ⟨rfl, rfl⟩)
    have HC := Lib.hid (fun T (h : T ≤ 1000000) w2 => comesAt_any N F S T l hg h w2)
    have HA := Lib.hid (fun T (h : T ≤ 1000000) w2 => at_any N F S T l hg h w2)
    rw [hb0] at HS
    rw [e1] at HX
    rw [hb2] at HY
    clear hb0 hb1 hb2 hp hg e1 hn
    go_enter Try.func24, Try.ntmps24
    go_wp2_with fail
    go_at_call 42
    refine (HS.out _).mono ?_
    rintro e w2 ⟨rfl, bb⟩
    have Kw2 : Hid (KB1 w F l S w2) := Lib.hid bb
    clear bb
    go_wp2_with fail
    go_at_call 53
    refine (HX.out _).mono ?_
    rintro e ww ⟨rfl, rfl⟩
    go_wp2_with fail
    go_at_call 54
    refine (HY.out _).mono ?_
    rintro e ww ⟨rfl, rfl⟩
    go_wp2_with fail
    go_loopw [10, 11, 29] (fun v j i wr => ∃ k : Nat, k ≤ Y + 1 ∧ i = .int .i64 (k : Int) ∧ Hid (Own wr (w.heap.size + 1) v (timesTo N F l S X k)) ∧ Hid (KB1 w F l S wr)) (fun _ _ i _ => Y + 1 - (intOf i).toNat)
    case atStart => exact ⟨0, Nat.zero_le _, rfl, Lib.hid (own_nil _ _), Kw2⟩
    case round =>
      obtain ⟨k, hk, rfl, HO, HB⟩ := hrel
      by_cases hlt : k < Y + 1
      · have hkT : k ≤ 1000000 := by omega
        have HCk := Lib.hid (HC.out k hkT)
        have HAk := Lib.hid (HA.out k hkT)
        have i2 : (k : Int) < (Y : Int) + 1 := by omega
        have HSY := Lib.hid (@timesTo_yes N F S X k l)
        have HSN := Lib.hid (@timesTo_no N F S X k l)
        have hbl : (timesTo N F l S X k).length ≤ 1000000000 := by have := length_timesTo N F l S X k; omega
        obtain ⟨c0, c1, c2⟩ := HB.out.box
        obtain ⟨q, hq⟩ : ∃ q, q = posN N F l S k := ⟨_, rfl⟩
        rw [← hq] at HAk HSY HSN
        clear hq
        rcases hcm : comesB N S k with _ | _
        · have HS2 := Lib.hid (HSN.out (by rw [hcm]; rfl))
          rw [hcm] at HCk
          clear hcm HSY HSN
          go_wp2_with fail
          go_at_call 55
          refine (HCk.out _).mono ?_
          rintro e w3 ⟨rfl, bb⟩
          have HB3 := Lib.hid (HB.out.more bb)
          have HO3 := Lib.hid (HO.out.below bb (Nat.le_refl _))
          clear bb c0 c1 c2
          go_wp2
          go_roundw
          case rel => exact ⟨k + 1, by omega, by go_num, Lib.hid (by rw [HS2.out]; exact HO3.out), HB3⟩
          case measure => simp [intOf]; omega
        · rw [hcm] at HCk
          by_cases hqX : q = X
          · have HS2 := Lib.hid (HSY.out (by rw [hcm, decide_eq_true hqX]; rfl))
            have hqq : ((q : Int) == (X : Int)) = true := by rw [beq_iff_eq]; omega
            clear hcm HSY HSN hqX
            go_wp2_with fail
            go_at_call 55
            refine (HCk.out _).mono ?_
            rintro e w3 ⟨rfl, bb⟩
            have HB3 := Lib.hid (HB.out.more bb)
            have HO3 := Lib.hid (HO.out.below bb (Nat.le_refl _))
            clear bb c0 c1 c2
            obtain ⟨c0, c1, c2⟩ := HB3.out.box
            go_wp2_with fail
            go_at_call 48
            refine (HAk.out _).mono ?_
            rintro e w4 ⟨rfl, bb⟩
            have HB4 := Lib.hid (HB3.out.more bb)
            have HO4 := Lib.hid (HO3.out.below bb (Nat.le_refl _))
            clear bb c0 c1 c2
            have hz : w.heap.size + 1 ≤ w4.heap.size := HB4.out.size
            go_wp2_with (at_builtin; refine wpList_app rfl _ _ rfl w4 _ _ _ _ rfl rfl HO4.out hz hbl ?_; intro v5 w5 hO5 hB5; have HO5 : Hid (Own w5 (w.heap.size + 1) v5 (timesTo N F l S X (k + 1))) := Lib.hid (by rw [HS2.out]; exact hO5); have HB5 : Hid (KB1 w F l S w5) := Lib.hid (Below.trans HB4.out (by rw [alloc_size1]; exact hB5)); clear hO5 hB5)
            go_roundw
            case rel => exact ⟨k + 1, by omega, by go_num, HO5, HB5⟩
            case measure => simp [intOf]; omega
          · have HS2 := Lib.hid (HSN.out (by rw [hcm, decide_eq_false hqX]; rfl))
            have hqq : ((q : Int) == (X : Int)) = false := by rw [beq_eq_false_iff_ne]; omega
            clear hcm HSY HSN hqX
            go_wp2_with fail
            go_at_call 55
            refine (HCk.out _).mono ?_
            rintro e w3 ⟨rfl, bb⟩
            have HB3 := Lib.hid (HB.out.more bb)
            have HO3 := Lib.hid (HO.out.below bb (Nat.le_refl _))
            clear bb c0 c1 c2
            obtain ⟨c0, c1, c2⟩ := HB3.out.box
            go_wp2_with fail
            go_at_call 48
            refine (HAk.out _).mono ?_
            rintro e w4 ⟨rfl, bb⟩
            have HB4 := Lib.hid (HB3.out.more bb)
            have HO4 := Lib.hid (HO3.out.below bb (Nat.le_refl _))
            clear bb c0 c1 c2
            go_wp2
            go_roundw
            case rel => exact ⟨k + 1, by omega, by go_num, Lib.hid (by rw [HS2.out]; exact HO4.out), HB4⟩
            case measure => simp [intOf]; omega
      · have i2 : ¬ (k : Int) < (Y : Int) + 1 := by omega
        have HF : Hid (timesTo N F l S X k = timesTo N F l S X (Y + 1)) := Lib.hid (by rw [show k = Y + 1 by omega])
        go_wp2
        go_ret2
        exact ⟨_, by rw [H0.out.2]; exact rfl, by rw [H0.out.1, ← HF.out]; exact HO.out.mono (by omega), HB.out.down⟩

set_option maxHeartbeats 8000000 in
theorem meet_any (n f s g u t : Nat) (l m : Bool) (hg : OkS n f s) (hh : OkS n g u) (ht : t ≤ 1000000) (w : World) :
    Calls Try.prog 58 #[.int .i64 n, .agg #[.int .i64 f, .bool l, .int .i64 s], .agg #[.int .i64 g, .bool m, .int .i64 u], .int .i64 t] w fun e w' => e = .returned (.bool (meetB n f l s g m u t)) ∧ Below w.heap.size w w' := by
  have HA : Hid (∀ (f s v : Nat) (l : Bool), AtV n t f l s v → ∀ w2, Calls Try.prog 48 #[.agg #[.int .i64 f, .bool l, .int .i64 s], .int .i64 n, .int .i64 t] w2 fun e w' => e = .returned (.int .i64 (v : Nat)) ∧ Below w2.heap.size w2 w') := Lib.hid (fun f s v l h w2 => by have := at_any n f s t l h.ok ht w2; rwa [h.at'] at this)
  have HC : Hid (∀ (f s : Nat) (l b : Bool), CoV n t f l s b → ∀ w2, Calls Try.prog 55 #[.agg #[.int .i64 f, .bool l, .int .i64 s], .int .i64 n, .int .i64 t] w2 fun e w' => e = .returned (.bool b) ∧ Below w2.heap.size w2 w') := Lib.hid (fun f s l b h w2 => by have := comesAt_any n f s t l h.ok ht w2; rwa [h.co] at this)
  obtain ⟨p, hp⟩ : ∃ p, p = posN n f l s t := ⟨_, rfl⟩
  obtain ⟨q, hq⟩ : ∃ p, p = posN n g m u t := ⟨_, rfl⟩
  obtain ⟨b, hb⟩ : ∃ p, p = comesB n s t := ⟨_, rfl⟩
  obtain ⟨c, hc⟩ : ∃ p, p = comesB n u t := ⟨_, rfl⟩
  have a1 : AtV n t f l s p := ⟨hg, hp.symm⟩
  have a2 : AtV n t g m u q := ⟨hh, hq.symm⟩
  have b1 : CoV n t f l s b := ⟨hg, hb.symm⟩
  have b2 : CoV n t g m u c := ⟨hh, hc.symm⟩
  have HE : Hid (meetB n f l s g m u t = (((p : Int) == (q : Int)) && (b || c))) := Lib.hid (by
    unfold meetB; rw [← hp, ← hq, ← hb, ← hc, Bool.and_comm]
    congr 1
    rw [Bool.eq_iff_iff, beq_iff_eq, decide_eq_true_iff]; omega)
  clear hp hq hb hc hg hh ht
  have K0 := Lib.hid (KB2.start w f l s g m u)
  obtain ⟨ws, hws⟩ : ∃ ws, ws = (w.alloc (.cells #[.int .i64 (f : Int), .bool l, .int .i64 (s : Int)] 33)).alloc (.cells #[.int .i64 (g : Int), .bool m, .int .i64 (u : Int)] 33) := ⟨_, rfl⟩
  rw [← hws] at K0
  rcases hpq : ((p : Int) == (q : Int)) with _ | _
  · have HP := Lib.hid hpq
    go_enter Try.func58, Try.ntmps58
    go_wp2_with fail
    rw [← hws]
    clear hws
    have ex0 : ∀ X : Lw ws, X.w.cell? ⟨w.heap.size, 0, none⟩ = some (.int .i64 (f : Int)) := fun X => X.cell K0.out.box1.1
    have ex1 : ∀ X : Lw ws, X.w.cell? ⟨w.heap.size, 1, none⟩ = some (.bool l) := fun X => X.cell K0.out.box1.2.1
    have ex2 : ∀ X : Lw ws, X.w.cell? ⟨w.heap.size, 2, none⟩ = some (.int .i64 (s : Int)) := fun X => X.cell K0.out.box1.2.2
    have ey0 : ∀ X : Lw ws, X.w.cell? ⟨w.heap.size + 1, 0, none⟩ = some (.int .i64 (g : Int)) := fun X => X.cell K0.out.box2.1
    have ey1 : ∀ X : Lw ws, X.w.cell? ⟨w.heap.size + 1, 1, none⟩ = some (.bool m) := fun X => X.cell K0.out.box2.2.1
    have ey2 : ∀ X : Lw ws, X.w.cell? ⟨w.heap.size + 1, 2, none⟩ = some (.int .i64 (u : Int)) := fun X => X.cell K0.out.box2.2.2
    refine wp_region_lw (by kernel_rfl) (by kernel_rfl) ?_
    repeat (go_big_quiet_step (first | (go_at_call 48; exact lw_call (fun w2 _ => HA.out _ _ _ _ (by assumption) w2) _) | (go_at_call 55; exact lw_call (fun w2 _ => HC.out _ _ _ _ (by assumption) w2) _)))
    refine wpQuiet_nil ?_
    rintro w' ⟨X, rfl⟩
    go_wp2
    go_ret
    exact ⟨ret_bool (by rw [HE.out, HP.out]; first | rfl | skip), (K0.out.more X.b).down⟩
  have HP := Lib.hid hpq
  rcases b with _ | _
  · go_enter Try.func58, Try.ntmps58
    go_wp2_with fail
    rw [← hws]
    clear hws
    have ex0 : ∀ X : Lw ws, X.w.cell? ⟨w.heap.size, 0, none⟩ = some (.int .i64 (f : Int)) := fun X => X.cell K0.out.box1.1
    have ex1 : ∀ X : Lw ws, X.w.cell? ⟨w.heap.size, 1, none⟩ = some (.bool l) := fun X => X.cell K0.out.box1.2.1
    have ex2 : ∀ X : Lw ws, X.w.cell? ⟨w.heap.size, 2, none⟩ = some (.int .i64 (s : Int)) := fun X => X.cell K0.out.box1.2.2
    have ey0 : ∀ X : Lw ws, X.w.cell? ⟨w.heap.size + 1, 0, none⟩ = some (.int .i64 (g : Int)) := fun X => X.cell K0.out.box2.1
    have ey1 : ∀ X : Lw ws, X.w.cell? ⟨w.heap.size + 1, 1, none⟩ = some (.bool m) := fun X => X.cell K0.out.box2.2.1
    have ey2 : ∀ X : Lw ws, X.w.cell? ⟨w.heap.size + 1, 2, none⟩ = some (.int .i64 (u : Int)) := fun X => X.cell K0.out.box2.2.2
    refine wp_region_lw (by kernel_rfl) (by kernel_rfl) ?_
    repeat (go_big_quiet_step (first | (go_at_call 48; exact lw_call (fun w2 _ => HA.out _ _ _ _ (by assumption) w2) _) | (go_at_call 55; exact lw_call (fun w2 _ => HC.out _ _ _ _ (by assumption) w2) _)))
    refine wpQuiet_nil ?_
    rintro w' ⟨X, rfl⟩
    go_wp2
    go_ret
    exact ⟨ret_bool (by rw [HE.out, HP.out]; first | rfl | skip), (K0.out.more X.b).down⟩
  · go_enter Try.func58, Try.ntmps58
    go_wp2_with fail
    rw [← hws]
    clear hws
    have ex0 : ∀ X : Lw ws, X.w.cell? ⟨w.heap.size, 0, none⟩ = some (.int .i64 (f : Int)) := fun X => X.cell K0.out.box1.1
    have ex1 : ∀ X : Lw ws, X.w.cell? ⟨w.heap.size, 1, none⟩ = some (.bool l) := fun X => X.cell K0.out.box1.2.1
    have ex2 : ∀ X : Lw ws, X.w.cell? ⟨w.heap.size, 2, none⟩ = some (.int .i64 (s : Int)) := fun X => X.cell K0.out.box1.2.2
    have ey0 : ∀ X : Lw ws, X.w.cell? ⟨w.heap.size + 1, 0, none⟩ = some (.int .i64 (g : Int)) := fun X => X.cell K0.out.box2.1
    have ey1 : ∀ X : Lw ws, X.w.cell? ⟨w.heap.size + 1, 1, none⟩ = some (.bool m) := fun X => X.cell K0.out.box2.2.1
    have ey2 : ∀ X : Lw ws, X.w.cell? ⟨w.heap.size + 1, 2, none⟩ = some (.int .i64 (u : Int)) := fun X => X.cell K0.out.box2.2.2
    refine wp_region_lw (by kernel_rfl) (by kernel_rfl) ?_
    repeat (go_big_quiet_step (first | (go_at_call 48; exact lw_call (fun w2 _ => HA.out _ _ _ _ (by assumption) w2) _) | (go_at_call 55; exact lw_call (fun w2 _ => HC.out _ _ _ _ (by assumption) w2) _)))
    refine wpQuiet_nil ?_
    rintro w' ⟨X, rfl⟩
    go_wp2
    go_ret
    exact ⟨ret_bool (by rw [HE.out, HP.out]; first | rfl | skip), (K0.out.more X.b).down⟩

set_option maxHeartbeats 4000000 in
theorem firstMeeting_any (N F S P U E : Nat) (l m : Bool) (hg : OkS N F S) (hh : OkS N P U) (hE : E ≤ 1) (w : World) :
    Calls Try.prog 57 #[.int .i64 N, .agg #[.int .i64 F, .bool l, .int .i64 S], .agg #[.int .i64 P, .bool m, .int .i64 U], .int .i64 E] w fun e w' => e = .returned (.tuple #[.int .i64 (fm0 (meetB N F l S P m U) E), .int .i64 (fm1 (meetB N F l S P m U) (posN N F l S) E), .bool (fm2 (meetB N F l S P m U) E)]) ∧ Below w.heap.size w w' := by
  have HM := Lib.hid (fun T (h : T ≤ 1000000) w2 => meet_any N F S P U T l m hg hh h w2)
  have HA := Lib.hid (fun T (h : T ≤ 1000000) w2 => at_any N F S T l hg h w2)
  have HE1 : Hid (∀ k, (∀ j, j < k → meetB N F l S P m U (j + E) = false) → meetB N F l S P m U (k + E) = true → k < 100001 - E → fm0 (meetB N F l S P m U) E = ((k + E : Nat) : Int) ∧ fm1 (meetB N F l S P m U) (posN N F l S) E = (posN N F l S (k + E) : Nat) ∧ fm2 (meetB N F l S P m U) E = true) := Lib.hid (fun k h1 h2 h3 => by
    unfold fm0 fm1 fm2; rw [fromTo_hit h1 h2 h3]; exact ⟨rfl, rfl, rfl⟩)
  have HE2 : Hid ((∀ j, j < 100001 - E → meetB N F l S P m U (j + E) = false) → fm0 (meetB N F l S P m U) E = 0 ∧ fm1 (meetB N F l S P m U) (posN N F l S) E = 0 ∧ fm2 (meetB N F l S P m U) E = false) := Lib.hid (fun h1 => by
    unfold fm0 fm1 fm2; rw [fromTo_miss h1]; exact ⟨rfl, rfl, rfl⟩)
  clear hg hh
  go_enter Try.func57, Try.ntmps57
  go_wp2_with fail
  go_loopw [11] (fun i wr => ∃ k : Nat, k + E ≤ 100001 ∧ i = .int .i64 ((k + E : Nat) : Int) ∧ Hid (∀ j, j < k → meetB N F l S P m U (j + E) = false) ∧ Hid (KB2 w F l S P m U wr)) (fun i _ => 100001 - (intOf i).toNat)
  case atStart => exact ⟨0, by omega, by rw [Nat.zero_add], Lib.hid (fun j h => absurd h (Nat.not_lt_zero _)), Lib.hid (KB2.start ..)⟩
  case round =>
    obtain ⟨k0, hk, rfl, HN0, HB⟩ := hrel
    obtain ⟨k, hkk⟩ : ∃ k, k = k0 + E := ⟨_, rfl⟩
    have HKK := Lib.hid hkk
    rw [← hkk]
    have hk2 : k ≤ 100001 := by omega
    clear hkk hk
    obtain ⟨c0, c1, c2⟩ := HB.out.box1
    obtain ⟨d0, d1, d2⟩ := HB.out.box2
    by_cases hlt : k < 100001
    · have hkT : k ≤ 1000000 := by omega
      have HMk := Lib.hid (HM.out k hkT)
      have HAk := Lib.hid (HA.out k hkT)
      have i2 : (k : Int) ≤ 100000 := by omega
      have HPk : Hid (meetB N F l S P m U (k0 + E) = meetB N F l S P m U k) := Lib.hid (by rw [HKK.out])
      rcases hcm : meetB N F l S P m U k with _ | _
      · rw [hcm] at HMk HPk
        have HN2 : Hid (∀ j, j < k0 + 1 → meetB N F l S P m U (j + E) = false) := Lib.hid (fun j hj => by
          by_cases e : j = k0
          · subst e; exact HPk.out
          · exact HN0.out j (by omega))
        clear hcm
        go_wp2_with fail
        go_at_call 58
        refine (HMk.out _).mono ?_
        rintro e w4 ⟨rfl, bb⟩
        have HB4 := Lib.hid (HB.out.more bb)
        clear bb c0 c1 c2 d0 d1 d2
        go_wp2
        go_roundw
        case rel => exact ⟨k0 + 1, by have := HKK.out; omega, by have := HKK.out; exact int_eq (by omega), HN2, HB4⟩
        case measure => simp [intOf]; omega
      · rw [hcm] at HMk HPk
        have H0 := Lib.hid (HE1.out k0 HN0.out HPk.out (by have := HKK.out; omega))
        rw [← HKK.out] at H0
        clear hcm
        go_wp2_with fail
        go_at_call 58
        refine (HMk.out _).mono ?_
        rintro e w4 ⟨rfl, bb⟩
        have HB4 := Lib.hid (HB.out.more bb)
        clear bb c0 c1 c2 d0 d1 d2
        obtain ⟨c0, c1, c2⟩ := HB4.out.box1
        go_wp2_with fail
        go_at_call 48
        refine (HAk.out _).mono ?_
        rintro e w5 ⟨rfl, bb⟩
        have HB5 := Lib.hid (HB4.out.more bb)
        clear bb c0 c1 c2
        go_wp2
        go_ret3
        exact ⟨by rw [H0.out.1, H0.out.2.1, H0.out.2.2]; exact rfl, HB5.out.down⟩
    · have i2 : ¬ (k : Int) ≤ 100000 := by omega
      have H0 := Lib.hid (HE2.out (fun j hj => HN0.out j (by have := HKK.out; omega)))
      clear c0 c1 c2 d0 d1 d2
      go_wp2
      go_ret3
      exact ⟨by rw [H0.out.1, H0.out.2.1, H0.out.2.2]; exact rfl, HB.out.down⟩

set_option maxHeartbeats 4000000 in
theorem implFirstMeeting_any (w : World) (n : Int) (f : Int) (l : Bool) (s g : Int) (m : Bool) (u : Int) (_wn : (Lit.int .i64 n).wf = true) :
    Calls Try.prog 29 #[.int .i64 n, .agg #[.int .i64 f, .bool l, .int .i64 s], .agg #[.int .i64 g, .bool m, .int .i64 u]] w fun e w' => e = .returned (.tuple #[.int .i64 (outFirstMeeting_0 n (f, l, s) (g, m, u)), .int .i64 (outFirstMeeting_1 n (f, l, s) (g, m, u)), .bool (outFirstMeeting_2 n (f, l, s) (g, m, u))]) ∧ Below w.heap.size w w' := by
  clear _wn
  have HS := Lib.hid (fun w2 => isIn_any n f s l w2)
  have HT := Lib.hid (fun w2 => isIn_any n g u m w2)
  rcases hb0 : sigB n (f, l, s) with _ | _
  · have H0 : Hid (outFirstMeeting_0 n (f, l, s) (g, m, u) = 0 ∧ outFirstMeeting_1 n (f, l, s) (g, m, u) = 0 ∧ outFirstMeeting_2 n (f, l, s) (g, m, u) = false) := Lib.hid (by unfold outFirstMeeting_0 outFirstMeeting_1 outFirstMeeting_2; rw [hb0]; exact ⟨rfl, rfl, rfl⟩)
    rw [hb0] at HS
    clear hb0
    go_enter Try.func29, Try.ntmps29
    go_wp2_with fail
    go_at_call 42
    refine (HS.out _).mono ?_
    rintro e w2 ⟨rfl, bb⟩
    have Kw2 : Hid (KB2 w f l s g m u w2) := Lib.hid bb
    clear bb
    go_wp2
    go_ret3
    exact ⟨by rw [H0.out.1, H0.out.2.1, H0.out.2.2]; exact rfl, Kw2.out.down⟩
  rcases hb1 : sigB n (g, m, u) with _ | _
  · have H0 : Hid (outFirstMeeting_0 n (f, l, s) (g, m, u) = 0 ∧ outFirstMeeting_1 n (f, l, s) (g, m, u) = 0 ∧ outFirstMeeting_2 n (f, l, s) (g, m, u) = false) := Lib.hid (by unfold outFirstMeeting_0 outFirstMeeting_1 outFirstMeeting_2; rw [hb0, hb1]; exact ⟨rfl, rfl, rfl⟩)
    rw [hb0] at HS
    rw [hb1] at HT
    clear hb0 hb1
    go_enter Try.func29, Try.ntmps29
    go_wp2_with fail
    go_at_call 42
    refine (HS.out _).mono ?_
    rintro e w2 ⟨rfl, bb⟩
    have Kw2 : Hid (KB2 w f l s g m u w2) := Lib.hid bb
    clear bb
    obtain ⟨d0, d1, d2⟩ := Kw2.out.box2
    go_wp2_with fail
    go_at_call 42
    refine (HT.out _).mono ?_
    rintro e w3 ⟨rfl, bb⟩
    have Kw3 := Lib.hid (Kw2.out.more bb)
    clear bb
    go_wp2
    go_ret3
    exact ⟨by rw [H0.out.1, H0.out.2.1, H0.out.2.2]; exact rfl, Kw3.out.down⟩
  · obtain ⟨N, F, S, rfl, hp, hg⟩ := sig_nat hb0
    obtain ⟨rfl, rfl⟩ : f = (F : Int) ∧ s = (S : Int) := by injection hp with h1 h2; injection h2 with _ h3; exact ⟨h1, h3⟩
    obtain ⟨N', P, U, hN, hp2, hh⟩ := sig_nat hb1
    obtain rfl : N = N' := by omega
    obtain ⟨rfl, rfl⟩ : g = (P : Int) ∧ u = (U : Int) := by injection hp2 with h1 h2; injection h2 with _ h3; exact ⟨h1, h3⟩
    have H0 : Hid (outFirstMeeting_0 N ((F : Int), l, (S : Int)) ((P : Int), m, (U : Int)) = fm0 (meetB N F l S P m U) 0 ∧ outFirstMeeting_1 N ((F : Int), l, (S : Int)) ((P : Int), m, (U : Int)) = fm1 (meetB N F l S P m U) (posN N F l S) 0 ∧ outFirstMeeting_2 N ((F : Int), l, (S : Int)) ((P : Int), m, (U : Int)) = fm2 (meetB N F l S P m U) 0) := Lib.hid (by
      unfold outFirstMeeting_0 outFirstMeeting_1 outFirstMeeting_2 fm0 fm1 fm2
      rw [hb0, hb1, fromTo_zero, show meetP (N : Int) ((F : Int), l, (S : Int)) ((P : Int), m, (U : Int)) = meetB N F l S P m U from rfl]
      rcases firstTo (meetB N F l S P m U) 100001 with _ | k
      · exact ⟨rfl, rfl, rfl⟩
      · exact ⟨rfl, rfl, rfl⟩)
    have HM := Lib.hid (fun w2 => firstMeeting_any N F S P U 0 l m hg hh (by omega) w2)
    rw [hb0] at HS
    rw [hb1] at HT
    clear hb0 hb1 hp hg hp2 hh hN
    go_enter Try.func29, Try.ntmps29
    go_wp2_with fail
    go_at_call 42
    refine (HS.out _).mono ?_
    rintro e w2 ⟨rfl, bb⟩
    have Kw2 : Hid (KB2 w F l S P m U w2) := Lib.hid bb
    clear bb
    obtain ⟨d0, d1, d2⟩ := Kw2.out.box2
    go_wp2_with fail
    go_at_call 42
    refine (HT.out _).mono ?_
    rintro e w3 ⟨rfl, bb⟩
    have Kw3 := Lib.hid (Kw2.out.more bb)
    clear bb d0 d1 d2
    obtain ⟨c0, c1, c2⟩ := Kw3.out.box1
    obtain ⟨d0, d1, d2⟩ := Kw3.out.box2
    go_wp2_with fail
    go_at_call 57
    refine (HM.out _).mono ?_
    rintro e w4 ⟨rfl, bb⟩
    have Kw4 := Lib.hid (Kw3.out.more bb)
    clear bb c0 c1 c2 d0 d1 d2
    go_wp2
    go_ret3
    exact ⟨by rw [H0.out.1, H0.out.2.1, H0.out.2.2]; exact rfl, Kw4.out.down⟩

set_option maxHeartbeats 4000000 in
theorem implCountMeetings_any (w : World) (n : Int) (f : Int) (l : Bool) (s g : Int) (m : Bool) (u : Int) (y : Int) (_wn : (Lit.int .i64 n).wf = true) (_wy : (Lit.int .i64 y).wf = true) :
    Calls Try.prog 31 #[.int .i64 n, .agg #[.int .i64 f, .bool l, .int .i64 s], .agg #[.int .i64 g, .bool m, .int .i64 u], .int .i64 y] w fun e w' => e = .returned (.tuple #[.int .i64 (outCountMeetings_0 n (f, l, s) (g, m, u) y), .bool (outCountMeetings_1 n (f, l, s) (g, m, u) y)]) ∧ Below w.heap.size w w' := by
  clear _wn _wy
  have HS := Lib.hid (fun w2 => isIn_any n f s l w2)
  have HT := Lib.hid (fun w2 => isIn_any n g u m w2)
  have HY := Lib.hid (fun w2 => isTimeTold_any y w2)
  rcases hb0 : sigB n (f, l, s) with _ | _
  · have H0 : Hid (outCountMeetings_0 n (f, l, s) (g, m, u) y = 0 ∧ outCountMeetings_1 n (f, l, s) (g, m, u) y = false) := Lib.hid (by unfold outCountMeetings_0 outCountMeetings_1; rw [hb0]; exact ⟨rfl, rfl⟩)
    rw [hb0] at HS
    clear hb0
    go_enter Try.func31, Try.ntmps31
    go_wp2_with fail
    go_at_call 42
    refine (HS.out _).mono ?_
    rintro e w2 ⟨rfl, bb⟩
    have Kw2 : Hid (KB2 w f l s g m u w2) := Lib.hid bb
    clear bb
    go_wp2
    go_ret2
    exact ⟨by rw [H0.out.1, H0.out.2]; exact rfl, Kw2.out.down⟩
  rcases hb1 : sigB n (g, m, u) with _ | _
  · have H0 : Hid (outCountMeetings_0 n (f, l, s) (g, m, u) y = 0 ∧ outCountMeetings_1 n (f, l, s) (g, m, u) y = false) := Lib.hid (by unfold outCountMeetings_0 outCountMeetings_1; rw [hb0, hb1]; exact ⟨rfl, rfl⟩)
    rw [hb0] at HS
    rw [hb1] at HT
    clear hb0 hb1
    go_enter Try.func31, Try.ntmps31
    go_wp2_with fail
    go_at_call 42
    refine (HS.out _).mono ?_
    rintro e w2 ⟨rfl, bb⟩
    have Kw2 : Hid (KB2 w f l s g m u w2) := Lib.hid bb
    clear bb
    obtain ⟨d0, d1, d2⟩ := Kw2.out.box2
    go_wp2_with fail
    go_at_call 42
    refine (HT.out _).mono ?_
    rintro e w3 ⟨rfl, bb⟩
    have Kw3 := Lib.hid (Kw2.out.more bb)
    clear bb
    go_wp2
    go_ret2
    exact ⟨by rw [H0.out.1, H0.out.2]; exact rfl, Kw3.out.down⟩
  rcases hb2 : inB y 0 1000 with _ | _
  · have H0 : Hid (outCountMeetings_0 n (f, l, s) (g, m, u) y = 0 ∧ outCountMeetings_1 n (f, l, s) (g, m, u) y = false) := Lib.hid (by unfold outCountMeetings_0 outCountMeetings_1; rw [hb0, hb1, hb2]; exact ⟨rfl, rfl⟩)
    rw [hb0] at HS
    rw [hb1] at HT
    rw [hb2] at HY
    clear hb0 hb1 hb2
    go_enter Try.func31, Try.ntmps31
    go_wp2_with fail
    go_at_call 42
    refine (HS.out _).mono ?_
    rintro e w2 ⟨rfl, bb⟩
    have Kw2 : Hid (KB2 w f l s g m u w2) := Lib.hid bb
    clear bb
    obtain ⟨d0, d1, d2⟩ := Kw2.out.box2
    go_wp2_with fail
    go_at_call 42
    refine (HT.out _).mono ?_
    rintro e w3 ⟨rfl, bb⟩
    have Kw3 := Lib.hid (Kw2.out.more bb)
    clear bb
    go_wp2_with fail
    go_at_call 54
    refine (HY.out _).mono ?_
    rintro e ww ⟨rfl, rfl⟩
    go_wp2
    go_ret2
    exact ⟨by rw [H0.out.1, H0.out.2]; exact rfl, Kw3.out.down⟩
  · obtain ⟨N, F, S, rfl, hp, hg⟩ := sig_nat hb0
    obtain ⟨rfl, rfl⟩ : f = (F : Int) ∧ s = (S : Int) := by injection hp with h1 h2; injection h2 with _ h3; exact ⟨h1, h3⟩
    obtain ⟨N', P, U, hN, hp2, hh⟩ := sig_nat hb1
    obtain rfl : N = N' := by omega
    obtain ⟨rfl, rfl⟩ : g = (P : Int) ∧ u = (U : Int) := by injection hp2 with h1 h2; injection h2 with _ h3; exact ⟨h1, h3⟩
    obtain ⟨y1, y2⟩ := inB_yes hb2
    obtain ⟨Y, rfl⟩ : ∃ T : Nat, y = (T : Int) := ⟨y.toNat, by omega⟩
    have H0 : Hid (outCountMeetings_0 N ((F : Int), l, (S : Int)) ((P : Int), m, (U : Int)) Y = (cntTo (meetB N F l S P m U) (Y + 1) : Nat) ∧ outCountMeetings_1 N ((F : Int), l, (S : Int)) ((P : Int), m, (U : Int)) Y = true) := Lib.hid (by
      unfold outCountMeetings_0 outCountMeetings_1; rw [hb0, hb1, hb2]; exact ⟨rfl, rfl⟩)
    have HM := Lib.hid (fun T (h : T ≤ 1000000) w2 => meet_any N F S P U T l m hg hh h w2)
    obtain ⟨p, hpp⟩ : ∃ p, p = meetB N F l S P m U := ⟨_, rfl⟩
    rw [← hpp] at HM H0
    rw [hb0] at HS
    rw [hb1] at HT
    rw [hb2] at HY
    clear hb0 hb1 hb2 hp hg hp2 hh hN hpp
    go_enter Try.func31, Try.ntmps31
    go_wp2_with fail
    go_at_call 42
    refine (HS.out _).mono ?_
    rintro e w2 ⟨rfl, bb⟩
    have Kw2 : Hid (KB2 w F l S P m U w2) := Lib.hid bb
    clear bb
    obtain ⟨d0, d1, d2⟩ := Kw2.out.box2
    go_wp2_with fail
    go_at_call 42
    refine (HT.out _).mono ?_
    rintro e w3 ⟨rfl, bb⟩
    have Kw3 := Lib.hid (Kw2.out.more bb)
    clear bb d0 d1 d2
    go_wp2_with fail
    go_at_call 54
    refine (HY.out _).mono ?_
    rintro e ww ⟨rfl, rfl⟩
    go_wp2_with fail
    go_loopw [10, 11, 29] (fun c j i wr => ∃ k : Nat, k ≤ Y + 1 ∧ i = .int .i64 (k : Int) ∧ c = .int .i64 (cntTo p k : Nat) ∧ Hid (KB2 w F l S P m U wr)) (fun _ _ i _ => Y + 1 - (intOf i).toNat)
    case atStart => exact ⟨0, Nat.zero_le _, rfl, rfl, Kw3⟩
    case round =>
      obtain ⟨k, hk, rfl, rfl, HB⟩ := hrel
      by_cases hlt : k < Y + 1
      · have hkT : k ≤ 1000000 := by omega
        have HMk := Lib.hid (HM.out k hkT)
        have i2 : (k : Int) < (Y : Int) + 1 := by omega
        have hcb := cntTo_le p k
        have HCY := Lib.hid (@cntTo_yes p k)
        have HCN := Lib.hid (@cntTo_no p k)
        obtain ⟨c0, c1, c2⟩ := HB.out.box1
        obtain ⟨d0, d1, d2⟩ := HB.out.box2
        rcases hcm : p k with _ | _
        · have HS2 := Lib.hid (HCN.out hcm)
          rw [hcm] at HMk
          clear hcm HCN HCY
          go_wp2_with fail
          go_at_call 58
          refine (HMk.out _).mono ?_
          rintro e w4 ⟨rfl, bb⟩
          have HB4 := Lib.hid (HB.out.more bb)
          clear bb c0 c1 c2 d0 d1 d2
          go_wp2
          go_roundw
          case rel => exact ⟨k + 1, by omega, by go_num, by rw [HS2.out], HB4⟩
          case measure => simp [intOf]; omega
        · have HS2 := Lib.hid (HCY.out hcm)
          rw [hcm] at HMk
          clear hcm HCN HCY
          go_wp2_with fail
          go_at_call 58
          refine (HMk.out _).mono ?_
          rintro e w4 ⟨rfl, bb⟩
          have HB4 := Lib.hid (HB.out.more bb)
          clear bb c0 c1 c2 d0 d1 d2
          go_wp2
          go_roundw
          case rel => exact ⟨k + 1, by omega, by go_num, by rw [HS2.out]; go_num, HB4⟩
          case measure => simp [intOf]; omega
      · have i2 : ¬ (k : Int) < (Y : Int) + 1 := by omega
        have HF : Hid (cntTo p k = cntTo p (Y + 1)) := Lib.hid (by rw [show k = Y + 1 by omega])
        go_wp2
        go_ret2
        exact ⟨by rw [H0.out.1, H0.out.2, ← HF.out]; exact rfl, HB.out.down⟩

set_option maxHeartbeats 4000000 in
theorem implMiddleMeeting_any (w : World) (n : Int) (_wn : (Lit.int .i64 n).wf = true) :
    Calls Try.prog 38 #[.int .i64 n] w fun e w' => e = .returned (.tuple #[.int .i64 (outMiddleMeeting_0 n), .int .i64 (outMiddleMeeting_1 n), .bool (outMiddleMeeting_2 n)]) ∧ Below w.heap.size w w' := by
  clear _wn
  by_cases h1 : n < 2
  · have H0 : Hid (outMiddleMeeting_0 n = 0 ∧ outMiddleMeeting_1 n = 0 ∧ outMiddleMeeting_2 n = false) := Lib.hid (by
      have hb : midB n = false := by
        unfold midB
        by_cases e : n = 1
        · rw [decide_eq_false (fun h => h e), Bool.and_false]
        · rw [inB_no (by omega)]; rfl
      unfold outMiddleMeeting_0 outMiddleMeeting_1 outMiddleMeeting_2; rw [hb]; exact ⟨rfl, rfl, rfl⟩)
    go_enter Try.func38, Try.ntmps38
    go_wp2
    go_ret3
    exact ⟨by rw [H0.out.1, H0.out.2.1, H0.out.2.2]; exact rfl, Below.refl _ _⟩
  by_cases h2 : n ≤ 100
  case neg =>
    have H0 : Hid (outMiddleMeeting_0 n = 0 ∧ outMiddleMeeting_1 n = 0 ∧ outMiddleMeeting_2 n = false) := Lib.hid (by
      have hb : midB n = false := by unfold midB; rw [inB_no (by omega)]; rfl
      unfold outMiddleMeeting_0 outMiddleMeeting_1 outMiddleMeeting_2; rw [hb]; exact ⟨rfl, rfl, rfl⟩)
    have h3 : 100 < n := by omega
    go_enter Try.func38, Try.ntmps38
    go_wp2
    go_ret3
    exact ⟨by rw [H0.out.1, H0.out.2.1, H0.out.2.2]; exact rfl, Below.refl _ _⟩
  case pos =>
    obtain ⟨N, rfl⟩ : ∃ N : Nat, n = (N : Int) := ⟨n.toNat, by omega⟩
    have H0 : Hid (outMiddleMeeting_0 N = fm0 (meetB N 0 false 1 0 false 3) 1 ∧ outMiddleMeeting_1 N = fm1 (meetB N 0 false 1 0 false 3) (posN N 0 false 1) 1 ∧ outMiddleMeeting_2 N = fm2 (meetB N 0 false 1 0 false 3) 1) := Lib.hid (by
      have hb : midB N = true := by unfold midB; rw [inB_of (by omega), decide_eq_true (by omega)]; rfl
      unfold outMiddleMeeting_0 outMiddleMeeting_1 outMiddleMeeting_2 fm0 fm1 fm2
      rw [hb, fromTo_one, show (N : Int).toNat = N by omega]
      rcases soonTo (midP N) 100000 with _ | k
      · exact ⟨rfl, rfl, rfl⟩
      · exact ⟨rfl, rfl, rfl⟩)
    have HM := Lib.hid (fun w2 => firstMeeting_any N 0 1 0 3 1 false false ⟨by omega, by omega, by omega, by omega, by omega⟩ ⟨by omega, by omega, by omega, by omega, by omega⟩ (by omega) w2)
    go_enter Try.func38, Try.ntmps38
    go_wp2_with fail
    go_at_call 57
    refine (HM.out _).mono ?_
    rintro e w4 ⟨rfl, bb⟩
    have Kw4 := Lib.hid bb
    clear bb
    go_wp2
    go_ret3
    exact ⟨by rw [H0.out.1, H0.out.2.1, H0.out.2.2]; exact rfl, Kw4.out⟩

end Go.Proofs.Ytmlamcimncfmcaa
