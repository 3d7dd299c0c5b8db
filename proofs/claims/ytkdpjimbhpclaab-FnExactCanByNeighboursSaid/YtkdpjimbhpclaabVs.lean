/- Chapter 7, the program: replaced, with neighbours. -/
import Derived.Test.YtkdpjimbhpclaabVk
import Derived.Test.YtkdpjimbhpclaabGo
import Derived.Test.YtkdpjimbhpclaabVq
namespace Go.Proofs.Ytkdpjimbhpclaab
open Go.ChangeShapes Go.WideShapes Go.ChangeAt Go.RowKit
open Rx Od Ed

/-- what holds at the label -/
def RpJN (w0 : World) (b n : Nat) (rn : Nat → Option (Nat × Nat)) (R : Option (List Int)) (p1 : Addr) (a' : Act) (w' : World) : Prop :=
  ∃ (p N : Nat) (d : List Bool) (st : List Int) (ao : Option Addr) (cap : Nat) (u7 u8 u9 u10 u11 u12 u13 u14 u15 u16 u17 u18 u19 u20 u21 u22 u23 u24 u25 u26 u27 u28 u29 u30 u31 u32 : Value), p ≤ n ∧ d.length = n ∧ N ≤ 200 + 2 * p ∧ st.length ≤ p ∧ a' = { tmps := List.toArray (Value.map (some b) :: Value.func (.func 62) #[] #[.pointer (some p1)] :: undef :: undef :: Value.slice none 0 0 :: Value.bool false :: Value.slice ao st.length cap :: u7 :: u8 :: u9 :: u10 :: u11 :: u12 :: u13 :: u14 :: u15 :: u16 :: u17 :: u18 :: u19 :: u20 :: u21 :: u22 :: u23 :: u24 :: u25 :: u26 :: u27 :: u28 :: u29 :: u30 :: u31 :: u32 :: []), defers := [] } ∧
    Hid (∀ i, i < p → d.getD i false = false) ∧ Hid (rep rn (n - p) p d st = R) ∧ Hid (Fst w' b N (edS d)) ∧ Hid (Own w' w0.heap.size (.slice ao st.length cap) st) ∧ Hid (w0.grownBy w' (some b))
set_option maxRecDepth 20000 in
set_option maxHeartbeats 2000000 in
theorem replacedN_p (w : World) (b n : Nat) (rn : Nat → Option (Nat × Nat)) (d0 : List Bool) (p1 : Addr) (hn : n ≤ 40) (hd : d0.length = n) (hF : Fst w b 200 (edS d0)) (hrn : ∀ q a c, rn q = some (a, c) → q < n → a = q ∧ q ≤ c ∧ c < n)
    (hcl : ∀ w2, w.grownBy w2 (some b) → ∀ x : Nat, x < n → Calls Try.prog 62 #[.int .i64 (x : Int), .pointer (some p1)] w2 fun e w' => e = .returned (runV (rn x)) ∧ Below w2.heap.size w2 w') :
    Calls Try.prog 61 #[.map (some b), .func (.func 62) #[] #[.pointer (some p1)]] w fun e w' => ∃ v, e = .returned (.tuple #[v, .bool (rep rn n 0 d0 []).isSome]) ∧ Own w' w.heap.size v ((rep rn n 0 d0 []).getD []) ∧ w.grownBy w' (some b) := by
  have hbl := hF.lt
  have HF := Lib.hid hF
  have HRN := Lib.hid hrn
  have HCL := Lib.hid hcl
  obtain ⟨R, hR⟩ : ∃ R, R = rep rn n 0 d0 [] := ⟨_, rfl⟩
  have HR := Lib.hid hR
  rw [← hR]
  clear hF hrn hcl hR
  go_enter Try.func61, Try.ntmps61
  go_wp2
  refine wp_scope_pass 0 (RpJN w b n rn R p1) (fun a' _ => n - lenV (a'.tmps.getD 6 undef)) rfl ?_ ?_
  · rintro a' wr ⟨p, N, d, st, ao, cap, u7, u8, u9, u10, u11, u12, u13, u14, u15, u16, u17, u18, u19, u20, u21, u22, u23, u24, u25, u26, u27, u28, u29, u30, u31, u32, hp, hdl, hN, hst, rfl, HZ, HP, HF2, HO, HG⟩
    have hsz := HG.out.size
    go_wp2_with (at_len; refine wpList_len _ rfl _ _ rfl Try.underlying66 rfl HF2.out ?_; intro c hc hc0; refine Stop.on ?_)
    by_cases h0 : c = 0
    · have HE : Hid (R = some st) := Lib.hid (by
        rw [← HP.out]
        refine rep_none _ _ _ _ _ fun i _ _ => none_of d (fun k => ?_) i
        rw [← edS_nat]
        exact hc0.2 h0 _)
      have hb : ((c : Int) == 0) = true := by rw [beq_iff_eq]; omega
      subst h0
      clear hc0
      refine ⟨?_⟩
      go_wp2
      simp only [Exit.jump]
      go_ret2
      exact ⟨_, by rw [HE.out]; rfl, by rw [HE.out]; exact HO.out, HG.out⟩
    · have hb : ((c : Int) == 0) = false := by rw [beq_eq_false_iff_ne]; omega
      obtain ⟨q, t, hpq, hqn, hq1, hq2, hks⟩ := first_key d n p hdl HZ.out (fun h => h0 (hc0.1 h))
      have HI := Lib.hid (inOrder_p wr b N (n + 1) (edS d) HF2.out (by omega) (by intro x hx; have := edS_in d x hx; rw [hdl] at this; exact this))
      rw [hks] at HI
      have HPQ : Hid (rep rn ((n - q - 1) + 1) q d st = R) := Lib.hid (by
        rw [show n - q - 1 + 1 = n - q by omega, ← rep_first rn d st n p q hpq hqn (fun i _ hi => hq2 i hi)]; exact HP.out)
      have HQ1 := Lib.hid hq1
      have HQ2 := Lib.hid hq2
      have HDL := Lib.hid hdl
      clear hc0 hks hq1 hq2 hc
      refine ⟨?_⟩
      go_wp2_with fail
      go_at_call 79
      refine HI.out.mono ?_
      rintro e w2 ⟨v2, rfl, O2, B2⟩
      obtain ⟨g, cap2, rfl, _, _⟩ := O2.point (by simp)
      have e1 := O2.cell rfl 0 (by simp)
      rw [show (((q : Nat) : Int) :: t).getD 0 0 = ((q : Nat) : Int) from rfl] at e1
      have hl2 : 0 < (((q : Nat) : Int) :: t).length := by simp
      obtain ⟨L, hL⟩ : ∃ L, L = (((q : Nat) : Int) :: t).length := ⟨_, rfl⟩
      rw [← hL] at hl2 ⊢
      have HG2 := Lib.hid (grownBy_trans HG.out (below_grownBy B2 (some b)))
      have HF3 := Lib.hid (HF2.out.below B2 HF2.out.lt)
      have HO2 := Lib.hid (HO.out.below B2 (Nat.le_refl _))
      have HC := Lib.hid (HCL.out w2 HG2.out q hqn)
      have i1 : (0 : Int) < (L : Int) := by omega
      clear O2 B2 hL
      rcases hrq : rn q with _ | ⟨a, c2⟩
      · have HE : Hid (R = none) := Lib.hid (by rw [← HPQ.out]; exact rep_fail HQ1.out hrq)
        rw [hrq, runV_none] at HC
        clear hrq
        go_wp2_with fail
        go_at_call 62
        refine HC.out.mono ?_
        rintro e w3 ⟨rfl, B3⟩
        have HG3 := Lib.hid (grownBy_trans HG2.out (below_grownBy B3 (some b)))
        clear B3
        go_wp2
        simp only [Exit.jump]
        go_ret2
        exact ⟨_, by rw [HE.out]; rfl, by rw [HE.out]; exact own_nil _ _, grownBy_trans HG3.out (World.grownBy_alloc _ _ _)⟩
      · obtain ⟨rfl, ha2, ha3⟩ := HRN.out q a c2 hrq hqn
        have HE : Hid (rep rn (n - (a + 1)) (a + 1) (turnTo d a (c2 + 1)) (st ++ [(a : Int)]) = R) := Lib.hid (by rw [← HPQ.out, rep_yes HQ1.out hrq, show n - (a + 1) = n - a - 1 by omega])
        rw [hrq, runV_some] at HC
        clear hrq
        go_wp2_with fail
        go_at_call 62
        refine HC.out.mono ?_
        rintro e w3 ⟨rfl, B3⟩
        have HA3 := Lib.hid (World.grownBy_alloc w3 (.cells #[.int .i64 (a : Int), .int .i64 (c2 : Int)] 69))
        have HG3 := Lib.hid (grownBy_trans (grownBy_trans HG2.out (below_grownBy B3 (some b))) (HA3.out (some b)))
        have HF4 := Lib.hid ((HF3.out.below B3 HF3.out.lt).kept (HA3.out none) (by simp))
        have HO3 := Lib.hid (own_alloc (HO2.out.below B3 (Nat.le_refl _)) (.cells #[.int .i64 (a : Int), .int .i64 (c2 : Int)] 69))
        have HGR := Lib.hid (giveRun_any _ b N d a c2 HF4.out (by omega) ha2 (by rw [HDL.out]; exact ha3) (by rw [HDL.out]; omega))
        have c0 : (w3.alloc (.cells #[.int .i64 (a : Int), .int .i64 (c2 : Int)] 69)).cell? ⟨w3.heap.size, 0, none⟩ = some (.int .i64 (a : Int)) := by rw [World.cell?_alloc_new]; rfl
        have c1 : (w3.alloc (.cells #[.int .i64 (a : Int), .int .i64 (c2 : Int)] 69)).cell? ⟨w3.heap.size, 1, none⟩ = some (.int .i64 (c2 : Int)) := by rw [World.cell?_alloc_new]; rfl
        clear B3
        go_wp2_with fail
        go_at_call 60
        refine HGR.out.mono ?_
        rintro e w4 ⟨rfl, F4, G4⟩
        have HF5 := Lib.hid F4
        have HG5 := Lib.hid (grownBy_trans HG3.out G4)
        have HO5 := Lib.hid (HO3.out.grown G4 (fun k hk => Or.inr (fun e => by
          cases hk
          have := (World.ownsRow.lt HO3.out _ e).1
          omega)))
        have hz5 : w.heap.size ≤ w4.heap.size := HG5.out.size
        have hul : st.length ≤ 1000000000 := by omega
        clear F4 G4 c0 c1
        go_wp2_with (at_builtin; refine wpList_app rfl _ _ rfl w4 _ _ _ _ rfl rfl HO5.out hz5 hul ?_; intro v6 w6 O6 B6; refine Stop.on ?_)
        obtain ⟨ao6, cap6, rfl⟩ := O6.any
        have HO6 := Lib.hid O6
        have HF6 := Lib.hid (HF5.out.below B6 (by omega))
        have HG6 := Lib.hid (grown_below HG5.out B6)
        clear O6 B6
        refine ⟨?_⟩
        go_wp2
        go_step3
        exact ⟨rfl, ⟨a + 1, N + 2, turnTo d a (c2 + 1), st ++ [(a : Int)], ao6, cap6, _, _, _, _, _, _, _, _, _, _, _, _, _, _, _, _, _, _, _, _, _, _, _, _, _, _, by omega, by rw [length_turnTo]; exact HDL.out, by omega, by rw [List.length_append, List.length_singleton]; omega, rfl, Lib.hid (fun i hi => by
          rw [turn_all _ _ _ _ (by rw [HDL.out]; omega)]
          by_cases e : i = a
          · subst e; rw [HQ1.out, decide_eq_true (by omega)]; rfl
          · rw [HQ2.out i (by omega), decide_eq_false (by omega)]; rfl), HE, HF6, HO6, HG6⟩, by simp [lenV]; omega⟩
  · intro H
    go_wp2
    go_step3
    simp only [Exit.then]
    rename_i K hK
    exact hK _ _ (H _ _ ⟨0, 200, d0, [], none, 0, _, _, _, _, _, _, _, _, _, _, _, _, _, _, _, _, _, _, _, _, _, _, _, _, _, _, Nat.zero_le _, hd, by omega, Nat.le_refl _, rfl, Lib.hid (fun i hi => absurd hi (Nat.not_lt_zero _)), Lib.hid HR.out.symm, HF, Lib.hid (own_nil _ _), Lib.hid ⟨rfl, rfl, rfl, Nat.le_refl _, fun _ _ _ => rfl⟩⟩)

end Go.Proofs.Ytkdpjimbhpclaab
