/- Chapter 7, the model: odChase, odBest; CanByNeighbours, NeighboursTo. -/
import Derived.Test.YtkdpjimbhpclaabOdd
namespace Go.Proofs.Ytkdpjimbhpclaab
open Go.ChangeShapes Go.WideShapes Go.ChangeAt Go.RowKit
open Rx Od

namespace Od
/-- the row and the orders behind the first k places -/
def chTo (l m : List Bool) (f : Bool) : Nat → List Bool × List Int
  | 0 => if f then (aroundL l 0, [0]) else (l, [])
  | k + 1 => if ((chTo l m f k).1.getD k false != m.getD k false) then (aroundL (chTo l m f k).1 (k + 1), (chTo l m f k).2 ++ [(k : Int) + 1]) else chTo l m f k
theorem chTo_len (l m : List Bool) (f : Bool) : ∀ i, (chTo l m f i).1.length = l.length ∧ (chTo l m f i).2.length ≤ i + 1
  | 0 => by
    rw [chTo]
    split
    · exact ⟨length_aroundL _ _, Nat.le_refl _⟩
    · exact ⟨rfl, Nat.zero_le _⟩
  | i + 1 => by
    have h := chTo_len l m f i
    rw [chTo]
    split
    · exact ⟨by rw [length_aroundL]; exact h.1, by rw [List.length_append, List.length_singleton]; omega⟩
    · exact ⟨h.1, by omega⟩
def chL (l m : List Bool) (f : Bool) : List Int := (chTo l m f (l.length - 1)).2
def chB (l m : List Bool) (f : Bool) : Bool := decide ((chTo l m f (l.length - 1)).1 = m)
theorem chL_len (l m : List Bool) (f : Bool) : (chL l m f).length ≤ l.length + 1 := by
  have := (chTo_len l m f (l.length - 1)).2
  unfold chL; omega
def bestB (l m : List Bool) : Bool := chB l m true || chB l m false
def bestL (l m : List Bool) : List Int := if chB l m true && (!chB l m false || decide ((chL l m true).length ≤ (chL l m false).length)) then chL l m true else if chB l m false then chL l m false else []
end Od

set_option maxHeartbeats 1000000 in
theorem odChase_any (w : World) (l m : List Bool) (f : Bool) (hl1 : 1 ≤ l.length) (hl : l.length ≤ 40) (hm : m.length = l.length) :
    Calls Try.prog 57 #[.string (Rw.str l), .string (Rw.str m), .bool f] w fun e w' => ∃ v, e = .returned (.tuple #[v, .bool (chB l m f)]) ∧ Own w' w.heap.size v (chL l m f) ∧ Below w.heap.size w w' := by
  have HA := Lib.hid (fun w2 => odAround_q l 0 hl1 (by omega) (by omega) w2)
  obtain ⟨s0, hs⟩ : ∃ s, s = Rw.str l := ⟨_, rfl⟩
  obtain ⟨t, ht⟩ : ∃ t, t = Rw.str m := ⟨_, rfl⟩
  have htz : t.size = l.length := by rw [ht, Rw.size_str, hm]
  have HT := Lib.hid ht
  have hs0 : s0.size = l.length := by rw [hs, Rw.size_str]
  rw [← hs] at HA
  have HS00 := Lib.hid hs
  rw [← hs, ← ht]
  obtain ⟨n, hn⟩ : ∃ n, n = l.length := ⟨_, rfl⟩
  have HLN := Lib.hid (fun i => (chTo_len l m f i).1)
  have HWL : Hid (chL l m f = (chTo l m f (n - 1)).2 ∧ chB l m f = decide ((chTo l m f (n - 1)).1 = m)) := Lib.hid (by rw [hn]; exact ⟨rfl, rfl⟩)
  have HAL : Hid ((aroundL l 0).length = n) := Lib.hid (by rw [length_aroundL]; exact hn.symm)
  rw [← hn] at HLN htz hl hl1 hs0
  have HTZ := Lib.hid htz
  have HSZ0 := Lib.hid hs0
  clear hs ht hm hn htz hs0
  cases f
  · have HS0 : Hid (s0 = Rw.str (chTo l m false 0).1) := HS00
    go_enter Try.func57, Try.ntmps57
    go_wp2
    go_loopw [0, 8, 9] (fun r v iv wr => ∃ (k : Nat) (s : ByteArray), k + 1 ≤ n ∧ iv = .int .i64 ((k : Int) + 1) ∧ r = .string s ∧ Hid (s = Rw.str (chTo l m false k).1) ∧ Hid (Own wr w.heap.size v (chTo l m false k).2) ∧ Hid (Below w.heap.size w wr)) (fun _ _ iv _ => n + 1 - (intOf iv).toNat)
    case atStart => exact ⟨0, s0, by omega, rfl, rfl, HS0, Lib.hid (own_nil _ _), Lib.hid (Below.refl _ _)⟩
    case round =>
      obtain ⟨k, s, hk, rfl, rfl, HS, HO, HB⟩ := hrel
      have hsz : s.size = n := by rw [HS.out, Rw.size_str, HLN.out]
      by_cases hlt : k + 1 < n
      · have his : k < s.size := by omega
        have hit : k < t.size := by have := HTZ.out; omega
        have g1 := byte_dif HS.out HT.out k his hit
        have HF : Hid (chTo l m false (k + 1) = if ((chTo l m false k).1.getD k false != m.getD k false) then (aroundL (chTo l m false k).1 (k + 1), (chTo l m false k).2 ++ [(k : Int) + 1]) else chTo l m false k) := Lib.hid rfl
        have HTU := Lib.hid (fun w2 => odAround_q (chTo l m false k).1 (k + 1) (by rw [HLN.out]; omega) (by rw [HLN.out]; omega) (by rw [HLN.out]; omega) w2)
        rw [← HS.out, show ((k + 1 : Nat) : Int) = (k : Int) + 1 by omega] at HTU
        have hol := (chTo_len l m false k).2
        obtain ⟨d, hd⟩ : ∃ d, d = ((chTo l m false k).1.getD k false != m.getD k false) := ⟨_, rfl⟩
        rw [← hd] at g1 HF
        obtain ⟨L, hL⟩ : ∃ L, L = chTo l m false k := ⟨_, rfl⟩
        rw [← hL] at HO HF HTU hol HS
        have hbl : L.2.length ≤ 1000000000 := by omega
        have hz := HB.out.size
        have e1 : (k : Int) + 1 - 1 = (k : Int) := by omega
        have i1 : (0 : Int) ≤ (k : Int) := by omega
        have i2 : (k : Int) < (s.size : Int) := by omega
        have i3 : (k : Int) < (t.size : Int) := by omega
        have i4 : (k : Int) + 1 < (s.size : Int) := by omega
        clear hd hL hsz
        cases d
        · have HS2 : Hid (chTo l m false (k + 1) = L) := Lib.hid (by rw [HF.out]; rfl)
          go_wp2_with fail
          go_quiet (fail)
          go_wp2
          go_roundw
          case rel => exact ⟨k + 1, s, by omega, by go_num, rfl, Lib.hid (by rw [HS2.out]; exact HS.out), Lib.hid (by rw [HS2.out]; exact HO.out), Lib.hid (below_drewN HB.out _)⟩
          case measure => simp [intOf]; omega
        · have HS2 : Hid (chTo l m false (k + 1) = (aroundL L.1 (k + 1), L.2 ++ [(k : Int) + 1])) := Lib.hid (by rw [HF.out]; rfl)
          go_wp2_with fail
          go_quiet (fail)
          go_wp2_with (first
            | (at_builtin; refine wpList_app rfl _ _ rfl (wr.drewN _) _ _ _ _ rfl rfl (HO.out.drewO _) hz hbl ?_; intro v' w5 hO hB5; have HO5 : Hid (Own w5 w.heap.size v' (chTo l m false (k + 1)).2) := Lib.hid (by rw [HS2.out]; exact hO); have HB5 : Hid (Below w.heap.size w w5) := Lib.hid ((below_drewN HB.out _).trans hB5); clear hO hB5)
            | (go_at_call 75; refine (HTU.out _).mono ?_; rintro e w2 ⟨rfl, k2, rfl⟩))
          exact ⟨⟨k + 1, _, by omega, by go_num, rfl, Lib.hid (by rw [HS2.out]), Lib.hid (HO5.out.drewO _), Lib.hid (below_drewN HB5.out _)⟩, by simp [intOf]; omega⟩
      · have hkn : k = n - 1 := by omega
        have HQ := Lib.hid (str_eqB HS.out HT.out)
        have hq := HQ.out
        have HQ2 : Hid (chL l m false = (chTo l m false k).2) := Lib.hid (by rw [hkn]; exact HWL.out.1)
        have HWB : Hid (chB l m false = decide ((chTo l m false k).1 = m)) := Lib.hid (by rw [hkn]; exact HWL.out.2)
        rw [← HWB.out] at hq
        have hge : ¬ (k : Int) + 1 < (s.size : Int) := by omega
        clear HQ hsz hkn
        go_wp2
        go_ret2
        exact ⟨_, rfl, by rw [HQ2.out]; exact HO.out, HB.out⟩
  · have HS0 : Hid (Rw.str (aroundL l 0) = Rw.str (chTo l m true 0).1) := Lib.hid rfl
    go_enter Try.func57, Try.ntmps57
    go_wp2_with (first
      | (at_builtin; refine wpList_app rfl _ _ rfl w _ _ [] _ rfl rfl (own_nil w w.heap.size) (Nat.le_refl _) (by simp) ?_; intro v' w5 hO hB5; have HO5 : Hid (Own w5 w.heap.size v' (chTo l m true 0).2) := Lib.hid hO; have HB5 := Lib.hid hB5; clear hO hB5)
      | (go_at_call 75; refine (HA.out _).mono ?_; rintro e w2 ⟨rfl, k2, rfl⟩))
    go_loopw [0, 8, 9] (fun r v iv wr => ∃ (k : Nat) (s : ByteArray), k + 1 ≤ n ∧ iv = .int .i64 ((k : Int) + 1) ∧ r = .string s ∧ Hid (s = Rw.str (chTo l m true k).1) ∧ Hid (Own wr w.heap.size v (chTo l m true k).2) ∧ Hid (Below w.heap.size w wr)) (fun _ _ iv _ => n + 1 - (intOf iv).toNat)
    case atStart => exact ⟨0, Rw.str (aroundL l 0), by omega, rfl, rfl, HS0, Lib.hid (HO5.out.drewO _), Lib.hid (below_drewN HB5.out _)⟩
    case round =>
      obtain ⟨k, s, hk, rfl, rfl, HS, HO, HB⟩ := hrel
      have hsz : s.size = n := by rw [HS.out, Rw.size_str, HLN.out]
      by_cases hlt : k + 1 < n
      · have his : k < s.size := by omega
        have hit : k < t.size := by have := HTZ.out; omega
        have g1 := byte_dif HS.out HT.out k his hit
        have HF : Hid (chTo l m true (k + 1) = if ((chTo l m true k).1.getD k false != m.getD k false) then (aroundL (chTo l m true k).1 (k + 1), (chTo l m true k).2 ++ [(k : Int) + 1]) else chTo l m true k) := Lib.hid rfl
        have HTU := Lib.hid (fun w2 => odAround_q (chTo l m true k).1 (k + 1) (by rw [HLN.out]; omega) (by rw [HLN.out]; omega) (by rw [HLN.out]; omega) w2)
        rw [← HS.out, show ((k + 1 : Nat) : Int) = (k : Int) + 1 by omega] at HTU
        have hol := (chTo_len l m true k).2
        obtain ⟨d, hd⟩ : ∃ d, d = ((chTo l m true k).1.getD k false != m.getD k false) := ⟨_, rfl⟩
        rw [← hd] at g1 HF
        obtain ⟨L, hL⟩ : ∃ L, L = chTo l m true k := ⟨_, rfl⟩
        rw [← hL] at HO HF HTU hol HS
        have hbl : L.2.length ≤ 1000000000 := by omega
        have hz := HB.out.size
        have e1 : (k : Int) + 1 - 1 = (k : Int) := by omega
        have i1 : (0 : Int) ≤ (k : Int) := by omega
        have i2 : (k : Int) < (s.size : Int) := by omega
        have i3 : (k : Int) < (t.size : Int) := by omega
        have i4 : (k : Int) + 1 < (s.size : Int) := by omega
        clear hd hL hsz
        cases d
        · have HS2 : Hid (chTo l m true (k + 1) = L) := Lib.hid (by rw [HF.out]; rfl)
          go_wp2_with fail
          go_quiet (fail)
          go_wp2
          go_roundw
          case rel => exact ⟨k + 1, s, by omega, by go_num, rfl, Lib.hid (by rw [HS2.out]; exact HS.out), Lib.hid (by rw [HS2.out]; exact HO.out), Lib.hid (below_drewN HB.out _)⟩
          case measure => simp [intOf]; omega
        · have HS2 : Hid (chTo l m true (k + 1) = (aroundL L.1 (k + 1), L.2 ++ [(k : Int) + 1])) := Lib.hid (by rw [HF.out]; rfl)
          go_wp2_with fail
          go_quiet (fail)
          go_wp2_with (first
            | (at_builtin; refine wpList_app rfl _ _ rfl (wr.drewN _) _ _ _ _ rfl rfl (HO.out.drewO _) hz hbl ?_; intro v' w5 hO hB5; have HO5 : Hid (Own w5 w.heap.size v' (chTo l m true (k + 1)).2) := Lib.hid (by rw [HS2.out]; exact hO); have HB5 : Hid (Below w.heap.size w w5) := Lib.hid ((below_drewN HB.out _).trans hB5); clear hO hB5)
            | (go_at_call 75; refine (HTU.out _).mono ?_; rintro e w2 ⟨rfl, k2, rfl⟩))
          exact ⟨⟨k + 1, _, by omega, by go_num, rfl, Lib.hid (by rw [HS2.out]), Lib.hid (HO5.out.drewO _), Lib.hid (below_drewN HB5.out _)⟩, by simp [intOf]; omega⟩
      · have hkn : k = n - 1 := by omega
        have HQ := Lib.hid (str_eqB HS.out HT.out)
        have hq := HQ.out
        have HQ2 : Hid (chL l m true = (chTo l m true k).2) := Lib.hid (by rw [hkn]; exact HWL.out.1)
        have HWB : Hid (chB l m true = decide ((chTo l m true k).1 = m)) := Lib.hid (by rw [hkn]; exact HWL.out.2)
        rw [← HWB.out] at hq
        have hge : ¬ (k : Int) + 1 < (s.size : Int) := by omega
        clear HQ hsz hkn
        go_wp2
        go_ret2
        exact ⟨_, rfl, by rw [HQ2.out]; exact HO.out, HB.out⟩

set_option maxHeartbeats 1000000 in
theorem odBest_any (w : World) (l m : List Bool) (hl1 : 1 ≤ l.length) (hl : l.length ≤ 40) (hm : m.length = l.length) :
    Calls Try.prog 35 #[.string (Rw.str l), .string (Rw.str m)] w fun e w' => ∃ v, e = .returned (.tuple #[v, .bool (bestB l m)]) ∧ Own w' w.heap.size v (bestL l m) ∧ Below w.heap.size w w' := by
  have HX := Lib.hid (odChase_any w l m true hl1 hl hm)
  have HY := Lib.hid (fun w2 => odChase_any w2 l m false hl1 hl hm)
  have hx := chL_len l m true
  have hy := chL_len l m false
  have hB : bestB l m = (chB l m true || chB l m false) := rfl
  have hL : bestL l m = if chB l m true && (!chB l m false || decide ((chL l m true).length ≤ (chL l m false).length)) then chL l m true else if chB l m false then chL l m false else [] := rfl
  obtain ⟨s, hs⟩ : ∃ s, s = Rw.str l := ⟨_, rfl⟩
  obtain ⟨t, ht⟩ : ∃ t, t = Rw.str m := ⟨_, rfl⟩
  rw [← hs, ← ht] at HX HY ⊢
  obtain ⟨X, hX⟩ : ∃ X, X = chL l m true := ⟨_, rfl⟩
  obtain ⟨Y, hY⟩ : ∃ X, X = chL l m false := ⟨_, rfl⟩
  rw [← hX] at HX hx hL
  rw [← hY] at HY hy hL
  have hx40 : X.length ≤ 41 := by omega
  have hy40 : Y.length ≤ 41 := by omega
  cases c1 : chB l m true
  · rw [c1] at HX hB hL
    cases c2 : chB l m false
    · rw [c2] at HY hB hL
      have HBB : Hid (bestB l m = false) := Lib.hid hB
      have HBL : Hid (bestL l m = []) := Lib.hid hL
      clear c1 c2 hB hL hs ht hX hY hx hy
      go_enter Try.func35, Try.ntmps35
      go_wp2_with fail
      go_at_call 57
      refine HX.out.mono ?_
      rintro e w1 ⟨v, rfl, o1, b1⟩
      have B1 := Lib.hid b1
      have O1 := Lib.hid o1
      have HY1 := Lib.hid (HY.out w1)
      obtain ⟨ax, cx, rfl⟩ := o1.any
      clear b1 o1
      go_wp2_with fail
      go_at_call 57
      refine HY1.out.mono ?_
      rintro e w2 ⟨v, rfl, o2, b2⟩
      have B2 : Hid (Below w.heap.size w w2) := Lib.hid (B1.out.trans (b2.mono B1.out.size))
      have O1' := Lib.hid (O1.out.below b2 (Nat.le_refl _))
      have O2 := Lib.hid (o2.mono B1.out.size)
      obtain ⟨ay, cy, rfl⟩ := o2.any
      clear b2 o2
      go_wp2
      go_ret2
      exact ⟨_, by rw [HBB.out]; exact rfl, by rw [HBL.out]; exact own_nil _ _, B2.out⟩
    · rw [c2] at HY hB hL
      have HBB : Hid (bestB l m = true) := Lib.hid hB
      have HBL : Hid (bestL l m = Y) := Lib.hid hL
      clear c1 c2 hB hL hs ht hX hY hx hy
      go_enter Try.func35, Try.ntmps35
      go_wp2_with fail
      go_at_call 57
      refine HX.out.mono ?_
      rintro e w1 ⟨v, rfl, o1, b1⟩
      have B1 := Lib.hid b1
      have O1 := Lib.hid o1
      have HY1 := Lib.hid (HY.out w1)
      obtain ⟨ax, cx, rfl⟩ := o1.any
      clear b1 o1
      go_wp2_with fail
      go_at_call 57
      refine HY1.out.mono ?_
      rintro e w2 ⟨v, rfl, o2, b2⟩
      have B2 : Hid (Below w.heap.size w w2) := Lib.hid (B1.out.trans (b2.mono B1.out.size))
      have O1' := Lib.hid (O1.out.below b2 (Nat.le_refl _))
      have O2 := Lib.hid (o2.mono B1.out.size)
      obtain ⟨ay, cy, rfl⟩ := o2.any
      clear b2 o2
      go_wp2
      go_ret2
      exact ⟨_, by rw [HBB.out]; exact rfl, by rw [HBL.out]; exact O2.out, B2.out⟩
  · rw [c1] at HX hB hL
    cases c2 : chB l m false
    · rw [c2] at HY hB hL
      have HBB : Hid (bestB l m = true) := Lib.hid hB
      have HBL : Hid (bestL l m = X) := Lib.hid hL
      clear c1 c2 hB hL hs ht hX hY hx hy
      go_enter Try.func35, Try.ntmps35
      go_wp2_with fail
      go_at_call 57
      refine HX.out.mono ?_
      rintro e w1 ⟨v, rfl, o1, b1⟩
      have B1 := Lib.hid b1
      have O1 := Lib.hid o1
      have HY1 := Lib.hid (HY.out w1)
      obtain ⟨ax, cx, rfl⟩ := o1.any
      clear b1 o1
      go_wp2_with fail
      go_at_call 57
      refine HY1.out.mono ?_
      rintro e w2 ⟨v, rfl, o2, b2⟩
      have B2 : Hid (Below w.heap.size w w2) := Lib.hid (B1.out.trans (b2.mono B1.out.size))
      have O1' := Lib.hid (O1.out.below b2 (Nat.le_refl _))
      have O2 := Lib.hid (o2.mono B1.out.size)
      obtain ⟨ay, cy, rfl⟩ := o2.any
      clear b2 o2
      go_wp2
      go_ret2
      exact ⟨_, by rw [HBB.out]; exact rfl, by rw [HBL.out]; exact O1'.out, B2.out⟩
    · rw [c2] at HY hB hL
      have HBB : Hid (bestB l m = true) := Lib.hid hB
      by_cases hle : X.length ≤ Y.length
      · have HBL : Hid (bestL l m = X) := Lib.hid (by rw [hL, decide_eq_true hle]; rfl)
        have il : (X.length : Int) ≤ (Y.length : Int) := by omega
        clear c1 c2 hB hL hs ht hX hY hx hy hle
        go_enter Try.func35, Try.ntmps35
        go_wp2_with fail
        go_at_call 57
        refine HX.out.mono ?_
        rintro e w1 ⟨v, rfl, o1, b1⟩
        have B1 := Lib.hid b1
        have O1 := Lib.hid o1
        have HY1 := Lib.hid (HY.out w1)
        obtain ⟨ax, cx, rfl⟩ := o1.any
        clear b1 o1
        go_wp2_with fail
        go_at_call 57
        refine HY1.out.mono ?_
        rintro e w2 ⟨v, rfl, o2, b2⟩
        have B2 : Hid (Below w.heap.size w w2) := Lib.hid (B1.out.trans (b2.mono B1.out.size))
        have O1' := Lib.hid (O1.out.below b2 (Nat.le_refl _))
        have O2 := Lib.hid (o2.mono B1.out.size)
        obtain ⟨ay, cy, rfl⟩ := o2.any
        clear b2 o2
        go_wp2
        go_ret2
        exact ⟨_, by rw [HBB.out]; exact rfl, by rw [HBL.out]; exact O1'.out, B2.out⟩
      · have HBL : Hid (bestL l m = Y) := Lib.hid (by rw [hL, decide_eq_false hle]; rfl)
        have il : ¬ (X.length : Int) ≤ (Y.length : Int) := by omega
        clear c1 c2 hB hL hs ht hX hY hx hy hle
        go_enter Try.func35, Try.ntmps35
        go_wp2_with fail
        go_at_call 57
        refine HX.out.mono ?_
        rintro e w1 ⟨v, rfl, o1, b1⟩
        have B1 := Lib.hid b1
        have O1 := Lib.hid o1
        have HY1 := Lib.hid (HY.out w1)
        obtain ⟨ax, cx, rfl⟩ := o1.any
        clear b1 o1
        go_wp2_with fail
        go_at_call 57
        refine HY1.out.mono ?_
        rintro e w2 ⟨v, rfl, o2, b2⟩
        have B2 : Hid (Below w.heap.size w w2) := Lib.hid (B1.out.trans (b2.mono B1.out.size))
        have O1' := Lib.hid (O1.out.below b2 (Nat.le_refl _))
        have O2 := Lib.hid (o2.mono B1.out.size)
        obtain ⟨ay, cy, rfl⟩ := o2.any
        clear b2 o2
        go_wp2
        go_ret2
        exact ⟨_, by rw [HBB.out]; exact rfl, by rw [HBL.out]; exact O2.out, B2.out⟩

def nbB (a b : ByteArray) : Bool := twoB a b && bestB (rowOf a) (rowOf b)
def outCanByNeighbours_0 (a b : ByteArray) : Bool := nbB a b
def outCanByNeighbours_1 (a b : ByteArray) : Bool := twoB a b
theorem bestL_len (l m : List Bool) : (bestL l m).length ≤ l.length + 1 := by
  have h1 := chL_len l m true
  have h2 := chL_len l m false
  unfold bestL
  split
  · exact h1
  · split
    · exact h2
    · simp
def outNeighboursTo_0 (a b : ByteArray) : List Int := if twoB a b then bestL (rowOf a) (rowOf b) else []
def outNeighboursTo_1 (a b : ByteArray) : Bool := nbB a b
theorem lenNeighboursTo_0 (a b : ByteArray) (ha : a.size ≤ 1048576) (_hb : b.size ≤ 1048576) : (outNeighboursTo_0 a b).length ≤ 4611686018427387904 := by
  unfold outNeighboursTo_0
  split
  · have h1 := bestL_len (rowOf a) (rowOf b)
    have h2 : (rowOf a).length = a.size := by unfold rowOf; rw [List.length_map, Array.length_toList]; rfl
    omega
  · simp

set_option maxHeartbeats 1000000 in
theorem specCanByNeighbours_any (w : World) (a b : ByteArray) (_wa : a.size ≤ maxLen) (_wb : b.size ≤ maxLen) (hla : a.size ≤ 1048576) (hlb : b.size ≤ 1048576) :
    Calls Try.prog 11 #[.string a, .string b] w fun e w' => e = .returned (.tuple #[.bool (outCanByNeighbours_0 a b), .bool (outCanByNeighbours_1 a b)]) ∧ Below w.heap.size w w' := by
  have HG := Lib.hid (odTwo_q a b w hla hlb)
  clear _wa _wb
  rcases h1 : twoB a b with _ | _
  · have H0 : Hid (outCanByNeighbours_0 a b = false ∧ outCanByNeighbours_1 a b = false) := Lib.hid (by unfold outCanByNeighbours_0 outCanByNeighbours_1 nbB; rw [h1]; exact ⟨rfl, rfl⟩)
    rw [h1] at HG
    clear h1
    go_enter Try.func11, Try.ntmps11
    go_wp2_with (go_at_call 34; refine HG.out.mono ?_; rintro e w' ⟨rfl, rfl⟩)
    go_ret2
    exact ⟨by rw [H0.out.1, H0.out.2]; exact rfl, Below.refl _ _⟩
  · obtain ⟨l, m, rfl, rfl, h2, h3, h4⟩ := two_rows h1
    have H0 : Hid (outCanByNeighbours_0 (Rw.str l) (Rw.str m) = bestB l m ∧ outCanByNeighbours_1 (Rw.str l) (Rw.str m) = true) := Lib.hid (by unfold outCanByNeighbours_0 outCanByNeighbours_1 nbB; rw [h1, rowOf_str, rowOf_str]; exact ⟨rfl, rfl⟩)
    have HF := Lib.hid (odBest_any w l m h2 h3 h4)
    obtain ⟨s, hs⟩ : ∃ s, s = Rw.str l := ⟨_, rfl⟩
    obtain ⟨t, ht⟩ : ∃ t, t = Rw.str m := ⟨_, rfl⟩
    rw [h1] at HG
    rw [← hs, ← ht] at HG HF H0 ⊢
    clear h1 hs ht hla hlb
    go_enter Try.func11, Try.ntmps11
    go_wp2_with fail
    go_at_call 34
    refine HG.out.mono ?_
    rintro e w' ⟨rfl, rfl⟩
    go_wp2_with fail
    go_at_call 35
    refine HF.out.mono ?_
    rintro e w2 ⟨v, rfl, o2, b2⟩
    have O2 := Lib.hid o2
    have B2 := Lib.hid b2
    clear o2 b2
    go_wp2
    go_ret2
    exact ⟨by rw [H0.out.1, H0.out.2]; exact rfl, B2.out⟩

set_option maxHeartbeats 1000000 in
theorem specNeighboursTo_any (w : World) (a b : ByteArray) (_wa : a.size ≤ maxLen) (_wb : b.size ≤ maxLen) (hla : a.size ≤ 1048576) (hlb : b.size ≤ 1048576) :
    Calls Try.prog 13 #[.string a, .string b] w fun e w' => ∃ v0, e = .returned (.tuple #[v0, .bool (outNeighboursTo_1 a b)]) ∧ Own w' w.heap.size v0 (outNeighboursTo_0 a b) ∧ Below w.heap.size w w' := by
  have HG := Lib.hid (odTwo_q a b w hla hlb)
  clear _wa _wb
  rcases h1 : twoB a b with _ | _
  · have H0 : Hid (outNeighboursTo_0 a b = [] ∧ outNeighboursTo_1 a b = false) := Lib.hid (by unfold outNeighboursTo_0 outNeighboursTo_1 nbB; rw [h1]; exact ⟨rfl, rfl⟩)
    rw [h1] at HG
    clear h1
    go_enter Try.func13, Try.ntmps13
    go_wp2_with (go_at_call 34; refine HG.out.mono ?_; rintro e w' ⟨rfl, rfl⟩)
    go_ret2
    exact ⟨_, by rw [H0.out.2]; exact rfl, by rw [H0.out.1]; exact own_nil _ _, Below.refl _ _⟩
  · obtain ⟨l, m, rfl, rfl, h2, h3, h4⟩ := two_rows h1
    have H0 : Hid (outNeighboursTo_0 (Rw.str l) (Rw.str m) = bestL l m ∧ outNeighboursTo_1 (Rw.str l) (Rw.str m) = bestB l m) := Lib.hid (by unfold outNeighboursTo_0 outNeighboursTo_1 nbB; rw [h1, rowOf_str, rowOf_str]; exact ⟨rfl, rfl⟩)
    have HF := Lib.hid (odBest_any w l m h2 h3 h4)
    obtain ⟨s, hs⟩ : ∃ s, s = Rw.str l := ⟨_, rfl⟩
    obtain ⟨t, ht⟩ : ∃ t, t = Rw.str m := ⟨_, rfl⟩
    rw [h1] at HG
    rw [← hs, ← ht] at HG HF H0 ⊢
    clear h1 hs ht hla hlb
    go_enter Try.func13, Try.ntmps13
    go_wp2_with fail
    go_at_call 34
    refine HG.out.mono ?_
    rintro e w' ⟨rfl, rfl⟩
    go_wp2_with fail
    go_at_call 35
    refine HF.out.mono ?_
    rintro e w2 ⟨v, rfl, o2, b2⟩
    have O2 := Lib.hid o2
    have B2 := Lib.hid b2
    clear o2 b2
    go_wp2
    go_ret2
    exact ⟨_, by rw [H0.out.2]; exact rfl, by rw [H0.out.1]; exact O2.out, B2.out⟩

end Go.Proofs.Ytkdpjimbhpclaab
