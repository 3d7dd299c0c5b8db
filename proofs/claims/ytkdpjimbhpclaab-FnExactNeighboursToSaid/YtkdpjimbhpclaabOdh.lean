/- Chapter 7, the model: PlayRuns. -/
import Derived.Test.YtkdpjimbhpclaabOda
import Derived.Test.YtkdpjimbhpclaabCa
namespace Go.Proofs.Ytkdpjimbhpclaab
open Go.ChangeShapes Go.WideShapes Go.ChangeAt Go.RowKit
open Rx Od

namespace Od
def runOk (n : Nat) (r : List Int) : Bool := decide (r.length = 2) && (inB (r.getD 0 0) 0 ((n : Int) - 1) && inB (r.getD 1 0) (r.getD 0 0) ((n : Int) - 1))
def prB (s : ByteArray) (zss : List (List Int)) : Bool := ordB s && (decide (zss.length ≤ 100) && zss.all (runOk s.size))
def plRu (l : List Bool) (zss : List (List Int)) : Nat → List Bool
  | 0 => l
  | k + 1 => turnTo (plRu l zss k) ((zss.getD k []).getD 0 0).toNat (((zss.getD k []).getD 1 0).toNat + 1)
theorem plRu_len (l : List Bool) (zss : List (List Int)) : ∀ k, (plRu l zss k).length = l.length
  | 0 => rfl
  | k + 1 => by rw [plRu, length_turnTo, plRu_len l zss k]
end Od
def outPlayRuns_0 (s : ByteArray) (zss : List (List Int)) : ByteArray := if prB s zss then Rw.str (plRu (rowOf s) zss zss.length) else ByteArray.empty
def outPlayRuns_1 (s : ByteArray) (zss : List (List Int)) : Bool := prB s zss

set_option maxHeartbeats 1000000 in
theorem specPlayRuns_any (w : World) (s : ByteArray) (a : Option Addr) (len cap : Nat) (zss : List (List Int)) (_ws : s.size ≤ maxLen) (hls : s.size ≤ 1048576) (hf : FitsSS zss) (hc : CameSS w a len zss) :
    Calls Try.prog 23 #[.string s, .slice a len cap] w fun e w' => e = .returned (.tuple #[.string (outPlayRuns_0 s zss), .bool (outPlayRuns_1 s zss)]) ∧ Below w.heap.size w w' := by
  have HG := Lib.hid (odGood_q s w hls)
  have hl := hf.1
  rw [hc.1] at hl
  have hE : prB s zss = (ordB s && (decide (len ≤ 100) && zss.all (runOk s.size))) := by unfold prB; rw [hc.1]
  have hno : prB s zss = false → outPlayRuns_0 s zss = ByteArray.empty ∧ outPlayRuns_1 s zss = false := fun h => by unfold outPlayRuns_0 outPlayRuns_1; rw [h]; exact ⟨rfl, rfl⟩
  clear _ws
  rcases h1 : ordB s with _ | _
  · have H0 := Lib.hid (hno (by rw [hE, h1]; rfl))
    rw [h1] at HG
    clear h1 hno hE hc hf
    go_enter Try.func23, Try.ntmps23
    go_wp2_with (go_at_call 46; refine HG.out.mono ?_; rintro e w' ⟨rfl, rfl⟩)
    go_ret2
    exact ⟨by rw [H0.out.1, H0.out.2]; exact rfl, Below.refl _ _⟩
  · rw [h1] at HG
    by_cases h100 : len ≤ 100
    · have i1 : ¬ (100 : Int) < (len : Int) := by omega
      obtain ⟨l, rfl, l1, l2⟩ := ord_row h1
      have hlz := Rw.size_str l
      rw [h1, decide_eq_true h100, Bool.true_and, Bool.true_and, hlz] at hE
      have HE := Lib.hid hE
      have HNO := Lib.hid hno
      have HZ : Hid (zss.length = len) := Lib.hid hc.1
      have HY : Hid (prB (Rw.str l) zss = true → outPlayRuns_0 (Rw.str l) zss = Rw.str (plRu l zss len) ∧ outPlayRuns_1 (Rw.str l) zss = true) := Lib.hid (fun h => by unfold outPlayRuns_0 outPlayRuns_1; rw [h, rowOf_str, hc.1]; exact ⟨rfl, rfl⟩)
      have HC := Lib.hid hc
      have HR := Lib.hid (fun k => hf.row k)
      obtain ⟨s, hs⟩ : ∃ s, s = Rw.str l := ⟨_, rfl⟩
      have HS0 : Hid (s = Rw.str (plRu l zss 0)) := Lib.hid hs
      obtain ⟨n, hn⟩ : ∃ n, n = l.length := ⟨_, rfl⟩
      rw [← hn] at hlz HE l1 l2
      have HLN : Hid (l.length = n) := Lib.hid hn.symm
      obtain ⟨o0, ho0⟩ : ∃ o, o = outPlayRuns_0 s zss := ⟨_, rfl⟩
      obtain ⟨o1, ho1⟩ : ∃ o, o = outPlayRuns_1 s zss := ⟨_, rfl⟩
      rw [← hs] at HG HE HNO HY hls ⊢
      rw [← ho0, ← ho1] at HNO HY ⊢
      clear h1 hno hE hs hc hf hlz hn ho0 ho1
      go_enter Try.func23, Try.ntmps23
      go_wp2_with fail
      go_at_call 46
      refine HG.out.mono ?_
      rintro e w' ⟨rfl, rfl⟩
      go_wp2
      go_loopw [0, 18] (fun r iv wr => ∃ (k : Nat) (s : ByteArray), k ≤ len ∧ iv = .int .i64 (k : Int) ∧ r = .string s ∧ Hid (s = Rw.str (plRu l zss k)) ∧ Hid (∀ j, j < k → runOk n (zss.getD j []) = true) ∧ Hid (Below w.heap.size w wr)) (fun _ iv _ => len - (intOf iv).toNat)
      case atStart => exact ⟨0, s, Nat.zero_le _, rfl, rfl, HS0, Lib.hid (fun j hj => absurd hj (Nat.not_lt_zero _)), Lib.hid (Below.refl _ _)⟩
      case round =>
        obtain ⟨k, s2, hk, rfl, rfl, HS, HOK, HB⟩ := hrel
        have hsz : s2.size = n := by rw [HS.out, Rw.size_str, plRu_len, HLN.out]
        by_cases hlt : k < len
        · obtain ⟨b, off, ak, ck, rfl, e1, hrow, _, _⟩ := (HC.out.below HB.out).at k hlt
          have HQL := HR.out k
          have HBAD : Hid (runOk n (zss.getD k []) = false → o0 = ByteArray.empty ∧ o1 = false) := Lib.hid (fun h => HNO.out (by
            rw [HE.out, List.all_eq_false]
            refine ⟨zss.getD k [], ?_, by rw [h]; decide⟩
            simp only [List.getD_eq_getElem?_getD, List.getElem?_eq_getElem (show k < zss.length by rw [HZ.out]; exact hlt), Option.getD_some]
            exact List.getElem_mem _))
          have HRO : Hid (runOk n (zss.getD k []) = (decide ((zss.getD k []).length = 2) && (inB ((zss.getD k []).getD 0 0) 0 ((n : Int) - 1) && inB ((zss.getD k []).getD 1 0) ((zss.getD k []).getD 0 0) ((n : Int) - 1)))) := Lib.hid rfl
          have HN : Hid (plRu l zss (k + 1) = turnTo (plRu l zss k) ((zss.getD k []).getD 0 0).toNat (((zss.getD k []).getD 1 0).toNat + 1)) := Lib.hid rfl
          have HOK2 : Hid (runOk n (zss.getD k []) = true → ∀ j, j < k + 1 → runOk n (zss.getD j []) = true) := Lib.hid (fun h j hj => by
            by_cases e : j = k
            · subst e; exact h
            · exact HOK.out j (by omega))
          have HRW := Lib.hid hrow
          obtain ⟨r, hr⟩ : ∃ r, r = zss.getD k [] := ⟨_, rfl⟩
          rw [← hr] at e1 HRW HBAD HRO HN HOK2 HQL
          obtain ⟨q, hq⟩ : ∃ q, q = r.length := ⟨_, rfl⟩
          rw [← hq] at e1 HRW HRO HQL
          have i2 : (0 : Int) ≤ (k : Int) := by omega
          have i3 : (k : Int) < (len : Int) := by omega
          clear hrow hr hq
          by_cases hq2 : q = 2
          · subst hq2
            obtain ⟨br, ofr, rfl, hcell⟩ := HRW.out.2 (by omega)
            have c0 := hcell 0 (by omega)
            have c1 := hcell 1 (by omega)
            rw [Nat.add_zero] at c0
            obtain ⟨x, hx⟩ : ∃ x, x = r.getD 0 0 := ⟨_, rfl⟩
            obtain ⟨y, hy⟩ : ∃ x, x = r.getD 1 0 := ⟨_, rfl⟩
            rw [← hx] at c0 HRO HN
            rw [← hy] at c1 HRO HN
            have HI := Lib.hid (fun (a b c : Int) (v : Bool) (hv : inB a b c = v) (w2 : World) => show Calls Try.prog 47 #[.int .i64 a, .int .i64 b, .int .i64 c] w2 fun e w' => e = .returned (.bool v) ∧ ∃ m, w' = w2.drewN m from (l1In_any a b c w2).mono fun e w' ⟨h1, h2⟩ => ⟨by rw [h1, hv], 0, h2.symm⟩)
            clear hcell hx hy
            rcases b1 : inB x 0 ((n : Int) - 1) with _ | _
            · have H0 := Lib.hid (HBAD.out (by rw [HRO.out, b1]; rfl))
              go_wp2_with fail
              go_quiet ((go_at_call 47; exact Calls.quiet_of (HI.out _ _ _ _ (by assumption) _)))
              go_wp2
              go_ret2
              exact ⟨by rw [H0.out.1, H0.out.2]; exact rfl, below_drewN HB.out _⟩
            · rcases b2 : inB y x ((n : Int) - 1) with _ | _
              · have H0 := Lib.hid (HBAD.out (by rw [HRO.out, b1, b2]; rfl))
                go_wp2_with fail
                go_quiet ((go_at_call 47; exact Calls.quiet_of (HI.out _ _ _ _ (by assumption) _)))
                go_wp2
                go_ret2
                exact ⟨by rw [H0.out.1, H0.out.2]; exact rfl, below_drewN HB.out _⟩
              · obtain ⟨x0, x1⟩ := inB_yes b1
                obtain ⟨y0, y1⟩ := inB_yes b2
                have HOK3 := Lib.hid (HOK2.out (by rw [HRO.out, b1, b2]; rfl))
                obtain ⟨X, rfl⟩ : ∃ X : Nat, x = (X : Int) := ⟨x.toNat, by omega⟩
                obtain ⟨Y, rfl⟩ : ∃ X : Nat, y = (X : Int) := ⟨y.toNat, by omega⟩
                rw [Int.toNat_natCast, Int.toNat_natCast] at HN
                have HTU := Lib.hid (fun w2 => odTurn_q (plRu l zss k) X Y (by rw [plRu_len, HLN.out]; omega) (by rw [plRu_len, HLN.out]; omega) (by omega) w2)
                rw [← HS.out] at HTU
                have c0' := fun m => show (wr.drewN m).cell? ⟨br, ofr, none⟩ = _ from c0
                have c1' := fun m => show (wr.drewN m).cell? ⟨br, ofr + 1, none⟩ = _ from c1
                go_wp2_with fail
                go_quiet ((go_at_call 47; exact Calls.quiet_of (HI.out _ _ _ _ (by assumption) _)))
                go_wp2_with fail
                go_quiet ((go_at_call 48; refine (HTU.out _).mono ?_; rintro e w3 ⟨h1, m3, h2⟩; exact ⟨h1, _, by rw [h2, World.drewN_drewN, Nat.add_assoc]⟩))
                go_wp2
                go_roundw
                case rel => exact ⟨k + 1, _, by omega, by go_num, rfl, Lib.hid (by rw [HN.out]), HOK3, Lib.hid (below_drewN HB.out _)⟩
                case measure => simp [intOf]; omega
          · have hne : ((q : Int) != 2) = true := by rw [bne_iff_ne]; omega
            have H0 := Lib.hid (HBAD.out (by rw [HRO.out, decide_eq_false hq2]; rfl))
            clear hq2
            go_wp2_with fail
            go_quiet (fail)
            go_wp2
            go_ret2
            exact ⟨by rw [H0.out.1, H0.out.2]; exact rfl, below_drewN HB.out _⟩
        · obtain rfl : k = len := by omega
          have H0 := Lib.hid (HY.out (by
            rw [HE.out, List.all_eq_true]
            intro r hr
            obtain ⟨j, hj, rfl⟩ := List.getElem_of_mem hr
            have := HOK.out j (by rw [← HZ.out]; exact hj)
            simpa [List.getD_eq_getElem?_getD, hj] using this))
          have HSE := Lib.hid (H0.out.1.trans HS.out.symm)
          clear hsz
          go_wp2
          go_ret2
          exact ⟨by rw [HSE.out, H0.out.2]; exact rfl, HB.out⟩
    · have H0 := Lib.hid (hno (by rw [hE, h1, decide_eq_false h100]; rfl))
      have i1 : (100 : Int) < (len : Int) := by omega
      clear h1 hno hE hc hf
      go_enter Try.func23, Try.ntmps23
      go_wp2_with (go_at_call 46; refine HG.out.mono ?_; rintro e w' ⟨rfl, rfl⟩)
      go_ret2
      exact ⟨by rw [H0.out.1, H0.out.2]; exact rfl, Below.refl _ _⟩

end Go.Proofs.Ytkdpjimbhpclaab
