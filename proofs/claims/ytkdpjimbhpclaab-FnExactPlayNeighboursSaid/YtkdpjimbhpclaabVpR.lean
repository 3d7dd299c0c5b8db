/- Chapter 7, the program: played, with runs. -/
import Derived.Test.YtkdpjimbhpclaabVg
import Derived.Test.YtkdpjimbhpclaabVm
namespace Go.Proofs.Ytkdpjimbhpclaab
open Go.ChangeShapes Go.WideShapes Go.ChangeAt Go.RowKit
open Rx Od Ed

set_option maxRecDepth 20000 in
set_option maxHeartbeats 2000000 in
theorem playedR_p (w : World) (s : ByteArray) (a : Option Addr) (len cap : Nat) (zs : List (List Int)) (rn : (List Int) → Option (Nat × Nat)) (p1 : Addr) (hls : s.size ≤ 1048576) (hl : len ≤ 1048576) (hc : CameSS w a len zs)
    (hrn : ordB s = true → ∀ x a c, rn x = some (a, c) → a ≤ c ∧ c < s.size)
    (hcl : ordB s = true → ∀ w2, Below w.heap.size w w2 → ∀ k, k < len → ∀ ak ck, Came w2 ak (zs.getD k []).length (zs.getD k []) → Calls Try.prog 73 #[.slice ak (zs.getD k []).length ck, .pointer (some p1)] w2 fun e w' => e = .returned (runV (rn (zs.getD k []))) ∧ Below w2.heap.size w2 w') :
    Calls Try.prog 49 #[.string s, .slice a len cap, .func (.func 73) #[] #[.pointer (some p1)]] w fun e w' => e = .returned (.tuple #[.string (playS [] rn s zs), .bool (playB rn s zs)]) ∧ Below w.heap.size w w' := by
  have HG := Lib.hid (isOrdered_p s w hls)
  have HZ : Hid (zs.length = len) := Lib.hid hc.1
  have hno : playB rn s zs = false → playS [] rn s zs = ByteArray.empty ∧ playB rn s zs = false := fun h => by unfold playS; rw [h]; exact ⟨rfl, rfl⟩
  rcases h1 : ordB s with _ | _
  · have H0 := Lib.hid (hno (by unfold playB; rw [h1]; rfl))
    rw [h1] at HG
    clear h1 hno hc hcl hrn
    go_enter Try.func49, Try.ntmps49
    go_wp2_with (go_at_call 58; refine HG.out.mono ?_; rintro e w' ⟨rfl, rfl⟩)
    go_ret2
    exact ⟨by rw [H0.out.1, H0.out.2]; exact rfl, Below.refl _ _⟩
  · rw [h1] at HG
    by_cases h100 : len ≤ 100
    · have HRN := Lib.hid (hrn h1)
      have HCL := Lib.hid (hcl h1)
      obtain ⟨l, rfl, l1, l2⟩ := ord_row h1
      have hsz := Rw.size_str l
      rw [hsz] at HRN
      have HBAD : Hid (∀ k, k < len → rn (zs.getD k []) = none → playS [] rn (Rw.str l) zs = ByteArray.empty ∧ playB rn (Rw.str l) zs = false) := Lib.hid (fun k hk h => hno (by unfold playB; rw [okL_no k (by rw [HZ.out]; exact hk) h, Bool.and_false, Bool.and_false]))
      have HY : Hid ((∀ k, k < len → (rn (zs.getD k [])).isSome = true) → playS [] rn (Rw.str l) zs = Rw.str (xorL l (pendTo [] rn l.length zs len)) ∧ playB rn (Rw.str l) zs = true) := Lib.hid (fun h => by
        have hb : playB rn (Rw.str l) zs = true := by unfold playB; rw [h1, decide_eq_true (by rw [HZ.out]; exact h100), okL_yes (fun k hk => h k (by rw [← HZ.out]; exact hk))]; rfl
        unfold playS
        rw [hb, rowOf_str, HZ.out]; exact ⟨rfl, rfl⟩)
      have HC := Lib.hid hc
      have HT := Lib.hid (fun (w2 : World) (b N : Nat) (d : List Bool) => toldC b N l d l1 l2 (w := w2))
      have HGR := Lib.hid (fun w2 N d => giveRun_any w2 w.heap.size N d)
      have H00 : Hid (Fst (w.alloc (.map #[] 0)) w.heap.size 0 (edS (pendTo [] rn l.length zs 0))) := Lib.hid ((Fst.made w).congr fun x => by rw [pendTo, edS_zeros])
      obtain ⟨s, hs⟩ : ∃ s, s = Rw.str l := ⟨_, rfl⟩
      obtain ⟨n, hn⟩ : ∃ n, n = l.length := ⟨_, rfl⟩
      rw [← hn] at HRN HY H00 l1 l2
      have HLN := Lib.hid hn
      obtain ⟨o0, ho0⟩ : ∃ o, o = playS [] rn s zs := ⟨_, rfl⟩
      obtain ⟨o1, ho1⟩ : ∃ o, o = playB rn s zs := ⟨_, rfl⟩
      rw [← hs] at HG HBAD HY HT hls ⊢
      rw [← ho0, ← ho1] at HBAD HY ⊢
      have i0 : ¬ (100 : Int) < (len : Int) := by omega
      have hmm := @run_makeMap Try.prog
      clear h1 hno hc hcl hrn hs hn ho0 ho1 hsz
      go_enter Try.func49, Try.ntmps49
      go_wp2_with fail
      go_at_call 58
      refine HG.out.mono ?_
      rintro e w' ⟨rfl, rfl⟩
      go_wp2
      clear hmm
      go_loopw [24] (fun i wr => ∃ k : Nat, k ≤ len ∧ i = .int .i64 (k : Int) ∧ Hid (∀ j, j < k → (rn (zs.getD j [])).isSome = true) ∧ Hid (Fst wr w.heap.size (2 * k) (edS (pendTo [] rn n zs k))) ∧ Hid (Below w.heap.size w wr)) (fun i _ => len - (intOf i).toNat)
      case atStart => exact ⟨0, Nat.zero_le _, rfl, Lib.hid (fun j hj => absurd hj (Nat.not_lt_zero _)), H00, Lib.hid ((Below.refl _ _).alloc (Nat.le_refl _) _)⟩
      case round =>
        obtain ⟨k, hk, rfl, HOK, HF, HB⟩ := hrel
        have hbs := HB.out.size
        by_cases hlt : k < len
        · obtain ⟨b, off, ak, ck, rfl, e1, hrow, _, _⟩ := (HC.out.below HB.out).at k hlt
          have HCA := Lib.hid (HCL.out wr HB.out k hlt ak ck hrow)
          clear hrow
          have i1 : (0 : Int) ≤ (k : Int) := by omega
          have i2 : (k : Int) < (len : Int) := by omega
          rcases hr : rn (zs.getD k []) with _ | ⟨x, y⟩
          · have H0 := Lib.hid (HBAD.out k hlt hr)
            rw [hr, runV_none] at HCA
            obtain ⟨q, hq⟩ : ∃ q, q = (zs.getD k []).length := ⟨_, rfl⟩
            rw [← hq] at e1 HCA
            clear hq
            clear hr
            go_wp2_with fail
            go_at_call 73
            refine HCA.out.mono ?_
            rintro e w3 ⟨rfl, B3⟩
            have HB3 := Lib.hid (HB.out.trans (B3.mono hbs))
            clear B3
            go_wp2
            go_ret2
            exact ⟨by rw [H0.out.1, H0.out.2]; exact rfl, HB3.out.alloc HB3.out.size _⟩
          · obtain ⟨hxy, hyn⟩ := HRN.out _ x y hr
            have HN := Lib.hid (pendTo_yes (n := n) hr)
            have HOK2 : Hid (∀ j, j < k + 1 → (rn (zs.getD j [])).isSome = true) := Lib.hid (fun j hj => by
              by_cases e : j = k
              · subst e; rw [hr]; rfl
              · exact HOK.out j (by omega))
            rw [hr, runV_some] at HCA
            obtain ⟨q, hq⟩ : ∃ q, q = (zs.getD k []).length := ⟨_, rfl⟩
            rw [← hq] at e1 HCA
            clear hq
            clear hr
            go_wp2_with fail
            go_at_call 73
            refine HCA.out.mono ?_
            rintro e w3 ⟨rfl, B3⟩
            have HB3 := Lib.hid (HB.out.trans (B3.mono hbs))
            have HF3 := Lib.hid (HF.out.below B3 HF.out.lt)
            have HB4 := Lib.hid (HB3.out.alloc HB3.out.size (.cells #[.int .i64 (x : Int), .int .i64 (y : Int)] 69))
            have HF4 : Hid (Fst (w3.alloc (.cells #[.int .i64 (x : Int), .int .i64 (y : Int)] 69)) w.heap.size (2 * k) (edS (pendTo [] rn n zs k))) := Lib.hid (HF3.out.kept (World.grownBy_alloc w3 _ none) (by simp))
            have HGX := Lib.hid (HGR.out _ (2 * k) (pendTo [] rn n zs k) x y HF4.out (by omega) hxy (by rw [length_pendTo]; exact hyn) (by rw [length_pendTo]; omega))
            have c0 : (w3.alloc (.cells #[.int .i64 (x : Int), .int .i64 (y : Int)] 69)).cell? ⟨w3.heap.size, 0, none⟩ = some (.int .i64 (x : Int)) := by rw [World.cell?_alloc_new]; rfl
            have c1 : (w3.alloc (.cells #[.int .i64 (x : Int), .int .i64 (y : Int)] 69)).cell? ⟨w3.heap.size, 1, none⟩ = some (.int .i64 (y : Int)) := by rw [World.cell?_alloc_new]; rfl
            clear B3
            go_wp2_with fail
            go_at_call 60
            refine HGX.out.mono ?_
            rintro e w4 ⟨rfl, F4, G4⟩
            have HF5 := Lib.hid F4
            have HB5 := Lib.hid (grownBy_below HB4.out G4 (Nat.le_refl _) (Nat.le_refl _))
            clear F4 G4 c0 c1
            go_wp2
            go_roundw
            case rel => exact ⟨k + 1, by omega, by go_num, HOK2, Lib.hid (by rw [HN.out]; exact HF5.out.mono (by omega)), HB5⟩
            case measure => simp [intOf]; omega
        · obtain rfl : k = len := by omega
          have H0 := Lib.hid (HY.out HOK.out)
          have HTC := Lib.hid (HT.out wr w.heap.size (2 * k) (pendTo [] rn n zs k) (by rw [length_pendTo]; exact HLN.out) (by omega) HF.out)
          have HSE : Hid (Rw.str (xorL l (pendTo [] rn n zs k)) = o0) := Lib.hid (by rw [H0.out.1, HLN.out])
          rw [HSE.out] at HTC
          go_wp2_with (go_at_call 71; refine HTC.out.mono ?_; rintro e w3 ⟨rfl, B3⟩)
          go_ret2
          exact ⟨by rw [H0.out.2]; exact rfl, HB.out.trans (B3.mono hbs)⟩
    · have H0 := Lib.hid (hno (by unfold playB; rw [decide_eq_false (by rw [HZ.out]; exact h100), Bool.false_and, Bool.and_false]))
      have i0 : (100 : Int) < (len : Int) := by omega
      clear h1 hno hc hcl hrn
      go_enter Try.func49, Try.ntmps49
      go_wp2_with (go_at_call 58; refine HG.out.mono ?_; rintro e w' ⟨rfl, rfl⟩)
      go_ret2
      exact ⟨by rw [H0.out.1, H0.out.2]; exact rfl, Below.refl _ _⟩

end Go.Proofs.Ytkdpjimbhpclaab
