/- Chapter 9, the model: pzAll. -/
import Derived.Test.YtodlpdbmiicdfabPzd
namespace Go.Proofs.Ytodlpdbmiicdfab
open Go.ChangeShapes Go.WideShapes Go.ChangeAt Go.RowKit
open Pz

set_option maxHeartbeats 4000000 in
theorem pzAll_any (w : World) (n : Nat) (h1 : 1 ≤ n) (h8 : n ≤ 8) (a : Option Addr) (len cap : Nat) (cs : List RClue) (hl : len ≤ 6) (hcl : ∀ k, k < cs.length → clueB (n : Int) (cs.getD k zClue) = true) (hc : CameClue w a len cs) :
    Calls Try.prog 28 #[.int .i64 (n : Int), .slice a len cap] w fun e w' => ∃ v, e = .returned v ∧ OwnT w' w.heap.size v (solL n cs) ∧ Below w.heap.size w w' := by
  have hw := p2w_wrap n (by omega)
  have hP : p2w n ≤ 256 := by
    have h : 2 ^ n ≤ 2 ^ 8 := Nat.pow_le_pow_right (by omega) h8
    have h3 : (2 : Nat) ^ 8 = 256 := by decide
    unfold p2w; omega
  have HSL : Hid (solL n cs = solTo n cs (p2w n)) := Lib.hid rfl
  obtain ⟨P, hPP⟩ : ∃ P, P = p2w n := ⟨_, rfl⟩
  rw [← hPP] at hw hP HSL
  have HZ : Hid (cs.length = len) := Lib.hid hc.1
  have HC := Lib.hid hc
  have HCL := Lib.hid hcl
  have HM := Lib.hid (fun k (hk : k ≤ 4611686018427387904) w2 => rwMake_w n k (by omega) hk w2)
  clear hc hcl hPP
  go_enter Try.func28, Try.ntmps28
  go_wp2
  go_loopw [5, 6] (fun o i wr => ∃ k : Nat, k ≤ P ∧ i = .int .i64 (k : Int) ∧ Hid (OwnT wr w.heap.size o (solTo n cs k)) ∧ Hid (Below w.heap.size w wr)) (fun _ i _ => P - (intOf i).toNat)
  case atStart => exact ⟨0, Nat.zero_le _, rfl, Lib.hid (ownT_nil _ _), Lib.hid (Below.refl _ _)⟩
  case round =>
    obtain ⟨k, hk, rfl, HO, HB⟩ := hrel
    by_cases hlt : k < P
    · obtain ⟨wo, rfl⟩ : ∃ wo : World, wo = wr := ⟨_, rfl⟩
      have HMK := Lib.hid (HM.out k (by omega) wo)
      have HLM := Lib.hid (length_make n k)
      have i1 : (k : Int) < (P : Int) := by omega
      have HFF := Lib.hid (fun (x0 x1 x2 x3 : Int) (h : clueB (n : Int) (x0, x1, x2, x3) = true) w2 => pzFits_any n x0 x1 x2 x3 (Rw.make n k) HLM.out h1 h8 h w2)
      have HFS := Lib.hid (fun j (hj : j < cs.length) => fitTo_succ n cs k j hj)
      have HFA := Lib.hid (fitTo_all n cs k)
      obtain ⟨row, hrow⟩ : ∃ row, row = Rw.make n k := ⟨_, rfl⟩
      rw [← hrow] at HMK HLM HFF HFS
      have HROW := Lib.hid hrow
      obtain ⟨s, hs⟩ : ∃ s, s = Rw.str row := ⟨_, rfl⟩
      rw [← hs] at HMK HFF
      have HS := Lib.hid hs
      clear hrow hs
      go_wp2_with fail
      go_at_call 54
      refine HMK.out.mono ?_
      rintro e w' ⟨rfl, rfl⟩
      go_wp2
      go_loopw [8, 22] (fun f j wr => ∃ q : Nat, q ≤ len ∧ j = .int .i64 (q : Int) ∧ f = .bool (fitTo n cs k q) ∧ Hid (Below wo.heap.size wo wr)) (fun _ j _ => len - (intOf j).toNat)
      case atStart => exact ⟨0, Nat.zero_le _, rfl, rfl, Lib.hid (Below.refl _ _)⟩
      case round =>
        obtain ⟨q, hq, rfl, rfl, HB2⟩ := hrel
        have HWQ : Hid (Below w.heap.size w wr) := Lib.hid (HB.out.trans (HB2.out.mono HB.out.size))
        by_cases hq2 : q < len
        · obtain ⟨b, off, rfl, hcell⟩ := (HC.out.below HWQ.out).2 (by omega)
          obtain ⟨e0, e1, e2, e3⟩ := hcell q hq2
          have hqc : q < cs.length := by have := HZ.out; omega
          have HS1 := Lib.hid (HFS.out q hqc)
          have hcq := HCL.out q hqc
          obtain ⟨p, hp⟩ : ∃ p, p = cs.getD q zClue := ⟨_, rfl⟩
          rw [← hp] at e0 e1 e2 e3 HS1 hcq
          obtain ⟨x0, x1, x2, x3⟩ := p
          simp only at e0 e1 e2 e3
          have HT := Lib.hid (fun w2 => HFF.out x0 x1 x2 x3 hcq w2)
          have i3 : (0 : Int) ≤ (q : Int) := by omega
          have i4 : (q : Int) < (len : Int) := by omega
          have HBA : Hid (Below wo.heap.size wo (wr.alloc (.cells #[.int .i64 x0, .int .i64 x1, .int .i64 x2, .int .i64 x3] 64))) := Lib.hid (HB2.out.alloc HB2.out.size _)
          clear hcell hp hcq hqc
          rcases hf : fitTo n cs k q with _ | _
          · have HN : Hid (fitTo n cs k (q + 1) = false) := Lib.hid (by rw [HS1.out, hf]; rfl)
            clear hf HS1 HT
            go_wp2
            go_roundw
            case rel => exact ⟨q + 1, by omega, by go_num, by rw [HN.out], HBA⟩
            case measure => simp [intOf]; omega
          · have HN : Hid (fitTo n cs k (q + 1) = fitsC (x0, x1, x2, x3) row) := Lib.hid (by rw [HS1.out, hf]; rfl)
            clear hf HS1
            go_wp2_with fail
            go_at_call 55
            refine (HT.out _).mono ?_
            rintro e w2 ⟨rfl, b2⟩
            have B2 : Hid (Below wo.heap.size wo w2) := Lib.hid (HBA.out.trans (b2.mono HBA.out.size))
            clear b2 e0 e1 e2 e3
            go_wp2
            go_roundw
            case rel => exact ⟨q + 1, by omega, by go_num, by rw [HN.out], B2⟩
            case measure => simp [intOf]; omega
        · have hql : q = len := by omega
          have HFK : Hid (fitTo n cs k q = fitK n cs k) := Lib.hid (by rw [hql, ← HZ.out]; exact HFA.out)
          have HO2 : Hid (OwnT wr w.heap.size _ (solTo n cs k)) := Lib.hid (HO.out.below HB2.out (Nat.le_refl _))
          clear hql
          rcases hf : fitTo n cs k q with _ | _
          · have HN : Hid (solTo n cs (k + 1) = solTo n cs k) := Lib.hid (solTo_no (by rw [← HFK.out]; exact hf))
            have HO3 : Hid (OwnT wr w.heap.size _ (solTo n cs (k + 1))) := Lib.hid (by rw [HN.out]; exact HO2.out)
            clear hf HFK HO HO2
            go_wp2
            go_roundw
            case rel => exact ⟨k + 1, by omega, by go_num, HO3, HWQ⟩
            case measure => simp [intOf]; omega
          · have HN : Hid (solTo n cs (k + 1) = solTo n cs k ++ [s]) := Lib.hid (by rw [solTo_yes (by rw [← HFK.out]; exact hf), HS.out, HROW.out])
            have hz := HWQ.out.size
            have hbl : (solTo n cs k).length ≤ 1000000000 := by have := solTo_le n cs k; omega
            clear hf HFK HO
            go_wp2_with (at_builtin; refine wpList_appT rfl _ _ rfl wr _ _ _ _ rfl rfl HO2.out hz hbl ?_; intro v' w5 hO hB5; have HO5 : Hid (OwnT w5 w.heap.size v' (solTo n cs (k + 1))) := Lib.hid (by rw [HN.out]; exact hO); have HB5 : Hid (Below w.heap.size w w5) := Lib.hid (HWQ.out.trans hB5); clear hO hB5)
            go_roundw
            case rel => exact ⟨k + 1, by omega, by go_num, HO5, HB5⟩
            case measure => simp [intOf]; omega
    · have hkP : k = P := by omega
      have HO2 : Hid (OwnT wr w.heap.size _ (solL n cs)) := Lib.hid (by rw [HSL.out, ← hkP]; exact HO.out)
      clear HO hkP
      go_wp2
      go_ret
      exact ⟨_, rfl, HO2.out, HB.out⟩
theorem solL_le {n : Nat} (h8 : n ≤ 8) (cs : List RClue) : (solL n cs).length ≤ 256 := by
  have h : 2 ^ n ≤ 2 ^ 8 := Nat.pow_le_pow_right (by omega) h8
  have h3 : (2 : Nat) ^ 8 = 256 := by decide
  have := solTo_le n cs (2 ^ n)
  unfold solL; omega

end Go.Proofs.Ytodlpdbmiicdfab
