/- Chapter 8, the program: BestStarts. -/
import Derived.Test.YtmlamcimncfmcabSjk
import Derived.Test.YtmlamcimncfmcabSje
namespace Go.Proofs.Ytmlamcimncfmcab
open Go.ChangeShapes Go.WideShapes Go.ChangeAt Go.RowKit
open Si

namespace Si
theorem gr_room {n m T k : Nat} (hm : m ≤ n) (hk : k < m) : gr n m T k < n := by have := gr_up (T := T) hm k hk; omega
theorem grL_asInts (n m T k : Nat) : asInts (grL n m T (k + 1)) = asInts (grL n m T k) ++ [((gr n m T k : Nat) : Int)] := by rw [grL_succ, asInts_app]
end Si

set_option maxHeartbeats 4000000 in
theorem implBestStarts_any (w : World) (n : Int) (m : Int) (_wn : (Lit.int .i64 n).wf = true) (_wm : (Lit.int .i64 m).wf = true) :
    Calls Try.prog 8 #[.int .i64 n, .int .i64 m] w fun e w' => ∃ v0, e = .returned (.tuple #[v0, .bool (outBestStarts_1 n m)]) ∧ Own w' w.heap.size v0 (outBestStarts_0 n m) ∧ Below w.heap.size w w' := by
  have HL := Lib.hid (implLeastTimeWith_any w n m _wn _wm)
  clear _wn _wm
  have H00 : ¬ (1 ≤ m ∧ m ≤ n ∧ n ≤ 16) → outBestStarts_0 n m = [] ∧ outBestStarts_1 n m = false := fun h => by
    unfold outBestStarts_0 outBestStarts_1
    have hb : bestB n m = false := by
      unfold bestB
      by_cases e : 1 ≤ n ∧ n ≤ 16
      · rw [inB_no (n := m) (by omega), Bool.and_false]
      · rw [inB_no (n := n) (by omega), Bool.false_and]
    rw [hb]; exact ⟨rfl, rfl⟩
  by_cases hb : 1 ≤ m ∧ m ≤ n ∧ n ≤ 100
  case neg =>
    have H0 := Lib.hid (H00 (by omega))
    have e1 : outLeastTimeWith_1 n m = false := by
      unfold outLeastTimeWith_1
      by_cases e : 1 ≤ n ∧ n ≤ 100
      · rw [inB_no (n := m) (by omega), Bool.and_false]
      · rw [inB_no (n := n) (by omega), Bool.false_and]
    rw [e1] at HL
    obtain ⟨T, hT⟩ : ∃ T, T = outLeastTimeWith_0 n m := ⟨_, rfl⟩
    rw [← hT] at HL
    clear H00 hb e1 hT
    go_enter Try.func8, Try.ntmps8
    go_wp2_with fail
    go_at_call 22
    refine HL.out.mono ?_
    rintro e w2 ⟨rfl, bb⟩
    have B2 := Lib.hid bb
    clear bb
    go_wp2
    go_ret2
    exact ⟨_, by rw [H0.out.2]; exact rfl, by rw [H0.out.1]; exact own_nil _ _, B2.out⟩
  case pos =>
    obtain ⟨m1, m2, n2⟩ := hb
    obtain ⟨N, rfl⟩ : ∃ N : Nat, n = (N : Int) := ⟨n.toNat, by omega⟩
    obtain ⟨M, rfl⟩ : ∃ N : Nat, m = (N : Int) := ⟨m.toNat, by omega⟩
    have e1 : outLeastTimeWith_1 N M = true := by unfold outLeastTimeWith_1; rw [inB_of (n := (N : Int)) (by omega), inB_of (n := (M : Int)) (by omega)]; rfl
    have e0 : outLeastTimeWith_0 N M = (leastT N M : Nat) := by unfold outLeastTimeWith_0; rw [inB_of (n := (N : Int)) (by omega), inB_of (n := (M : Int)) (by omega)]; rfl
    rw [e1, e0] at HL
    have hTn : leastT N M < N := leastT_lt (by omega) (by omega)
    have HLK := Lib.hid (look_all (n := N) (m := M) (by omega) (by omega) (by omega))
    by_cases hn : 16 < N
    · have H0 := Lib.hid (H00 (by omega))
      have hni : (16 : Int) < (N : Int) := by omega
      obtain ⟨T, hT⟩ : ∃ T, T = leastT N M := ⟨_, rfl⟩
      rw [← hT] at HL
      clear H00 e1 e0 hT hTn HLK
      go_enter Try.func8, Try.ntmps8
      go_wp2_with fail
      go_at_call 22
      refine HL.out.mono ?_
      rintro e w2 ⟨rfl, bb⟩
      have B2 := Lib.hid bb
      clear bb
      go_wp2
      go_ret2
      exact ⟨_, by rw [H0.out.2]; exact rfl, by rw [H0.out.1]; exact own_nil _ _, B2.out⟩
    · have H0 : Hid (outBestStarts_0 N M = asInts (grL N M (leastT N M) M) ∧ outBestStarts_1 N M = true) := Lib.hid (by
        have hb : bestB N M = true := by unfold bestB; rw [inB_of (n := (N : Int)) (by omega), inB_of (n := (M : Int)) (by omega)]; rfl
        unfold outBestStarts_0 outBestStarts_1; rw [hb, if_pos rfl]
        refine ⟨?_, rfl⟩
        show asInts ((lookD N (leastT N M) M []).getD []) = _
        rw [HLK.out]; rfl)
      have hni : ¬ (16 : Int) < (N : Int) := by omega
      have hN16 : N ≤ 16 := by omega
      have hMN : M ≤ N := by omega
      have hM1 : 1 ≤ M := by omega
      obtain ⟨T, hT⟩ : ∃ T, T = leastT N M := ⟨_, rfl⟩
      rw [← hT] at HL H0 hTn
      have hT16 : T ≤ 15 := by omega
      have HRI := Lib.hid (fun w2 => reachIn_any T (by omega) w2)
      obtain ⟨R, hR⟩ : ∃ R, R = 2 * T + 1 := ⟨_, rfl⟩
      rw [← hR] at HRI
      have HGU := Lib.hid (fun k (h : k < M) => gr_room (n := N) (m := M) (T := T) (k := k) hMN h)
      have HGI := Lib.hid (fun k => gr_is N M T k)
      rw [← hR] at HGI
      have HGS := Lib.hid (fun k => grFrom_succ N M T k)
      have HGA := Lib.hid (fun k => grL_asInts N M T k)
      have HGL := Lib.hid (fun k => grL_len N M T k)
      have hR31 : R ≤ 31 := by omega
      clear H00 e1 e0 hT HLK hR hTn
      go_enter Try.func8, Try.ntmps8
      go_wp2_with fail
      go_at_call 22
      refine HL.out.mono ?_
      rintro e w2 ⟨rfl, bb⟩
      have B2 := Lib.hid bb
      clear bb
      go_wp2_with fail
      go_loopw [8, 9, 10, 11] (fun v fr lf st wr => ∃ k : Nat, k ≤ M ∧ lf = .int .i64 ((M : Int) - 1 - (k : Int)) ∧ fr = .int .i64 (grFrom N M T k : Nat) ∧ Hid (Own wr w2.heap.size v (asInts (grL N M T k))) ∧ Hid (Below w2.heap.size w2 wr)) (fun _ _ lf _ _ => (intOf lf + 1).toNat)
      case atStart => exact ⟨0, Nat.zero_le _, by go_num, rfl, Lib.hid (own_nil _ _), Lib.hid (Below.refl _ _)⟩
      case round =>
        obtain ⟨k, hk, rfl, rfl, HO, HB⟩ := hrel
        by_cases hlt : k < M
        · have i2 : (0 : Int) ≤ (M : Int) - 1 - (k : Int) := by omega
          have hgu := HGU.out k hlt
          have hgi := HGI.out k
          have HGSk := Lib.hid (HGS.out k)
          have HGAk := Lib.hid (HGA.out k)
          have hbl : (asInts (grL N M T k)).length ≤ 1000000000 := by rw [asInts_len, HGL.out]; omega
          obtain ⟨d, hd⟩ : ∃ d, d = M - 1 - k := ⟨_, rfl⟩
          obtain ⟨P, hP⟩ : ∃ P, P = d * R := ⟨_, rfl⟩
          rw [← hd, ← hP] at hgi
          have ed : (M : Int) - 1 - (k : Int) = (d : Int) := by omega
          have eP : (d : Int) * (R : Int) = (P : Int) := by rw [hP]; push_cast; rfl
          have hPb : P ≤ 16 * 31 := by rw [hP]; exact Nat.mul_le_mul (by omega) hR31
          obtain ⟨f, hf⟩ : ∃ f, f = grFrom N M T k := ⟨_, rfl⟩
          obtain ⟨g, hg⟩ : ∃ g, g = gr N M T k := ⟨_, rfl⟩
          rw [← hf, ← hg] at hgi
          rw [← hg] at hgu HGSk HGAk
          rw [← hf]
          have hz := HB.out.size
          have HGG : Hid (g = max f (N - P - 1 - T)) := Lib.hid hgi
          have hgu2 : (g : Int) ≤ 16 := by omega
          have hfb : f ≤ 16 := by have := HGG.out; omega
          clear hf hg hP hd hgi
          by_cases hx : (f : Int) < (N : Int) - (P : Int) - 1 - (T : Int)
          · have eG : (N : Int) - (P : Int) - 1 - (T : Int) = (g : Int) := by have := HGG.out; omega
            have hfg : (f : Int) < (g : Int) := by omega
            clear hx
            go_wp2_with fail
            go_at_call 23
            refine (HRI.out _).mono ?_
            rintro e ww ⟨rfl, rfl⟩
            go_wp2_with (at_builtin; refine wpList_app rfl _ _ rfl wr _ _ _ _ rfl rfl HO.out hz hbl ?_; intro v5 w5 hO5 hB5; have HO5 : Hid (Own w5 w2.heap.size v5 (asInts (grL N M T (k + 1)))) := Lib.hid (by rw [HGAk.out]; exact hO5); have HB5 : Hid (Below w2.heap.size w2 w5) := Lib.hid (HB.out.trans hB5); clear hO5 hB5)
            go_roundw
            case rel => exact ⟨k + 1, by omega, by go_num, by rw [HGSk.out]; go_num, HO5, HB5⟩
            case measure => simp [intOf]; omega
          · obtain ⟨x, ex⟩ : ∃ x : Int, (N : Int) - (P : Int) - 1 - (T : Int) = x := ⟨_, rfl⟩
            obtain rfl : f = g := by have := HGG.out; omega
            have hfx : ¬ (f : Int) < x := by omega
            have hx1 : -1000 ≤ x := by omega
            have hx2 : x ≤ 16 := by omega
            clear hx
            go_wp2_with fail
            go_at_call 23
            refine (HRI.out _).mono ?_
            rintro e ww ⟨rfl, rfl⟩
            go_wp2_with (at_builtin; refine wpList_app rfl _ _ rfl wr _ _ _ _ rfl rfl HO.out hz hbl ?_; intro v5 w5 hO5 hB5; have HO5 : Hid (Own w5 w2.heap.size v5 (asInts (grL N M T (k + 1)))) := Lib.hid (by rw [HGAk.out]; exact hO5); have HB5 : Hid (Below w2.heap.size w2 w5) := Lib.hid (HB.out.trans hB5); clear hO5 hB5)
            go_roundw
            case rel => exact ⟨k + 1, by omega, by go_num, by rw [HGSk.out]; go_num, HO5, HB5⟩
            case measure => simp [intOf]; omega
        · have i2 : ¬ (0 : Int) ≤ (M : Int) - 1 - (k : Int) := by omega
          have HF : Hid (asInts (grL N M T k) = asInts (grL N M T M)) := Lib.hid (by rw [show k = M by omega])
          go_wp2
          go_ret2
          exact ⟨_, by rw [H0.out.2]; exact rfl, by rw [H0.out.1, ← HF.out]; exact HO.out.mono B2.out.size, B2.out.trans (HB.out.mono B2.out.size)⟩

end Go.Proofs.Ytmlamcimncfmcab
