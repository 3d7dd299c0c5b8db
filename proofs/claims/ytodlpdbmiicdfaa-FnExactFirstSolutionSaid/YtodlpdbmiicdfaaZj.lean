/- Chapter 9, the program: sureSigns, SureSigns, FirstSolution. -/
import Derived.Test.YtodlpdbmiicdfaaZi
import Derived.Laws.BytesArg
import Derived.WalkSpells
namespace Go.Proofs.Ytodlpdbmiicdfaa
open Go.ChangeShapes Go.WideShapes Go.ChangeAt Go.RowKit
open Pz Tp

set_option maxHeartbeats 4000000 in
theorem sureSigns_more (w : World) (B n g cap q : Nat) (M : List (List Bool)) (h1 : 1 ≤ n) (h8 : n ≤ 8) (hq : M.length = q + 1) (hc1 : ¬ cap = 1) (hqs : q ≤ 256) (hM : ∀ m ∈ M, m.length = n) (own : OwnT w B (.slice (some ⟨g, 0, none⟩) (q + 1) cap) (M.map Rw.str)) :
    Calls Try.prog 66 #[.slice (some ⟨g, 0, none⟩) (q + 1) cap] w fun e w' => e = .returned (.string (sureTo (M.map Rw.str) n)) ∧ Below w.heap.size w w' := by
  obtain ⟨ao, cp, hv, hread⟩ := own.read
  rw [List.length_map, hq] at hv hread
  injection hv with hv1 hv2 hv3
  subst hv1 hv3
  obtain ⟨g', hg', _, hgl, hrows⟩ := hread (by omega)
  injection hg' with hg1
  injection hg1 with hg2
  subst hg2
  have hlen : ∀ j, j < q + 1 → (M.getD j []).length = n := fun j hj => by
    rw [List.getD_eq_getElem?_getD, List.getElem?_eq_getElem (by omega)]; exact hM _ (List.getElem_mem (by omega))
  have hrow : ∀ j, j < q + 1 → w.cell? ⟨g, j, none⟩ = some (.string (Rw.str (M.getD j []))) := fun j hj => by
    rw [hrows j hj]
    congr 2
    rw [List.getD_eq_getElem?_getD, List.getElem?_map, List.getD_eq_getElem?_getD, List.getElem?_eq_getElem (by omega)]; rfl
  have HRES : Hid (strOfNums (sgs M n (q + 1)) = sureTo (M.map Rw.str) n) := Lib.hid (by rw [sure_is (by omega) hM n (Nat.le_refl _), hq]; rfl)
  have HROW := Lib.hid hrow
  have HLEN := Lib.hid hlen
  have HQ := Lib.hid hq
  have e0 := hrow 0 (by omega)
  have hz0 : (Rw.str (M.getD 0 [])).size = n := by rw [Rw.size_str]; exact hlen 0 (by omega)
  obtain ⟨res, hres⟩ : ∃ res, res = sureTo (M.map Rw.str) n := ⟨_, rfl⟩
  rw [← hres] at HRES ⊢
  have hconv := Lib.run_convert_string_bytes (P := Try.prog) w 9 101 5 (Rw.str (M.getD 0 [])) Try.underlying9 Try.underlying101 Try.underlying5
  have HSG : Hid (Sg (Lib.bytesWorld w 5 (Rw.str (M.getD 0 []))) w.heap.size (sgs M n 1)) := Lib.hid (by
    have h := sg_conv w 5 (M.getD 0 [])
    have e : (M.getD 0 []).map sgnI = sgs M n 1 := sgs_one (by omega) (hlen 0 (by omega))
    rw [e] at h; exact h)
  have HBC := Lib.hid (below_conv w 5 (Rw.str (M.getD 0 [])))
  have HGL := Lib.hid hgl
  obtain ⟨w0, hw0⟩ : ∃ w0, w0 = Lib.bytesWorld w 5 (Rw.str (M.getD 0 [])) := ⟨_, rfl⟩
  obtain ⟨s0, hs0⟩ : ∃ s0, s0 = Rw.str (M.getD 0 []) := ⟨_, rfl⟩
  rw [← hw0] at hconv HSG HBC
  rw [← hs0] at hconv e0 hz0
  rw [hz0] at hconv
  obtain ⟨gc, hgc⟩ : ∃ gc, gc = grownCap w n 0 5 := ⟨_, rfl⟩
  rw [← hgc] at hconv
  obtain ⟨G, hG⟩ : ∃ G, G = w.heap.size := ⟨_, rfl⟩
  rw [← hG] at hconv HSG
  have HGW : Hid (w.heap.size ≤ G) := Lib.hid (by omega)
  have hq1 : (1 : Int) ≤ (cap : Int) := by have := own.2; rcases this with ⟨h, _⟩ | ⟨g2, c2, cur, h, _, _, hn, _⟩; · cases h
                                           · injection h with a1 a2 a3; rw [List.length_map] at hn; omega
  clear hrows hread hrow hlen hq hM hw0 hs0 hgc hz0 hgl hres own hG
  go_enter Try.func66, Try.ntmps66
  go_wp2
  go_loopw [14] (fun i wr => ∃ j : Nat, j ≤ q ∧ i = .int .i64 (j : Int) ∧ Hid (Sg wr G (sgs M n (j + 1))) ∧ Hid (Below w.heap.size w wr)) (fun i _ => q - (intOf i).toNat)
  case atStart => exact ⟨0, Nat.zero_le _, rfl, HSG, HBC⟩
  case round =>
    obtain ⟨j, hj, rfl, HS, HB⟩ := hrel
    clear hconv e0
    by_cases hlt : j < q
    · obtain ⟨wo, rfl⟩ : ∃ wo : World, wo = wr := ⟨_, rfl⟩
      have e1 : wo.cell? ⟨g, 1 + j, none⟩ = some (.string (Rw.str (M.getD (j + 1) []))) := by
        rw [Nat.add_comm 1 j]; exact (HB.out.cell (p := ⟨g, j + 1, none⟩) HGL.out).trans (HROW.out (j + 1) (by omega))
      have hz1 : (Rw.str (M.getD (j + 1) [])).size = n := by rw [Rw.size_str]; exact HLEN.out (j + 1) (by omega)
      have HBYT : Hid (∀ k (hk : k < (Rw.str (M.getD (j + 1) [])).size), (((Rw.str (M.getD (j + 1) []))[k]).toNat : Int) = sgnI ((M.getD (j + 1) []).getD k false)) := Lib.hid (fun k hk => by
        rw [Rw.str_get]; cases (M.getD (j + 1) []).getD k false <;> rfl)
      obtain ⟨s, hs⟩ : ∃ s, s = Rw.str (M.getD (j + 1) []) := ⟨_, rfl⟩
      rw [← hs] at e1 hz1 HBYT
      have i1 : (0 : Int) ≤ (j : Int) := by omega
      have i2 : (j : Int) < (q : Int) := by omega
      clear hs
      go_wp2
      go_loopw [20] (fun i wr => ∃ k : Nat, k ≤ n ∧ i = .int .i64 (k : Int) ∧ Hid (Sg wr G (mix M n (j + 1) k)) ∧ Hid (Below w.heap.size w wr)) (fun i _ => n - (intOf i).toNat)
      case atStart => exact ⟨0, Nat.zero_le _, rfl, Lib.hid (by rw [mix_zero]; exact HS.out), HB⟩
      case round =>
        obtain ⟨k, hk, rfl, HS2, HB2⟩ := hrel
        by_cases hlt2 : k < n
        · have e2 := HS2.out.cell k (by rw [length_mix]; exact hlt2)
          have f2 := HS2.out.free k (by rw [length_mix]; exact hlt2)
          rw [getD_mix M hlt2] at e2
          have HSU := Lib.hid (sgnAt_succ (M := M) (j := j + 1) (k := k) (by have := HQ.out; omega))
          have hks : k < s.size := by omega
          have e3 := HBYT.out k hks
          obtain ⟨x, hx⟩ : ∃ x, x = sgnI ((M.getD (j + 1) []).getD k false) := ⟨_, rfl⟩
          obtain ⟨y, hy⟩ : ∃ y, y = sgnAt M (j + 1) k := ⟨_, rfl⟩
          rw [← hx] at e3 HSU
          rw [← hy] at e2 HSU
          have i3 : (0 : Int) ≤ (k : Int) := by omega
          have i4 : (k : Int) < (n : Int) := by omega
          have i5 : (k : Int) < (s.size : Int) := by omega
          have HY := Lib.hid hy
          clear hx hy
          rcases hxy : (x == y) with _ | _
          · have HSE : Hid (sgnAt M (j + 1 + 1) k = 63) := Lib.hid (by rw [HSU.out, if_neg (by simpa using hxy)])
            have HS3 : Hid (∀ m, Sg ((wr.drewN m).setCell ⟨G, k, none⟩ (.int .u8 63)) G (mix M n (j + 1) (k + 1))) := Lib.hid (fun m => by
              rw [← mix_set hlt2, HSE.out]; exact (HS2.out.drewN m).set k (by rw [length_mix]; exact hlt2) 63)
            have HB3 : Hid (∀ m, Below w.heap.size w ((wr.drewN m).setCell ⟨G, k, none⟩ (.int .u8 63))) := Lib.hid (fun m => (below_drewN HB2.out m).setCell (p := ⟨G, k, none⟩) HGW.out _)
            go_wp2_with fail
            go_quiet (fail)
            go_wp2
            go_roundw
            case rel => exact ⟨k + 1, by omega, by go_num, Lib.hid (HS3.out _), Lib.hid (HB3.out _)⟩
            case measure => simp [intOf]; omega
          · have HSE : Hid (sgnAt M (j + 1 + 1) k = sgnAt M (j + 1) k) := Lib.hid (by rw [HSU.out, if_pos (by simpa using hxy)]; exact HY.out)
            have HS3 : Hid (∀ m, Sg (wr.drewN m) G (mix M n (j + 1) (k + 1))) := Lib.hid (fun m => by rw [mix_same HSE.out]; exact HS2.out.drewN m)
            have HB3 : Hid (∀ m, Below w.heap.size w (wr.drewN m)) := Lib.hid (fun m => below_drewN HB2.out m)
            go_wp2_with fail
            go_quiet (fail)
            go_wp2
            go_roundw
            case rel => exact ⟨k + 1, by omega, by go_num, Lib.hid (HS3.out _), Lib.hid (HB3.out _)⟩
            case measure => simp [intOf]; omega
        · have hkn : k = n := by omega
          have HS3 : Hid (Sg wr G (sgs M n (j + 1 + 1))) := Lib.hid (by rw [← mix_all, ← hkn]; rw [← hkn] at HS2; exact HS2.out)
          clear hkn
          go_wp2
          go_roundw
          case rel => exact ⟨j + 1, by omega, by go_num, HS3, HB2⟩
          case measure => simp [intOf]; omega
    · have hjq : j = q := by omega
      subst hjq
      have hcv := run_convert_bytes_arg (P := Try.prog) wr 101 5 Try.underlying101 Try.underlying5 G 0 n gc (sgs M n (j + 1)) (length_sgs _ _ _) (fun i hi => by rw [Nat.zero_add]; exact HS.out.cell i (by rw [length_sgs]; exact hi)) 9 Try.underlying9
      rw [HRES.out] at hcv
      go_wp2
      go_ret
      exact ⟨rfl, HB.out⟩
set_option maxHeartbeats 4000000 in
theorem sureSigns_one (w : World) (B n g : Nat) (M : List (List Bool)) (_h1 : 1 ≤ n) (_h8 : n ≤ 8) (hq : M.length = 1) (hM : ∀ m ∈ M, m.length = n) (own : OwnT w B (.slice (some ⟨g, 0, none⟩) 1 1) (M.map Rw.str)) :
    Calls Try.prog 66 #[.slice (some ⟨g, 0, none⟩) 1 1] w fun e w' => e = .returned (.string (sureTo (M.map Rw.str) n)) ∧ Below w.heap.size w w' := by
  obtain ⟨ao, cp, hv, hread⟩ := own.read
  rw [List.length_map, hq] at hv hread
  injection hv with hv1 hv2 hv3
  subst hv1
  obtain ⟨g', hg', _, hgl, hrows⟩ := hread (by omega)
  injection hg' with hg1
  injection hg1 with hg2
  subst hg2
  have hlen : ∀ j, j < 1 → (M.getD j []).length = n := fun j hj => by
    rw [List.getD_eq_getElem?_getD, List.getElem?_eq_getElem (by omega)]; exact hM _ (List.getElem_mem (by omega))
  have hrow : ∀ j, j < 1 → w.cell? ⟨g, j, none⟩ = some (.string (Rw.str (M.getD j []))) := fun j hj => by
    rw [hrows j hj]
    congr 2
    rw [List.getD_eq_getElem?_getD, List.getElem?_map, List.getD_eq_getElem?_getD, List.getElem?_eq_getElem (by omega)]; rfl
  have HRES : Hid (strOfNums (sgs M n 1) = sureTo (M.map Rw.str) n) := Lib.hid (by rw [sure_is (by omega) hM n (Nat.le_refl _), hq]; rfl)
  have e0 := hrow 0 (by omega)
  have hz0 : (Rw.str (M.getD 0 [])).size = n := by rw [Rw.size_str]; exact hlen 0 (by omega)
  obtain ⟨res, hres⟩ : ∃ res, res = sureTo (M.map Rw.str) n := ⟨_, rfl⟩
  rw [← hres] at HRES ⊢
  have hconv := Lib.run_convert_string_bytes (P := Try.prog) w 9 101 5 (Rw.str (M.getD 0 [])) Try.underlying9 Try.underlying101 Try.underlying5
  have HSG : Hid (Sg (Lib.bytesWorld w 5 (Rw.str (M.getD 0 []))) w.heap.size (sgs M n 1)) := Lib.hid (by
    have h := sg_conv w 5 (M.getD 0 [])
    have e : (M.getD 0 []).map sgnI = sgs M n 1 := sgs_one (by omega) (hlen 0 (by omega))
    rw [e] at h; exact h)
  have HBC := Lib.hid (below_conv w 5 (Rw.str (M.getD 0 [])))
  obtain ⟨w0, hw0⟩ : ∃ w0, w0 = Lib.bytesWorld w 5 (Rw.str (M.getD 0 [])) := ⟨_, rfl⟩
  obtain ⟨s0, hs0⟩ : ∃ s0, s0 = Rw.str (M.getD 0 []) := ⟨_, rfl⟩
  rw [← hw0] at hconv HSG HBC
  rw [← hs0] at hconv e0 hz0
  rw [hz0] at hconv
  obtain ⟨gc, hgc⟩ : ∃ gc, gc = grownCap w n 0 5 := ⟨_, rfl⟩
  rw [← hgc] at hconv
  obtain ⟨G, hG⟩ : ∃ G, G = w.heap.size := ⟨_, rfl⟩
  rw [← hG] at hconv HSG
  clear hrows hread hrow hlen hq hM hw0 hs0 hgc hz0 hgl hres own hG
  go_enter Try.func66, Try.ntmps66
  go_wp2
  go_loopw [14] (fun i wr => i = .int .i64 0 ∧ Hid (Sg wr G (sgs M n 1)) ∧ Hid (Below w.heap.size w wr)) (fun _ _ => 0)
  case atStart => exact ⟨rfl, HSG, HBC⟩
  case round =>
    obtain ⟨rfl, HS, HB⟩ := hrel
    clear hconv e0
    have hcv := run_convert_bytes_arg (P := Try.prog) wr 101 5 Try.underlying101 Try.underlying5 G 0 n gc (sgs M n 1) (length_sgs _ _ _) (fun i hi => by rw [Nat.zero_add]; exact HS.out.cell i (by rw [length_sgs]; exact hi)) 9 Try.underlying9
    rw [HRES.out] at hcv
    go_wp2
    go_ret
    exact ⟨rfl, HB.out⟩
theorem sureSigns_any (w : World) (B n : Nat) (v : Value) (M : List (List Bool)) (h1 : 1 ≤ n) (h8 : n ≤ 8) (h0 : 0 < M.length) (hqs : M.length ≤ 256) (hM : ∀ m ∈ M, m.length = n) (own : OwnT w B v (M.map Rw.str)) :
    Calls Try.prog 66 #[v] w fun e w' => e = .returned (.string (sureTo (M.map Rw.str) n)) ∧ Below w.heap.size w w' := by
  obtain ⟨ao, cap, rfl, hr⟩ := own.read
  rw [List.length_map] at hr
  obtain ⟨g, rfl, _⟩ := hr h0
  have hcap : M.length ≤ cap := by
    rcases own.2 with ⟨h, _⟩ | ⟨g2, c2, cur, h, _, _, hn, _⟩
    · cases h
    · injection h with a1 a2 a3; rw [List.length_map] at hn; omega
  rw [List.length_map] at own ⊢
  obtain ⟨q, hq⟩ : ∃ q, M.length = q + 1 := ⟨M.length - 1, by omega⟩
  by_cases hc : cap = 1
  · subst hc
    have h1' : M.length = 1 := by omega
    rw [h1'] at own ⊢
    exact sureSigns_one w B n g M h1 h8 h1' hM own
  · rw [hq] at own ⊢
    exact sureSigns_more w B n g cap q M h1 h8 hq hc (by omega) hM own

theorem FirstSolution_none {s : Int} {cs : List RClue} (h : (outSolutions_0 s cs).length = 0) : outFirstSolution_0 s cs = ByteArray.empty ∧ outFirstSolution_1 s cs = false := by
  have h1 : outFirstSolution_1 s cs = false := by
    unfold outFirstSolution_1
    rcases hb : goodP s cs with _ | _
    · rfl
    · unfold outSolutions_0 at h; rw [hb] at h; simp only [if_true] at h; rw [h]; rfl
  unfold outFirstSolution_0; rw [h1]; exact ⟨rfl, rfl⟩
theorem FirstSolution_some {s : Int} {cs : List RClue} (h : 0 < (outSolutions_0 s cs).length) : goodP s cs = true ∧ outSolutions_0 s cs = solL s.toNat cs ∧ outFirstSolution_0 s cs = (solL s.toNat cs).getD 0 ByteArray.empty ∧ outFirstSolution_1 s cs = true := by
  have hb : goodP s cs = true := by
    rcases hb : goodP s cs with _ | _
    · unfold outSolutions_0 at h; rw [hb] at h; simp at h
    · rfl
  have he : outSolutions_0 s cs = solL s.toNat cs := by unfold outSolutions_0; rw [hb]; rfl
  have h1 : outFirstSolution_1 s cs = true := by unfold outFirstSolution_1; rw [hb, ← he, decide_eq_true h]; rfl
  refine ⟨hb, he, ?_, h1⟩
  unfold outFirstSolution_0; rw [h1]; rfl
set_option maxHeartbeats 2000000 in
theorem implFirstSolution_any (w : World) (s : Int) (a : Option Addr) (len cap : Nat) (cs : List RClue) (hl : len ≤ 1048576) (hc : CameClue w a len cs) :
    Calls Try.prog 37 #[.agg #[.int .i64 s, .slice a len cap]] w fun e w' => e = .returned (.tuple #[.string (outFirstSolution_0 s cs), .bool (outFirstSolution_1 s cs)]) ∧ Below w.heap.size w w' := by
  have HB : Hid (Below w.heap.size w (w.alloc (.cells #[.int .i64 s, .slice a len cap] 35))) := Lib.hid ((Below.refl _ _).alloc (Nat.le_refl _) _)
  have HS := Lib.hid (implSolutions_any (w.alloc (.cells #[.int .i64 s, .slice a len cap] 35)) s a len cap cs hl (hc.below HB.out))
  clear hc
  obtain ⟨r0, hr0⟩ : ∃ r, r = outFirstSolution_0 s cs := ⟨_, rfl⟩
  obtain ⟨r1, hr1⟩ : ∃ r, r = outFirstSolution_1 s cs := ⟨_, rfl⟩
  rw [← hr0, ← hr1]
  have HR0 := Lib.hid hr0
  have HR1 := Lib.hid hr1
  have HNO := Lib.hid (FirstSolution_none (s := s) (cs := cs))
  have HYE := Lib.hid (FirstSolution_some (s := s) (cs := cs))
  obtain ⟨L, hL⟩ : ∃ L, L = outSolutions_0 s cs := ⟨_, rfl⟩
  rw [← hL] at HS HNO HYE
  clear hr0 hr1 hL
  go_enter Try.func37, Try.ntmps37
  go_wp2_with fail
  go_at_call 30
  refine HS.out.mono ?_
  rintro e w2 ⟨v, rfl, o2, b2⟩
  have HB2 : Hid (Below w.heap.size w w2) := Lib.hid (HB.out.trans (b2.mono HB.out.size))
  have HO := Lib.hid o2
  obtain ⟨ao, cp, rfl, hread⟩ := o2.read
  have HREAD := Lib.hid hread
  clear b2 o2 hread
  by_cases h0 : L.length = 0
  · have HE : Hid (r0 = ByteArray.empty ∧ r1 = false) := Lib.hid (by rw [HR0.out, HR1.out]; exact HNO.out h0)
    have hq : ((L.length : Int) == 0) = true := by rw [beq_iff_eq]; omega
    go_wp2
    go_ret2
    exact ⟨by rw [HE.out.1, HE.out.2]; exact rfl, HB2.out⟩
  · have hq : ((L.length : Int) == 0) = false := by rw [beq_eq_false_iff_ne]; omega
    have hp : 0 < L.length := by omega
    obtain ⟨hb, he, hv0, hv1⟩ := HYE.out hp
    obtain ⟨⟨n, hn, hn1, hn8⟩, _, _⟩ := pz_of hb
    subst hn
    rw [Int.toNat_natCast] at he hv0
    have HE : Hid (r0 = (solL n cs).getD 0 ByteArray.empty ∧ r1 = true) := Lib.hid (by rw [HR0.out, HR1.out]; exact ⟨hv0, hv1⟩)
    have HL := Lib.hid he
    obtain ⟨g, rfl, _, _, hcell⟩ := HREAD.out hp
    have e1 := hcell 0 hp
    rw [he] at e1
    obtain ⟨t, ht⟩ : ∃ t, t = (solL n cs).getD 0 ByteArray.empty := ⟨_, rfl⟩
    rw [← ht] at e1 HE
    have i1 : (0 : Int) < (L.length : Int) := by omega
    clear hcell hb he hv0 hv1 ht
    go_wp2
    go_ret2
    exact ⟨by rw [HE.out.1, HE.out.2]; exact rfl, HB2.out⟩

theorem SureSigns_none {s : Int} {cs : List RClue} (h : (outSolutions_0 s cs).length = 0) : outSureSigns_0 s cs = ByteArray.empty ∧ outSureSigns_1 s cs = false := by
  have h1 : outSureSigns_1 s cs = false := by
    unfold outSureSigns_1
    rcases hb : goodP s cs with _ | _
    · rfl
    · unfold outSolutions_0 at h; rw [hb] at h; simp only [if_true] at h; rw [h]; rfl
  unfold outSureSigns_0; rw [h1]; exact ⟨rfl, rfl⟩
theorem SureSigns_some {s : Int} {cs : List RClue} (h : 0 < (outSolutions_0 s cs).length) : goodP s cs = true ∧ outSolutions_0 s cs = solL s.toNat cs ∧ outSureSigns_0 s cs = sureTo (solL s.toNat cs) s.toNat ∧ outSureSigns_1 s cs = true := by
  have hb : goodP s cs = true := by
    rcases hb : goodP s cs with _ | _
    · unfold outSolutions_0 at h; rw [hb] at h; simp at h
    · rfl
  have he : outSolutions_0 s cs = solL s.toNat cs := by unfold outSolutions_0; rw [hb]; rfl
  have h1 : outSureSigns_1 s cs = true := by unfold outSureSigns_1; rw [hb, ← he, decide_eq_true h]; rfl
  refine ⟨hb, he, ?_, h1⟩
  unfold outSureSigns_0; rw [h1]; rfl
set_option maxHeartbeats 2000000 in
theorem implSureSigns_any (w : World) (s : Int) (a : Option Addr) (len cap : Nat) (cs : List RClue) (hl : len ≤ 1048576) (hc : CameClue w a len cs) :
    Calls Try.prog 39 #[.agg #[.int .i64 s, .slice a len cap]] w fun e w' => e = .returned (.tuple #[.string (outSureSigns_0 s cs), .bool (outSureSigns_1 s cs)]) ∧ Below w.heap.size w w' := by
  have HB : Hid (Below w.heap.size w (w.alloc (.cells #[.int .i64 s, .slice a len cap] 35))) := Lib.hid ((Below.refl _ _).alloc (Nat.le_refl _) _)
  have HS := Lib.hid (implSolutions_any (w.alloc (.cells #[.int .i64 s, .slice a len cap] 35)) s a len cap cs hl (hc.below HB.out))
  clear hc
  obtain ⟨r0, hr0⟩ : ∃ r, r = outSureSigns_0 s cs := ⟨_, rfl⟩
  obtain ⟨r1, hr1⟩ : ∃ r, r = outSureSigns_1 s cs := ⟨_, rfl⟩
  rw [← hr0, ← hr1]
  have HR0 := Lib.hid hr0
  have HR1 := Lib.hid hr1
  have HNO := Lib.hid (SureSigns_none (s := s) (cs := cs))
  have HYE := Lib.hid (SureSigns_some (s := s) (cs := cs))
  obtain ⟨L, hL⟩ : ∃ L, L = outSolutions_0 s cs := ⟨_, rfl⟩
  rw [← hL] at HS HNO HYE
  clear hr0 hr1 hL
  go_enter Try.func39, Try.ntmps39
  go_wp2_with fail
  go_at_call 30
  refine HS.out.mono ?_
  rintro e w2 ⟨v, rfl, o2, b2⟩
  have HB2 : Hid (Below w.heap.size w w2) := Lib.hid (HB.out.trans (b2.mono HB.out.size))
  have HO := Lib.hid o2
  obtain ⟨ao, cp, rfl, hread⟩ := o2.read
  have HREAD := Lib.hid hread
  clear b2 o2 hread
  by_cases h0 : L.length = 0
  · have HE : Hid (r0 = ByteArray.empty ∧ r1 = false) := Lib.hid (by rw [HR0.out, HR1.out]; exact HNO.out h0)
    have hq : ((L.length : Int) == 0) = true := by rw [beq_iff_eq]; omega
    go_wp2
    go_ret2
    exact ⟨by rw [HE.out.1, HE.out.2]; exact rfl, HB2.out⟩
  · have hq : ((L.length : Int) == 0) = false := by rw [beq_eq_false_iff_ne]; omega
    have hp : 0 < L.length := by omega
    obtain ⟨hb, he, hv0, hv1⟩ := HYE.out hp
    obtain ⟨⟨n, hn, hn1, hn8⟩, _, _⟩ := pz_of hb
    subst hn
    rw [Int.toNat_natCast] at he hv0
    have HE : Hid (r0 = sureTo (solL n cs) n ∧ r1 = true) := Lib.hid (by rw [HR0.out, HR1.out]; exact ⟨hv0, hv1⟩)
    have HL := Lib.hid he
    obtain ⟨g, rfl, _, _, hcell⟩ := HREAD.out hp
    have HM := Lib.hid (sureSigns_any w2 _ n _ (solM n cs) hn1 hn8 (by have h := congrArg List.length (solM_is n cs); rw [List.length_map] at h; rw [← h, ← he]; exact hp) (by have h := congrArg List.length (solM_is n cs); rw [List.length_map] at h; rw [← h]; exact solL_le hn8 cs) (solM_len n cs) (by rw [← solM_is, ← he]; exact HO.out))
    rw [← solM_is] at HM
    obtain ⟨t, ht⟩ : ∃ t, t = sureTo (solL n cs) n := ⟨_, rfl⟩
    rw [← ht] at HM HE
    clear hcell hb he hv0 hv1 ht
    go_wp2_with fail
    go_at_call 66
    refine HM.out.mono ?_
    rintro e w3 ⟨rfl, b3⟩
    have HB3 : Hid (Below w.heap.size w w3) := Lib.hid (HB2.out.trans (b3.mono HB2.out.size))
    clear b3
    go_wp2
    go_ret2
    exact ⟨by rw [HE.out.1, HE.out.2]; exact rfl, HB3.out⟩

end Go.Proofs.Ytodlpdbmiicdfaa
