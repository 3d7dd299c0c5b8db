/- Chapter 8, the program: hearTimes, HeardBy, TimeAllHear. -/
import Derived.Test.YtmlamcimncfmcaaSjb
import Derived.Test.YtmlamcimncfmcaaIm
import Derived.Test.YtmlamcimncfmcaaMx
namespace Go.Proofs.Ytmlamcimncfmcaa
open Go.ChangeShapes Go.WideShapes Go.ChangeAt Go.RowKit
open Si

namespace Si
theorem hearL_get {n : Nat} {ps : List RSignal} {j p : Nat} (h : p < n) : (hearL n ps j).getD p 0 = ((hearA n ps p j : Nat) : Int) := getD_upTo _ _ _ h
theorem hearT_get {n : Nat} {ps : List RSignal} {j f : Nat} {l : Bool} {s t p : Nat} (h : p < n) : (hearT n ps j f l s t).getD p 0 = ((seenTo (posN n f l s) (fun p => hearA n ps p j) t p : Nat) : Int) := getD_upTo _ _ _ h
theorem seen_le (pos c : Nat → Nat) (p M : Nat) (h : c p ≤ M) : ∀ k, seenTo pos c k p ≤ M
  | 0 => h
  | k + 1 => by
    have := seen_le pos c p M h k
    rw [seenTo]; split <;> omega
theorem list_here {n : Int} {ps : List RSignal} (h : listB n ps = true) : inB n 1 100 = true ∧ 1 ≤ ps.length ∧ ps.length ≤ 10 ∧ ∀ k, k < ps.length → sigB n (ps.getD k zSignal) = true := by
  have h1 : inB ps.length 1 10 = true ∧ ps.all (sigB n) = true := by unfold listB at h; rwa [Bool.and_eq_true] at h
  have h2 := inB_yes h1.1
  have h3 : ∀ k, k < ps.length → sigB n (ps.getD k zSignal) = true := fun k hk => by
    have := List.all_eq_true.1 h1.2 _ (List.getElem_mem hk)
    simpa only [List.getD_eq_getElem?_getD, List.getElem?_eq_getElem hk, Option.getD_some] using this
  refine ⟨?_, by omega, by omega, h3⟩
  have := h3 0 (by omega)
  unfold sigB at this
  rw [Bool.and_eq_true] at this
  exact this.1
theorem max_up {N len : Nat} {ps : List RSignal} (h : ∀ p, p < N → soonN N ps p = hearA N ps p len) : ∀ k, k < N → _root_.Go.Proofs.Ytmlamcimncfmcaa.maxTo (hearL N ps len) k = ((Si.maxTo (soonN N ps) (k + 1) : Nat) : Int)
  | 0, hk => by
    show (hearL N ps len).getD 0 0 = ((max 0 (soonN N ps 0) : Nat) : Int)
    rw [hearL_get hk, ← h 0 hk, Nat.zero_max]
  | k + 1, hk => by
    have ih := max_up h k (by omega)
    show max (_root_.Go.Proofs.Ytmlamcimncfmcaa.maxTo (hearL N ps len) k) ((hearL N ps len).getD (k + 1) 0) = ((max (Si.maxTo (soonN N ps) (k + 1)) (soonN N ps (k + 1)) : Nat) : Int)
    rw [ih, hearL_get hk, ← h _ hk]; omega
theorem max_hear {N len : Nat} {ps : List RSignal} (hN : 1 ≤ N) (l1 : 1 ≤ ps.length) (l3 : ∀ k, k < ps.length → sigB N (ps.getD k zSignal) = true) (hz : ps.length = len) : _root_.Go.Proofs.Ytmlamcimncfmcaa.maxTo (hearL N ps len) (N - 1) = ((Si.maxTo (soonN N ps) N : Nat) : Int) := by
  have := max_up (N := N) (len := len) (ps := ps) (fun p _ => by rw [soonN_is l1 l3, hz]) (N - 1) (by omega)
  rwa [show N - 1 + 1 = N by omega] at this
end Si

theorem BoxS.set {w : World} {G g j : Nat} {f s : Int} {l : Bool} {v : Value} (h : BoxS w G f l s) (hne : g ≠ G) : BoxS (w.setCell ⟨g, j, none⟩ v) G f l s := by
  have hlt : G < w.heap.size := World.block_lt_of_cell? w _ h.1
  have hb := (set_grown w g j v).block G hlt (fun e => hne (Option.some.inj e).symm)
  obtain ⟨h0, h1, h2⟩ := h
  exact ⟨by rw [← h0]; simp [World.cell?, hb], by rw [← h1]; simp [World.cell?, hb], by rw [← h2]; simp [World.cell?, hb]⟩

set_option maxHeartbeats 8000000 in
theorem hearTimes_any (w : World) (N : Nat) (a : Option Addr) (len cap : Nat) (ps : List RSignal) (n1 : 1 ≤ N) (n2 : N ≤ 100) (l2 : len ≤ 10) (hs : ∀ k, k < ps.length → sigB N (ps.getD k zSignal) = true) (hc : CameSignal w a len ps) :
    Calls Try.prog 61 #[.int .i64 N, .slice a len cap] w fun e w' => ∃ v, e = .returned v ∧ Own w' w.heap.size v (hearL N ps len) ∧ Below w.heap.size w w' := by
  have HZ : Hid (ps.length = len) := Lib.hid hc.1
  have HC := Lib.hid hc
  have HS := Lib.hid hs
  have HR := Lib.hid (repeat_any 100000 N n1 n2 (w.alloc (.cells #[.int .i64 100000] 3)) w.heap.size (by rw [World.cell?_alloc_new]; rfl))
  have HB1 : Hid (Below w.heap.size w (w.alloc (.cells #[.int .i64 100000] 3))) := Lib.hid ((Below.refl _ _).alloc (Nat.le_refl _) _)
  clear hc hs
  go_enter Try.func61, Try.ntmps61
  go_wp2_with fail
  go_at_call 66
  refine HR.out.mono ?_
  rintro e w2 ⟨v, rfl, o2, b2⟩
  have HB2 : Hid (Below w.heap.size w w2) := Lib.hid (HB1.out.trans (b2.mono HB1.out.size))
  have HO2 : Hid (Own w2 w.heap.size v (hearL N ps 0)) := Lib.hid (by rw [hearL_zero]; exact o2.mono HB1.out.size)
  clear o2 b2
  obtain ⟨g, cap2, rfl, hg1, hg2⟩ := HO2.out.point (by rw [length_hearL]; omega)
  rw [length_hearL] at HO2 ⊢
  go_wp2_with fail
  go_loopw [7, 8, 9, 15] (fun x7 x8 x9 i wr => ∃ k : Nat, k ≤ len ∧ i = .int .i64 (k : Int) ∧ Hid (Own wr w.heap.size (.slice (some ⟨g, 0, none⟩) N cap2) (hearL N ps k)) ∧ Hid (Below w.heap.size w wr)) (fun _ _ _ i _ => len - (intOf i).toNat)
  case atStart => exact ⟨0, Nat.zero_le _, rfl, HO2, HB2⟩
  case round =>
    obtain ⟨k, hk, rfl, HO, HB⟩ := hrel
    by_cases hlt : k < len
    · obtain ⟨b, off, rfl, hcell⟩ := (HC.out.below HB.out).2 (by omega)
      obtain ⟨e0, e1, e2⟩ := hcell k hlt
      have hsk := HS.out k (by have := HZ.out; omega)
      obtain ⟨N', F, S, hN, hp, hgo⟩ := sig_nat hsk
      obtain rfl : N = N' := by omega
      obtain ⟨l, hl⟩ : ∃ l, l = (ps.getD k zSignal).2.1 := ⟨_, rfl⟩
      rw [← hl] at hp
      rw [hp] at e0 e1 e2
      simp only at e0 e1 e2
      have HP := Lib.hid (fun w2 => period_any N F S l hgo w2)
      have HA := Lib.hid (fun T (h : T ≤ 1000000) w2 => at_any N F S T l hgo h w2)
      have HPL := Lib.hid (fun T => posN_lt (n := N) (f := F) (s := S) l T hgo)
      have HTA := Lib.hid (hearT_all (ps := ps) (j := k) hgo hp)
      have hpb := perN_le n2 hgo.s2
      obtain ⟨R, hR⟩ : ∃ R, R = perN N S := ⟨_, rfl⟩
      rw [← hR] at HP HTA hpb
      have i1 : (0 : Int) ≤ (k : Int) := by omega
      have i2 : (k : Int) < (len : Int) := by omega
      obtain ⟨wo, rfl⟩ : ∃ wo : World, wo = wr := ⟨_, rfl⟩
      have hgG : g < wo.heap.size := by
        obtain ⟨g', c', hv, _, h3⟩ := HO.out.point (by rw [length_hearL]; omega)
        injection hv with hv _ _; injection hv with hv; injection hv with hv _ _; omega
      have HBA : Hid (Below w.heap.size w (wo.alloc (.cells #[.int .i64 (F : Int), .bool l, .int .i64 (S : Int)] 33))) := Lib.hid (HB.out.alloc HB.out.size _)
      have HOA : Hid (Own (wo.alloc (.cells #[.int .i64 (F : Int), .bool l, .int .i64 (S : Int)] 33)) w.heap.size (.slice (some ⟨g, 0, none⟩) N cap2) (hearL N ps k)) := Lib.hid (own_alloc HO.out _)
      have HBX : Hid (BoxS (wo.alloc (.cells #[.int .i64 (F : Int), .bool l, .int .i64 (S : Int)] 33)) wo.heap.size F l S) := Lib.hid (boxS_new ..)
      clear hcell hsk hgo hp hl hR
      go_wp2_with fail
      go_at_call 50
      refine (HP.out _).mono ?_
      rintro e w3 ⟨rfl, bb⟩
      have HB3 : Hid (Below w.heap.size w w3) := Lib.hid (HBA.out.trans (bb.mono HBA.out.size))
      have HO3 : Hid (Own w3 w.heap.size (.slice (some ⟨g, 0, none⟩) N cap2) (hearL N ps k)) := Lib.hid (HOA.out.below bb (Nat.le_refl _))
      have HX3 : Hid (BoxS w3 wo.heap.size F l S) := Lib.hid (HBX.out.below bb)
      clear bb e0 e1 e2 HBA HOA HBX
      obtain ⟨G, hG⟩ : ∃ G, G = wo.heap.size := ⟨_, rfl⟩
      rw [← hG] at HX3 hgG ⊢
      clear hG
      go_wp2_with fail
      go_loopw [8, 9, 22] (fun y8 y9 i wr => ∃ t : Nat, t ≤ R ∧ i = .int .i64 (t : Int) ∧ Hid (Own wr w.heap.size (.slice (some ⟨g, 0, none⟩) N cap2) (hearT N ps k F l S t)) ∧ Hid (Below w.heap.size w wr) ∧ Hid (BoxS wr G F l S)) (fun _ _ i _ => R - (intOf i).toNat)
      case atStart => exact ⟨0, Nat.zero_le _, rfl, HO3, HB3, HX3⟩
      case round =>
        obtain ⟨t, ht, rfl, HO, HB, HX⟩ := hrel
        by_cases hlt2 : t < R
        · have htT : t ≤ 1000000 := by omega
          have HAt := Lib.hid (HA.out t htT)
          have j2 : (t : Int) < (R : Int) := by omega
          obtain ⟨c0, c1, c2⟩ := HX.out
          have hpl := HPL.out t
          have HST := Lib.hid (fun x => @hearT_step N ps k F l S t x)
          have hcb := seen_le (posN N F l S) (fun p => hearA N ps p k) (posN N F l S t) 100000 (hearA_le ..) t
          have HGT := Lib.hid (hearT_get (ps := ps) (j := k) (f := F) (l := l) (s := S) (t := t) hpl)
          obtain ⟨q, hq⟩ : ∃ q, q = posN N F l S t := ⟨_, rfl⟩
          rw [← hq] at HAt hpl HST hcb HGT
          obtain ⟨c, hcc⟩ : ∃ c, c = seenTo (posN N F l S) (fun p => hearA N ps p k) t q := ⟨_, rfl⟩
          rw [← hcc] at HST hcb HGT
          clear hq hcc
          obtain ⟨wi, rfl⟩ : ∃ wi : World, wi = wr := ⟨_, rfl⟩
          go_wp2_with fail
          go_at_call 48
          refine (HAt.out _).mono ?_
          rintro e w4 ⟨rfl, bb⟩
          have HB4 : Hid (Below w.heap.size w w4) := Lib.hid (HB.out.trans (bb.mono HB.out.size))
          have HO4 : Hid (Own w4 w.heap.size (.slice (some ⟨g, 0, none⟩) N cap2) (hearT N ps k F l S t)) := Lib.hid (HO.out.below bb (Nat.le_refl _))
          have HX4 : Hid (BoxS w4 G F l S) := Lib.hid (HX.out.below bb)
          clear bb c0 c1 c2
          have HNL : Hid (N = (hearT N ps k F l S t).length) := Lib.hid (length_hearT ..).symm
          have f0 := HO4.out.free HNL.out q
          have e0 := HO4.out.cell HNL.out q (by rw [← HNL.out]; exact hpl)
          rw [HGT.out] at e0
          have q1 : (0 : Int) ≤ (q : Int) := by omega
          have q2 : (q : Int) < (N : Int) := by omega
          by_cases hct : ¬ t < c
          · have hctI : ¬ (t : Int) < (c : Int) := by omega
            have HO5 : Hid (Own (w4.setCell ⟨g, q, none⟩ (.int .i64 (c : Int))) w.heap.size (.slice (some ⟨g, 0, none⟩) N cap2) (hearT N ps k F l S (t + 1))) := Lib.hid (by
              rw [← HST.out c (by omega)]; exact HO4.out.set HNL.out q _)
            have HB5 : Hid (Below w.heap.size w (w4.setCell ⟨g, q, none⟩ (.int .i64 (c : Int)))) := Lib.hid (HB4.out.setCell hg1 _)
            have HX5 : Hid (BoxS (w4.setCell ⟨g, q, none⟩ (.int .i64 (c : Int))) G F l S) := Lib.hid (HX4.out.set (by omega))
            go_wp2
            go_roundw
            case rel => exact ⟨t + 1, by omega, by go_num, HO5, HB5, HX5⟩
            case measure => simp [intOf]; omega
          · have hctI : (t : Int) < (c : Int) := by omega
            have HO5 : Hid (Own (w4.setCell ⟨g, q, none⟩ (.int .i64 (t : Int))) w.heap.size (.slice (some ⟨g, 0, none⟩) N cap2) (hearT N ps k F l S (t + 1))) := Lib.hid (by
              rw [← HST.out t (by omega)]; exact HO4.out.set HNL.out q _)
            have HB5 : Hid (Below w.heap.size w (w4.setCell ⟨g, q, none⟩ (.int .i64 (t : Int)))) := Lib.hid (HB4.out.setCell hg1 _)
            have HX5 : Hid (BoxS (w4.setCell ⟨g, q, none⟩ (.int .i64 (t : Int))) G F l S) := Lib.hid (HX4.out.set (by omega))
            go_wp2
            go_roundw
            case rel => exact ⟨t + 1, by omega, by go_num, HO5, HB5, HX5⟩
            case measure => simp [intOf]; omega
        · have j2 : ¬ (t : Int) < (R : Int) := by omega
          have HO6 : Hid (Own wr w.heap.size (.slice (some ⟨g, 0, none⟩) N cap2) (hearL N ps (k + 1))) := Lib.hid (by rw [← HTA.out, show R = t by omega]; exact HO.out)
          go_wp2
          go_roundw
          case rel => exact ⟨k + 1, by omega, by go_num, HO6, HB⟩
          case measure => simp [intOf]; omega
    · have i2 : ¬ (k : Int) < (len : Int) := by omega
      have HF : Hid (Own wr w.heap.size (.slice (some ⟨g, 0, none⟩) N cap2) (hearL N ps len)) := Lib.hid (by rw [show len = k by omega]; exact HO.out)
      go_wp2
      go_ret
      exact ⟨_, rfl, HF.out, HB.out⟩

set_option maxHeartbeats 4000000 in
theorem implHeardBy_any (w : World) (n : Int) (a : Option Addr) (len cap : Nat) (ps : List RSignal) (u : Int) (_wn : (Lit.int .i64 n).wf = true) (_wu : (Lit.int .i64 u).wf = true) (hl : len ≤ 1048576) (hc : CameSignal w a len ps) :
    Calls Try.prog 33 #[.int .i64 n, .slice a len cap, .int .i64 u] w fun e w' => ∃ v0, e = .returned (.tuple #[v0, .bool (outHeardBy_1 n ps u)]) ∧ Own w' w.heap.size v0 (outHeardBy_0 n ps u) ∧ Below w.heap.size w w' := by
  have HL := Lib.hid (implAreSignals_any w n a len cap ps _wn hl hc)
  rw [show outAreSignals_0 n ps = listB n ps from rfl] at HL
  clear _wn _wu
  have HU := Lib.hid (fun w2 => isSignalTime_any u w2)
  have HZ : Hid (ps.length = len) := Lib.hid hc.1
  have HC := Lib.hid hc
  clear hc
  rcases hb1 : listB n ps with _ | _
  · have H0 : Hid (outHeardBy_0 n ps u = [] ∧ outHeardBy_1 n ps u = false) := Lib.hid (by unfold outHeardBy_0 outHeardBy_1; rw [hb1, Bool.false_and, Bool.and_false]; exact ⟨rfl, rfl⟩)
    rw [hb1] at HL
    clear hb1
    go_enter Try.func33, Try.ntmps33
    go_wp2_with fail
    go_at_call 16
    refine (HL.out).mono ?_
    rintro e w2 ⟨rfl, bb⟩
    have B2 := Lib.hid bb
    clear bb
    go_wp2
    go_ret2
    exact ⟨_, by rw [H0.out.2]; exact rfl, by rw [H0.out.1]; exact own_nil _ _, B2.out⟩
  rcases hb2 : inB u 0 100000 with _ | _
  · have H0 : Hid (outHeardBy_0 n ps u = [] ∧ outHeardBy_1 n ps u = false) := Lib.hid (by unfold outHeardBy_0 outHeardBy_1; rw [hb2, Bool.and_false, Bool.and_false]; exact ⟨rfl, rfl⟩)
    rw [hb1] at HL
    rw [hb2] at HU
    clear hb1 hb2
    go_enter Try.func33, Try.ntmps33
    go_wp2_with fail
    go_at_call 16
    refine (HL.out).mono ?_
    rintro e w2 ⟨rfl, bb⟩
    have B2 := Lib.hid bb
    clear bb
    go_wp2_with fail
    go_at_call 47
    refine (HU.out _).mono ?_
    rintro e ww ⟨rfl, rfl⟩
    go_wp2
    go_ret2
    exact ⟨_, by rw [H0.out.2]; exact rfl, by rw [H0.out.1]; exact own_nil _ _, B2.out⟩
  · obtain ⟨hb0, l1, l2, l3⟩ := list_here hb1
    obtain ⟨n1, n2⟩ := inB_yes hb0
    obtain ⟨u1, u2⟩ := inB_yes hb2
    obtain ⟨N, rfl⟩ : ∃ N : Nat, n = (N : Int) := ⟨n.toNat, by omega⟩
    obtain ⟨U, rfl⟩ : ∃ N : Nat, u = (N : Int) := ⟨u.toNat, by omega⟩
    have hl1 : 1 ≤ len := by have := HZ.out; omega
    have hl2 : len ≤ 10 := by have := HZ.out; omega
    have HHB : Hid (∀ k, heardB N ps U k = decide (hearA N ps k len ≤ U)) := Lib.hid (fun k => by rw [heard_is l1 l3 (by omega), HZ.out])
    have H0 : Hid (outHeardBy_0 N ps U = heardTo N ps U N ∧ outHeardBy_1 N ps U = true) := Lib.hid (by unfold outHeardBy_0 outHeardBy_1; rw [hb0, hb1, hb2]; exact ⟨rfl, rfl⟩)
    have HT := Lib.hid (fun w2 (h : Below w.heap.size w w2) => hearTimes_any w2 N a len cap ps (by omega) (by omega) hl2 l3 (HC.out.below h))
    rw [hb1] at HL
    rw [hb2] at HU
    clear hb0 hb1 hb2 l1 l2 l3
    go_enter Try.func33, Try.ntmps33
    go_wp2_with fail
    go_at_call 16
    refine (HL.out).mono ?_
    rintro e w2 ⟨rfl, bb⟩
    have B2 := Lib.hid bb
    clear bb
    go_wp2_with fail
    go_at_call 47
    refine (HU.out _).mono ?_
    rintro e ww ⟨rfl, rfl⟩
    go_wp2_with fail
    go_at_call 61
    refine (HT.out _ B2.out).mono ?_
    rintro e w3 ⟨v, rfl, o3, bb⟩
    have B3 : Hid (Below w.heap.size w w3) := Lib.hid (B2.out.trans (bb.mono B2.out.size))
    obtain ⟨ao, cap3, rfl, hcm⟩ := o3.came
    rw [length_hearL] at hcm ⊢
    have HC3 := Lib.hid hcm
    clear o3 bb hcm
    go_wp2_with fail
    go_loopw [8, 9, 10, 24] (fun v j9 j10 i wr => ∃ k : Nat, k ≤ N ∧ i = .int .i64 (k : Int) ∧ Hid (Own wr w3.heap.size v (heardTo N ps U k)) ∧ Hid (Below w3.heap.size w3 wr)) (fun _ _ _ i _ => N - (intOf i).toNat)
    case atStart => exact ⟨0, Nat.zero_le _, rfl, Lib.hid (own_nil _ _), Lib.hid (Below.refl _ _)⟩
    case round =>
      obtain ⟨k, hk, rfl, HO, HB⟩ := hrel
      by_cases hlt : k < N
      · obtain ⟨b, off, rfl, hcell⟩ := (HC3.out.below HB.out).2 (by omega)
        have e0 := hcell k hlt
        rw [hearL_get hlt] at e0
        have HHk := Lib.hid (HHB.out k)
        have HSY := Lib.hid (@heardTo_yes N U k ps)
        have HSN := Lib.hid (@heardTo_no N U k ps)
        have hcb := hearA_le N ps k len
        obtain ⟨c, hcc⟩ : ∃ c, c = hearA N ps k len := ⟨_, rfl⟩
        rw [← hcc] at e0 HHk hcb
        have i1 : (0 : Int) ≤ (k : Int) := by omega
        have i2 : (k : Int) < (N : Int) := by omega
        have hbl : (heardTo N ps U k).length ≤ 1000000000 := by have := length_heardTo N U k ps; omega
        have hz := HB.out.size
        clear hcc hcell
        by_cases hcu : c ≤ U
        · have HS2 := Lib.hid (HSY.out (by rw [HHk.out, decide_eq_true hcu]))
          have hcI : (c : Int) ≤ (U : Int) := by omega
          clear HSY HSN
          go_wp2_with (at_builtin; refine wpList_app rfl _ _ rfl wr _ _ _ _ rfl rfl HO.out hz hbl ?_; intro v5 w5 hO5 hB5; have HO5 : Hid (Own w5 w3.heap.size v5 (heardTo N ps U (k + 1))) := Lib.hid (by rw [HS2.out]; exact hO5); have HB5 : Hid (Below w3.heap.size w3 w5) := Lib.hid (HB.out.trans hB5); clear hO5 hB5)
          go_roundw
          case rel => exact ⟨k + 1, by omega, by go_num, HO5, HB5⟩
          case measure => simp [intOf]; omega
        · have HS2 := Lib.hid (HSN.out (by rw [HHk.out, decide_eq_false hcu]))
          have hcI : ¬ (c : Int) ≤ (U : Int) := by omega
          clear HSY HSN
          go_wp2
          go_roundw
          case rel => exact ⟨k + 1, by omega, by go_num, Lib.hid (by rw [HS2.out]; exact HO.out), HB⟩
          case measure => simp [intOf]; omega
      · have i2 : ¬ (k : Int) < (N : Int) := by omega
        have HF : Hid (heardTo N ps U k = heardTo N ps U N) := Lib.hid (by rw [show k = N by omega])
        go_wp2
        go_ret2
        exact ⟨_, by rw [H0.out.2]; exact rfl, by rw [H0.out.1, ← HF.out]; exact HO.out.mono B3.out.size, B3.out.trans (HB.out.mono B3.out.size)⟩

set_option maxHeartbeats 4000000 in
theorem implTimeAllHear_any (w : World) (n : Int) (a : Option Addr) (len cap : Nat) (ps : List RSignal) (_wn : (Lit.int .i64 n).wf = true) (hl : len ≤ 1048576) (hc : CameSignal w a len ps) :
    Calls Try.prog 36 #[.int .i64 n, .slice a len cap] w fun e w' => e = .returned (.tuple #[.int .i64 (outTimeAllHear_0 n ps), .bool (outTimeAllHear_1 n ps)]) ∧ Below w.heap.size w w' := by
  have HL := Lib.hid (implAreSignals_any w n a len cap ps _wn hl hc)
  rw [show outAreSignals_0 n ps = listB n ps from rfl] at HL
  clear _wn
  have HZ : Hid (ps.length = len) := Lib.hid hc.1
  have HC := Lib.hid hc
  clear hc
  rcases hb1 : listB n ps with _ | _
  · have H0 : Hid (outTimeAllHear_0 n ps = 0 ∧ outTimeAllHear_1 n ps = false) := Lib.hid (by unfold outTimeAllHear_0 outTimeAllHear_1; rw [hb1, Bool.and_false]; exact ⟨rfl, rfl⟩)
    rw [hb1] at HL
    clear hb1
    go_enter Try.func36, Try.ntmps36
    go_wp2_with fail
    go_at_call 16
    refine (HL.out).mono ?_
    rintro e w2 ⟨rfl, bb⟩
    have B2 := Lib.hid bb
    clear bb
    go_wp2
    go_ret2
    exact ⟨by rw [H0.out.1, H0.out.2]; exact rfl, B2.out⟩
  · obtain ⟨hb0, l1, l2, l3⟩ := list_here hb1
    obtain ⟨n1, n2⟩ := inB_yes hb0
    obtain ⟨N, rfl⟩ : ∃ N : Nat, n = (N : Int) := ⟨n.toNat, by omega⟩
    have hl2 : len ≤ 10 := by have := HZ.out; omega
    have hN : 1 ≤ N := by omega
    have HMX : Hid (_root_.Go.Proofs.Ytmlamcimncfmcaa.maxTo (hearL N ps len) (N - 1) = ((Si.maxTo (soonN N ps) N : Nat) : Int)) := Lib.hid (max_hear hN l1 l3 HZ.out)
    have H0 : Hid (outTimeAllHear_0 N ps = (Si.maxTo (soonN N ps) N : Nat) ∧ outTimeAllHear_1 N ps = true) := Lib.hid (by unfold outTimeAllHear_0 outTimeAllHear_1; rw [hb0, hb1]; exact ⟨rfl, rfl⟩)
    have HT := Lib.hid (fun w2 (h : Below w.heap.size w w2) => hearTimes_any w2 N a len cap ps (by omega) (by omega) hl2 l3 (HC.out.below h))
    rw [hb1] at HL
    clear hb0 hb1 l1 l2 l3
    go_enter Try.func36, Try.ntmps36
    go_wp2_with fail
    go_at_call 16
    refine (HL.out).mono ?_
    rintro e w2 ⟨rfl, bb⟩
    have B2 := Lib.hid bb
    clear bb
    go_wp2_with fail
    go_at_call 61
    refine (HT.out _ B2.out).mono ?_
    rintro e w3 ⟨v, rfl, o3, bb⟩
    have B3 : Hid (Below w.heap.size w w3) := Lib.hid (B2.out.trans (bb.mono B2.out.size))
    obtain ⟨ao, cap3, rfl, hcm⟩ := o3.came
    rw [length_hearL] at hcm ⊢
    have HMA := Lib.hid (max_any w3 ao N cap3 (hearL N ps len) (by omega) (by omega) hcm)
    clear o3 bb hcm
    go_wp2_with fail
    go_at_call 63
    refine HMA.out.mono ?_
    rintro e w4 ⟨rfl, rfl⟩
    go_wp2
    go_ret2
    exact ⟨by rw [H0.out.1, H0.out.2, ← HMX.out]; exact rfl, B3.out⟩

end Go.Proofs.Ytmlamcimncfmcaa
