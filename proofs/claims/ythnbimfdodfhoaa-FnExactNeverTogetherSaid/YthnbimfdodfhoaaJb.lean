/- Chapter 5, the program: asColumns, firstTogether, periodOf, FirstTogether, PeriodOf. -/
import Derived.Test.YthnbimfdodfhoaaJa
import Derived.Test.YthnbimfdodfhoaaPh
import Derived.Test.YthnbimfdodfhoaaFe
namespace Go.Proofs.Ythnbimfdodfhoaa
open Go.ChangeShapes Go.WideShapes Go.ChangeAt Go.RowKit
open Fo Pa

theorem Own.caps {w : World} {B : Nat} {v : Value} {zs : List Int} (h : Own w B v zs) : ∃ ao cap, v = .slice ao zs.length cap ∧ Came w ao zs.length zs ∧ (zs.length ≤ cap ∧ cap ≤ 9223372036854775807) := by
  obtain ⟨ao, cap, h1, h2, h3, h4⟩ := h.cameC
  exact ⟨ao, cap, h1, h2, h3, h4⟩

set_option maxHeartbeats 2000000 in
theorem asColumns_any (w : World) (a : Option Addr) (len cap : Nat) (qs : List (Nat × Nat)) (h6 : len ≤ 6) (hc : CameQ w a len qs) :
    Calls Try.prog 67 #[.slice a len cap] w fun e w' => ∃ u v, e = .returned (.tuple #[u, v]) ∧ Two w' w.heap.size u v (asInts (fsts qs)) (asInts (snds qs)) ∧ Below w.heap.size w w' := by
  have HZ : Hid (qs.length = len) := Lib.hid hc.1
  have HC := Lib.hid hc
  clear hc
  go_enter Try.func67, Try.ntmps67
  go_wp2
  go_loopw [2, 3, 8] (fun p q i wr => ∃ k : Nat, k ≤ len ∧ i = .int .i64 (k : Int) ∧ Hid (Two wr w.heap.size p q (fstTo qs k) (sndTo qs k)) ∧ Hid (Below w.heap.size w wr)) (fun _ _ i _ => len - (intOf i).toNat)
  case atStart => exact ⟨0, Nat.zero_le _, rfl, Lib.hid (two_nil _ _), Lib.hid (Below.refl _ _)⟩
  case round =>
    obtain ⟨k, hk, rfl, HO, HB⟩ := hrel
    by_cases hlt : k < len
    · obtain ⟨b, off, rfl, hcell⟩ := (HC.out.below HB.out).2 (by omega)
      obtain ⟨e0, e1⟩ := hcell k hlt
      have HS1 : Hid (fstTo qs (k + 1) = fstTo qs k ++ [((qs.getD k (1, 0)).1 : Int)]) := Lib.hid (fstTo_succ (by rw [HZ.out]; exact hlt))
      have HS2 : Hid (sndTo qs (k + 1) = sndTo qs k ++ [((qs.getD k (1, 0)).2 : Int)]) := Lib.hid (sndTo_succ (by rw [HZ.out]; exact hlt))
      obtain ⟨x, hx⟩ : ∃ x, x = (qs.getD k (1, 0)).1 := ⟨_, rfl⟩
      obtain ⟨y, hy⟩ : ∃ x, x = (qs.getD k (1, 0)).2 := ⟨_, rfl⟩
      rw [← hx] at e0 HS1
      rw [← hy] at e1 HS2
      have i1 : (0 : Int) ≤ (k : Int) := by omega
      have i2 : (k : Int) < (len : Int) := by omega
      have HBA : Hid (Below w.heap.size w (wr.alloc (.cells #[.int .i64 (x : Int), .int .i64 (y : Int)] 48))) := Lib.hid (HB.out.alloc HB.out.size _)
      have HT := Lib.hid (HO.out.alloc (.cells #[.int .i64 (x : Int), .int .i64 (y : Int)] 48))
      have HPN : Hid (∀ g, g = wr.heap.size → ∀ u zs, Own wr w.heap.size u zs → some g ≠ u.ownBlock) := Lib.hid (fun g hg u zs h e => by have := (World.ownsRow.lt h g e.symm).2; omega)
      have HP1 := Lib.hid (HPN.out _ rfl _ _ HO.out.fst)
      have hz := HBA.out.size
      have hb1 : (fstTo qs k).length ≤ 1000000000 := by have := fstTo_len qs k; omega
      have hb2 : (sndTo qs k).length ≤ 1000000000 := by have := sndTo_len qs k; omega
      clear hcell hx hy HO HPN
      go_wp2_with (first
        | (at_builtin; refine wpList_appG rfl _ _ rfl (wr.alloc (.cells #[.int .i64 (x : Int), .int .i64 (y : Int)] 48)) _ _ _ _ rfl (by show Value.slice (some ⟨wr.heap.size + 1, 0, none⟩) 1 1 = Value.slice (some ⟨(wr.alloc _).heap.size, 0, none⟩) 1 1; rw [alloc_size1]) HT.out.fst hz hb1 ?_; intro v' w5 hO hB5 hG5 hD5; have HT5 : Hid (Two w5 w.heap.size v' _ (fstTo qs (k + 1)) (sndTo qs k)) := Lib.hid (HT.out.put (by rw [HS1.out]; exact hO) hG5 hD5); have HB5 : Hid (Below w.heap.size w w5) := Lib.hid (HBA.out.trans hB5); have e9 : w5.cell? ⟨wr.heap.size, 1, none⟩ = some (.int .i64 (y : Int)) := (World.cell?_of_block (hG5.block wr.heap.size (by rw [alloc_size1]; omega) HP1.out)).trans (by rw [World.cell?_alloc_new]; rfl); clear hO hB5 hG5 hD5)
        | (at_builtin; refine wpList_appG rfl _ _ rfl _ _ _ _ _ rfl rfl HT5.out.snd HB5.out.size hb2 ?_; intro v2 w6 hO hB6 hG6 hD6; have HT6 : Hid (Two w6 w.heap.size _ v2 (fstTo qs (k + 1)) (sndTo qs (k + 1))) := Lib.hid (HT5.out.swap.put (by rw [HS2.out]; exact hO) hG6 hD6).swap; have HB6 : Hid (Below w.heap.size w w6) := Lib.hid (HB5.out.trans hB6); clear hO hB6 hG6 hD6))
      go_roundw
      case rel => exact ⟨k + 1, by omega, by go_num, HT6, HB6⟩
      case measure => simp [intOf]; omega
    · have HF : Hid (Two wr w.heap.size _ _ (asInts (fsts qs)) (asInts (snds qs))) := Lib.hid (by rw [← fstTo_all, ← sndTo_all, HZ.out, show len = k by omega]; exact HO.out)
      go_wp2
      go_ret2
      exact ⟨_, _, rfl, HF.out, HB.out⟩

theorem fsts_len (qs : List (Nat × Nat)) : (asInts (fsts qs)).length = qs.length := by rw [asInts_len]; simp [fsts]
theorem snds_len (qs : List (Nat × Nat)) : (asInts (snds qs)).length = qs.length := by rw [asInts_len]; simp [snds]
theorem leastA_or {cs ls : List Nat} {n : Nat} : ((leastA cs ls n : Nat) : Int) = leastOr (leastO cs ls n) := by
  unfold leastA leastOr; cases leastO cs ls n <;> rfl
set_option maxHeartbeats 1000000 in
theorem firstTogether_any (w : World) (a : Option Addr) (len cap : Nat) (qs : List (Nat × Nat)) (hg : GoodQ qs) (hc : CameQ w a len qs) :
    Calls Try.prog 53 #[.slice a len cap] w fun e w' => e = .returned (.tuple #[.int .i64 (leastOr (metO qs)), .bool (metO qs).isSome]) ∧ Below w.heap.size w w' := by
  have h6 : len ≤ 6 := by have := hg.few; have := hc.1; omega
  have h1 : 1 ≤ len := by have := hg.pos; have := hc.1; omega
  have HA := Lib.hid (asColumns_any w a len cap qs h6 hc)
  have HE := Lib.hid hg
  have HZ : Hid (qs.length = len) := Lib.hid hc.1
  have HV : Hid (((leastA (fsts qs) (snds qs) len : Nat) : Int) = leastOr (metO qs) ∧ (leastO (fsts qs) (snds qs) len).isSome = (metO qs).isSome) := Lib.hid (by
    rw [leastA_or]; unfold metO; rw [hc.1]; exact ⟨rfl, rfl⟩)
  clear hc hg
  go_enter Try.func53, Try.ntmps53
  go_wp2_with fail
  go_at_call 67
  refine HA.out.mono ?_
  rintro e w2 ⟨u, v, rfl, T2, b2⟩
  have B2 := Lib.hid b2
  obtain ⟨ao, c1, rfl, hcm1, hk1⟩ := T2.fst.caps
  obtain ⟨bo, c2, rfl, hcm2, hk2⟩ := T2.snd.caps
  rw [fsts_len, HZ.out] at hcm1 hk1 ⊢
  rw [snds_len, HZ.out] at hcm2 hk2 ⊢
  have hl := leastWith_any w2 ao len c1 (fsts qs) bo c2 (snds qs) h1 h6 hk1 hk2 (fun i => HE.out.fst i) (fun i => by rw [getD_snds]; have := HE.out.all i; omega) hcm1 hcm2
  rw [HV.out.1, HV.out.2] at hl
  have HL := Lib.hid hl
  clear hl hcm1 hcm2 hk1 hk2 T2 b2
  go_wp2_with fail
  go_at_call 66
  refine HL.out.mono ?_
  rintro e w3 ⟨rfl, b3⟩
  have B3 : Hid (Below w.heap.size w w3) := Lib.hid (B2.out.trans (b3.mono B2.out.size))
  clear b3
  go_wp2
  go_ret2
  exact ⟨rfl, B3.out⟩

set_option maxHeartbeats 1000000 in
theorem periodOf_any (w : World) (a : Option Addr) (len cap : Nat) (qs : List (Nat × Nat)) (hg : GoodQ qs) (hc : CameQ w a len qs) :
    Calls Try.prog 55 #[.slice a len cap] w fun e w' => e = .returned (.int .i64 (perN qs : Nat)) ∧ Below w.heap.size w w' := by
  have h6 : len ≤ 6 := by have := hg.few; have := hc.1; omega
  have HA := Lib.hid (asColumns_any w a len cap qs h6 hc)
  have HE := Lib.hid hg
  have HZ : Hid (qs.length = len) := Lib.hid hc.1
  have HV : Hid (lcmTo (fsts qs) len = perN qs) := Lib.hid (by unfold perN; rw [hc.1])
  clear hc hg
  go_enter Try.func55, Try.ntmps55
  go_wp2_with fail
  go_at_call 67
  refine HA.out.mono ?_
  rintro e w2 ⟨u, v, rfl, T2, b2⟩
  have B2 := Lib.hid b2
  obtain ⟨ao, c1, rfl, hcm1, hk1⟩ := T2.fst.caps
  rw [fsts_len, HZ.out] at hcm1 ⊢
  have hl := stepOf_any w2 ao len c1 (fsts qs) h6 (fun i => HE.out.fst i) (CameN.of hcm1)
  rw [HV.out] at hl
  have HL := Lib.hid hl
  clear hl hcm1 hk1 T2 b2
  go_wp2_with fail
  go_at_call 68
  refine HL.out.mono ?_
  rintro e w3 ⟨rfl, b3⟩
  have B3 : Hid (Below w.heap.size w w3) := Lib.hid (by obtain ⟨m, rfl⟩ := b3; exact B2.out.trans ((drewN_down _ _).mono B2.out.size))
  clear b3
  go_wp2
  go_ret
  exact ⟨rfl, B3.out⟩

set_option maxHeartbeats 1000000 in
theorem implFirstTogether_any (w : World) (a : Option Addr) (len cap : Nat) (ps : List RPace) (hl : len ≤ 1048576) (hc : CamePace w a len ps) :
    Calls Try.prog 25 #[.slice a len cap] w fun e w' => e = .returned (.tuple #[.int .i64 (outFirstTogether_0 ps), .bool (outFirstTogether_1 ps)]) ∧ Below w.heap.size w w' := by
  have HG := Lib.hid (arePaces_any w a len cap ps hl hc)
  have HC := Lib.hid hc
  clear hc
  rcases hb : goodP ps with _ | _
  · have H0 : Hid (outFirstTogether_0 ps = 0 ∧ outFirstTogether_1 ps = false) := Lib.hid (by unfold outFirstTogether_0 outFirstTogether_1; rw [hb]; exact ⟨rfl, rfl⟩)
    rw [hb] at HG
    clear hb
    go_enter Try.func25, Try.ntmps25
    go_wp2_with (go_at_call 16; refine HG.out.mono ?_; rintro e w2 ⟨rfl, b2⟩; have B2 := Lib.hid b2; clear b2)
    go_ret2
    exact ⟨by rw [H0.out.1, H0.out.2]; exact rfl, B2.out⟩
  · obtain ⟨qs, rfl, hgq⟩ := good_nat hb
    have H0 : Hid (outFirstTogether_0 (asP qs) = leastOr (metO qs) ∧ outFirstTogether_1 (asP qs) = (metO qs).isSome) := Lib.hid (by unfold outFirstTogether_0 outFirstTogether_1; rw [hb, toQ_asP]; exact ⟨rfl, rfl⟩)
    have HA := Lib.hid (fun w2 (h : Below w.heap.size w w2) => firstTogether_any w2 a len cap qs hgq ((CameQ.of HC.out).below h))
    rw [hb] at HG
    clear hb hgq
    go_enter Try.func25, Try.ntmps25
    go_wp2_with fail
    go_at_call 16
    refine HG.out.mono ?_
    rintro e w2 ⟨rfl, b2⟩
    have B2 := Lib.hid b2
    have HA2 := Lib.hid (HA.out w2 b2)
    clear b2
    go_wp2_with fail
    go_at_call 53
    refine HA2.out.mono ?_
    rintro e w3 ⟨rfl, b3⟩
    have B3 : Hid (Below w.heap.size w w3) := Lib.hid (B2.out.trans (b3.mono B2.out.size))
    clear b3
    go_wp2
    go_ret2
    exact ⟨by rw [H0.out.1, H0.out.2]; exact rfl, B3.out⟩

set_option maxHeartbeats 1000000 in
theorem implPeriodOf_any (w : World) (a : Option Addr) (len cap : Nat) (ps : List RPace) (hl : len ≤ 1048576) (hc : CamePace w a len ps) :
    Calls Try.prog 27 #[.slice a len cap] w fun e w' => e = .returned (.tuple #[.int .i64 (outPeriodOf_0 ps), .bool (outPeriodOf_1 ps)]) ∧ Below w.heap.size w w' := by
  have HG := Lib.hid (arePaces_any w a len cap ps hl hc)
  have HC := Lib.hid hc
  clear hc
  rcases hb : goodP ps with _ | _
  · have H0 : Hid (outPeriodOf_0 ps = 0 ∧ outPeriodOf_1 ps = false) := Lib.hid (by unfold outPeriodOf_0 outPeriodOf_1; rw [hb]; exact ⟨rfl, rfl⟩)
    rw [hb] at HG
    clear hb
    go_enter Try.func27, Try.ntmps27
    go_wp2_with (go_at_call 16; refine HG.out.mono ?_; rintro e w2 ⟨rfl, b2⟩; have B2 := Lib.hid b2; clear b2)
    go_ret2
    exact ⟨by rw [H0.out.1, H0.out.2]; exact rfl, B2.out⟩
  · obtain ⟨qs, rfl, hgq⟩ := good_nat hb
    have H0 : Hid (outPeriodOf_0 (asP qs) = (perN qs : Nat) ∧ outPeriodOf_1 (asP qs) = true) := Lib.hid (by unfold outPeriodOf_0 outPeriodOf_1; rw [hb, toQ_asP]; exact ⟨rfl, rfl⟩)
    have HA := Lib.hid (fun w2 (h : Below w.heap.size w w2) => periodOf_any w2 a len cap qs hgq ((CameQ.of HC.out).below h))
    rw [hb] at HG
    clear hb hgq
    go_enter Try.func27, Try.ntmps27
    go_wp2_with fail
    go_at_call 16
    refine HG.out.mono ?_
    rintro e w2 ⟨rfl, b2⟩
    have B2 := Lib.hid b2
    have HA2 := Lib.hid (HA.out w2 b2)
    clear b2
    go_wp2_with fail
    go_at_call 55
    refine HA2.out.mono ?_
    rintro e w3 ⟨rfl, b3⟩
    have B3 : Hid (Below w.heap.size w w3) := Lib.hid (B2.out.trans (b3.mono B2.out.size))
    clear b3
    go_wp2
    go_ret2
    exact ⟨by rw [H0.out.1, H0.out.2]; exact rfl, B3.out⟩

end Go.Proofs.Ythnbimfdodfhoaa
