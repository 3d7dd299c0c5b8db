/- The walk of the law FnExactAddPace, out of the contracts of its two functions. -/
import Derived.Test.YthnbimfdodfhoaaKinds
import Derived.Test.YthnbimfdodfhoaaRPace
import Derived.Test.YthnbimfdodfhoaaJf
namespace Go.Proofs.Ythnbimfdodfhoaa
open Go.ChangeShapes Go.WideShapes Go.ChangeAt Go.RowKit

set_option maxHeartbeats 4000000 in
theorem lawAddPace (w : World) (a0 : Option Addr) (len0 cap0 : Nat) (z0 : List RPace) (x y : Int) (r0 : List RPace) (r1 : Bool) (ho0 : r0.length ≤ 1048576) (hc0 : CamePace w a0 len0 z0) (hk0 : len0 ≤ 9223372036854775807)
    (hS : len0 ≤ 1048576 → ∀ (w : World) (a0 : Option Addr) (cap0 : Nat), CamePace w a0 len0 z0 → (len0 ≤ cap0 ∧ cap0 ≤ 9223372036854775807) → Calls Try.prog 36 #[.slice a0 len0 cap0, .agg #[.int .i64 x, .int .i64 y]] w fun e w' => ∃ v0, e = .returned (.tuple #[v0, .bool r1]) ∧ OwnPace w' w.heap.size v0 r0 ∧ Below w.heap.size w w')
    (hI : len0 ≤ 1048576 → ∀ (w : World) (a0 : Option Addr) (cap0 : Nat), CamePace w a0 len0 z0 → (len0 ≤ cap0 ∧ cap0 ≤ 9223372036854775807) → Calls Try.prog 38 #[.slice a0 len0 cap0, .agg #[.int .i64 x, .int .i64 y]] w fun e w' => ∃ v0, e = .returned (.tuple #[v0, .bool r1]) ∧ OwnPace w' w.heap.size v0 r0 ∧ Below w.heap.size w w') :
    Calls Try.prog 9 #[.slice a0 len0 cap0, .agg #[.int .i64 x, .int .i64 y]] w fun e w' => e = .returned (.bool true) ∧ Below w.heap.size w w' := by
  have HS := Lib.hid hS
  have HI := Lib.hid hI
  have HZ0 : Hid (z0.length = len0) := Lib.hid hc0.1
  obtain ⟨w0, hw0⟩ : ∃ w0, w0 = w.alloc (.cells #[.int .i64 x, .int .i64 y] 46) := ⟨_, rfl⟩
  have HW0 : Hid (Below w.heap.size w w0) := Lib.hid (by rw [hw0]; exact (Below.refl _ _).alloc (Nat.le_refl _) _)
  obtain ⟨pb, hpb⟩ : ∃ pb, pb = w.heap.size := ⟨_, rfl⟩
  have HPC : Hid (∀ w2, Below w0.heap.size w0 w2 → w2.cell? ⟨pb, 0, none⟩ = some (.int .i64 x) ∧ w2.cell? ⟨pb, 1, none⟩ = some (.int .i64 y)) := Lib.hid (fun w2 h => by
    have c0 : w0.cell? ⟨pb, 0, none⟩ = some (.int .i64 x) := by rw [hw0, hpb, World.cell?_alloc_new]; rfl
    have c1 : w0.cell? ⟨pb, 1, none⟩ = some (.int .i64 y) := by rw [hw0, hpb, World.cell?_alloc_new]; rfl
    exact ⟨(h.cell (World.block_lt_of_cell? _ _ c0)).trans c0, (h.cell (World.block_lt_of_cell? _ _ c1)).trans c1⟩)
  have HT0 := Lib.hid (fun w2 (hl0 : len0 ≤ 1048576) (h : Below w0.heap.size w0 w2) => toPaceS_any w2 a0 len0 cap0 z0 hl0 (hc0.below (HW0.out.trans (h.mono HW0.out.size))))
  have HTP := Lib.hid (fun w2 => toPace_any x y w2)
  have HX0 := Lib.hid (szPaceS_any w0 a0 len0 cap0 hk0)
  obtain ⟨n0, hn0⟩ : ∃ n, n = r0.length := ⟨_, rfl⟩
  have HN0 := Lib.hid hn0
  have hm0 : n0 ≤ 1048576 := by omega
  clear hn0
  clear hS hI hc0
  have B0 : Hid (Below w0.heap.size w0 w0) := Lib.hid (Below.refl _ _)
  go_enter Try.func9, Try.ntmps9
  go_wp2_with fail
  rw [← hw0, ← hpb]
  clear hw0 hpb
  go_at_call 13
  refine HX0.out.mono ?_
  rintro e w1 ⟨r, rfl, hr0, hr1, hr2, b1⟩
  have y1 := b1.size
  have B1 : Hid (Below w0.heap.size w0 w1) := B0.out.trans (b1.mono (by omega))
  clear B0 b1 HX0
  by_cases hneg : r < 0
  · clear hr2
    go_wp2
    go_ret
    exact ⟨rfl, HW0.out.trans (B1.out.mono HW0.out.size)⟩
  have hl0 : len0 ≤ 1048576 := hr2 (by omega)
  have hzl0 : z0.length ≤ 1048576 := by have := HZ0.out; omega
  skip
  skip
  have HT0 := Lib.hid (fun w2 h => HT0.out w2 hl0 h)
  have HS := Lib.hid (HS.out hl0)
  have HI := Lib.hid (HI.out hl0)
  clear hr2
  have AD : Hid (Below w1.heap.size w1 w1.drew) := Lib.hid ⟨rfl, rfl, rfl, Nat.le_refl _, fun _ _ => rfl⟩
  have AW : Hid (∀ w5, Below w1.heap.size w1 w5 → Below w0.heap.size w0 w5) := Lib.hid (fun w5 h => B1.out.trans (h.mono B1.out.size))
  have ATS : Hid (∀ w5, Below w1.heap.size w1 w5 → Calls Try.prog 15 #[.slice a0 len0 cap0] w5 fun e w' => ∃ v, e = .returned v ∧ Hid (OwnPace w' w1.heap.size v z0) ∧ Hid (Below w1.heap.size w1 w')) := Lib.hid (fun w5 h =>
    (HT0.out w5 (AW.out w5 h)).mono fun e w' ⟨v, he, ho, hb⟩ => ⟨v, he, Lib.hid (ho.mono h.size), Lib.hid (h.trans (hb.mono h.size))⟩)
  have ATP : Hid (∀ w5, Below w1.heap.size w1 w5 → Calls Try.prog 37 #[.agg #[.int .i64 x, .int .i64 y]] w5 fun e w' => e = .returned (.agg #[.int .i64 x, .int .i64 y]) ∧ Hid (Below w1.heap.size w1 w') ∧ Hid (∀ v, OwnPace w5 w1.heap.size v z0 → OwnPace w' w1.heap.size v z0)) := Lib.hid (fun w5 h =>
    (HTP.out w5).mono fun e w' ⟨he, hb⟩ => ⟨he, Lib.hid (h.trans (hb.mono h.size)), Lib.hid (fun v hv => hv.below hb (Nat.le_refl _))⟩)
  have AAP : Hid (∀ w5 v, Below w1.heap.size w1 w5 → OwnPace w5 w1.heap.size v z0 → Calls Try.prog 36 #[v, .agg #[.int .i64 x, .int .i64 y]] w5 fun e w' => ∃ v0, e = .returned (.tuple #[v0, .bool r1]) ∧ Hid (OwnPace w' w1.heap.size v0 r0) ∧ Hid (Below w1.heap.size w1 w')) := Lib.hid (fun w5 v h ho => by
    obtain ⟨ca, cc, ce, ch, ck⟩ := ho.cameC
    rw [HZ0.out] at ce ch ck
    subst ce
    exact (HS.out w5 ca cc ch ck).mono fun e w' ⟨v0, he, hq, hb⟩ => ⟨v0, he, Lib.hid (hq.mono h.size), Lib.hid (h.trans (hb.mono h.size))⟩)
  have AKC : Hid (∀ w5, Below w1.heap.size w1 w5 → w5.cell? ⟨pb, 0, none⟩ = some (.int .i64 x) ∧ w5.cell? ⟨pb, 1, none⟩ = some (.int .i64 y)) := Lib.hid (fun w5 h => HPC.out w5 (AW.out w5 h))
  obtain ⟨Ac0, Ac1⟩ := HPC.out w1 B1.out
  go_wp2_with fail
  go_region_held_law (fun w' => w'.cell? ⟨pb, 0, none⟩ = some (.int .i64 x) ∧ w'.cell? ⟨pb, 1, none⟩ = some (.int .i64 y)) (first | go_keep | exact AKC.out _ bz.out | exact AKC.out _ bb.out | exact AKC.out _ bq.out | exact AKC.out _ ba.out | exact AKC.out _ bp.out)
    (first
      | (go_at_call 15; refine (ATS.out _ AD.out).mono ?_; rintro e wa ⟨va, rfl, oa, ba⟩)
      | (go_at_call 15; refine (ATS.out _ bp.out).mono ?_; rintro e wb ⟨va, rfl, oa, bb⟩)
      | (go_at_call 37; refine (ATP.out _ AD.out).mono ?_; rintro e wa ⟨rfl, bp, kp⟩)
      | (go_at_call 37; refine (ATP.out _ ba.out).mono ?_; rintro e wb ⟨rfl, bq, kq⟩)
      | (go_at_call 36; refine (AAP.out _ _ bq.out (kq.out _ oa.out)).mono ?_; rintro e wz ⟨v0, rfl, oz, bz⟩)
      | (go_at_call 36; refine (AAP.out _ _ bb.out oa.out).mono ?_; rintro e wz ⟨v0, rfl, oz, bz⟩))
  all_goals
    clear AD AW ATS ATP AAP AKC Ac0 Ac1
    try simp only [List.getElem_toArray, List.getElem_cons_zero, List.getElem_cons_succ, List.setIfInBounds_toArray, List.set_cons_zero, List.set_cons_succ]
    obtain ⟨w3, hw3⟩ : ∃ w3, w3 = wz := ⟨_, rfl⟩
    rw [← hw3] at oz bz ⊢
    clear hw3
    have y3 := bz.out.size
    have V0_3 := Lib.hid (OwnIPace.of oz.out)
    have B3 : Hid (Below w0.heap.size w0 w3) := Lib.hid (B1.out.trans (bz.out.mono B1.out.size))
    clear oz bz B1
    go_wp2_with fail
    go_at_call 15
    refine (HT0.out w3 B3.out).mono ?_
    rintro e w4 ⟨x0, rfl, o4, b4⟩
    have y4 := b4.size
    have V0_4 := Lib.hid (V0_3.out.below b4 (by omega))
    have B4 : Hid (Below w0.heap.size w0 w4) := B3.out.trans (b4.mono (by omega))
    clear V0_3 B3
    have X0_4 := Lib.hid (OwnIPace.of o4)
    clear o4 b4
    obtain ⟨xa0, xc0, xe0, xh0, xk0⟩ := X0_4.out.1.cameC
    rw [HZ0.out] at xe0 xh0 xk0
    subst xe0
    obtain ⟨pc0, pc1⟩ := HPC.out w4 B4.out
    go_wp2_with fail
    go_at_call 37
    refine (HTP.out w4).mono ?_
    rintro e w4' ⟨rfl, b4'⟩
    have C4 := Lib.hid (HI.out w4' xa0 xc0 (xh0.below b4') xk0)
    have z4 := b4'.size
    have V0_4 := Lib.hid (V0_4.out.below b4' (by omega))
    have X0_4 := Lib.hid (X0_4.out.below b4' (by omega))
    have B4 : Hid (Below w0.heap.size w0 w4') := B4.out.trans (b4'.mono (by omega))
    clear xh0 xk0 pc0 pc1 b4'
    go_wp2_with fail
    go_at_call 38
    refine (C4.out).mono ?_
    rintro e w5 ⟨g0, rfl, qg0, b5⟩
    have y5 := b5.size
    have V0_5 := Lib.hid (V0_4.out.below b5 (by omega))
    have X0_5 := Lib.hid (X0_4.out.below b5 (by omega))
    have B5 : Hid (Below w0.heap.size w0 w5) := B4.out.trans (b5.mono (by omega))
    clear V0_4 X0_4 B4
    have G0_5 := Lib.hid (OwnIPace.of qg0)
    clear qg0 b5
    go_wp2_with fail
    go_at_call 17
    refine (eqPaceS_two w5 _ _ _ _ _ _ r0 (by omega) G0_5.out V0_5.out).mono ?_
    rintro e w6 ⟨rfl, b6⟩
    have y6 := b6.size
    have V0_6 := Lib.hid (V0_5.out.below b6 (by omega))
    have X0_6 := Lib.hid (X0_5.out.below b6 (by omega))
    have G0_6 := Lib.hid (G0_5.out.below b6 (by omega))
    have B6 : Hid (Below w0.heap.size w0 w6) := B5.out.trans (b6.mono (by omega))
    clear V0_5 X0_5 G0_5 B5
    clear b6
    go_wp2_with fail
    go_at_call 15
    refine (HT0.out w6 B6.out).mono ?_
    rintro e w7 ⟨t0, rfl, o7, b7⟩
    have y7 := b7.size
    have V0_7 := Lib.hid (V0_6.out.below b7 (by omega))
    have X0_7 := Lib.hid (X0_6.out.below b7 (by omega))
    have G0_7 := Lib.hid (G0_6.out.below b7 (by omega))
    have B7 : Hid (Below w0.heap.size w0 w7) := B6.out.trans (b7.mono (by omega))
    clear V0_6 X0_6 G0_6 B6
    have T0_7 := Lib.hid (OwnIPace.of o7)
    clear o7 b7
    go_wp2_with fail
    go_at_call 17
    refine (eqPaceS_two w7 _ _ _ _ _ _ z0 (by omega) X0_7.out T0_7.out).mono ?_
    rintro e w8 ⟨rfl, b8⟩
    have y8 := b8.size
    have V0_8 := Lib.hid (V0_7.out.below b8 (by omega))
    have X0_8 := Lib.hid (X0_7.out.below b8 (by omega))
    have G0_8 := Lib.hid (G0_7.out.below b8 (by omega))
    have T0_8 := Lib.hid (T0_7.out.below b8 (by omega))
    have B8 : Hid (Below w0.heap.size w0 w8) := B7.out.trans (b8.mono (by omega))
    clear V0_7 X0_7 G0_7 T0_7 B7
    clear b8
    clear T0_8
    go_wp2_with fail
    go_at_call 21
    refine (markPaceS_in w8 _ _ _ z0 (by omega) X0_8.out).mono ?_
    rintro e w9 ⟨rfl, o9, b9⟩
    have y9 := b9.size
    have V0_9 := Lib.hid (V0_8.out.betw b9 (by omega) (by omega))
    have G0_9 := Lib.hid (G0_8.out.betw b9 (by omega) (by omega))
    have B9 : Hid (Below w0.heap.size w0 w9) := betw_below B8.out b9 (by omega)
    clear V0_8 X0_8 G0_8 B8
    have X0_9 := Lib.hid o9
    clear o9 b9
    rw [HZ0.out]
    go_wp2_with fail
    go_at_call 17
    refine (eqPaceS_two w9 _ _ _ _ _ _ r0 (by omega) G0_9.out V0_9.out).mono ?_
    rintro e w10 ⟨rfl, b10⟩
    have y10 := b10.size
    have V0_10 := Lib.hid (V0_9.out.below b10 (by omega))
    have X0_10 := Lib.hid (X0_9.out.below b10 (by omega))
    have G0_10 := Lib.hid (G0_9.out.below b10 (by omega))
    have B10 : Hid (Below w0.heap.size w0 w10) := B9.out.trans (b10.mono (by omega))
    clear V0_9 X0_9 G0_9 B9
    clear b10
    clear X0_10
    go_wp2_with fail
    go_at_call 21
    refine (markPaceS_in w10 _ _ _ r0 (by omega) G0_10.out).mono ?_
    rintro e w11 ⟨rfl, o11, b11⟩
    have y11 := b11.size
    have V0_11 := Lib.hid (V0_10.out.betw b11 (by omega) (by omega))
    have B11 : Hid (Below w0.heap.size w0 w11) := betw_below B10.out b11 (by omega)
    clear V0_10 G0_10 B10
    have G0_11 := Lib.hid o11
    clear o11 b11
    rw [← HN0.out] at G0_11 ⊢
    go_wp2_with fail
    go_at_call 35
    refine (heldPaceS_in w11 _ _ _ n0 (by omega) G0_11.out).mono ?_
    rintro e ww ⟨rfl, rfl⟩
    have CD : Hid (Below w11.heap.size w11 w11.drew) := Lib.hid ⟨rfl, rfl, rfl, Nat.le_refl _, fun _ _ => rfl⟩
    have CW : Hid (∀ w5, Below w11.heap.size w11 w5 → Below w0.heap.size w0 w5) := Lib.hid (fun w5 h => B11.out.trans (h.mono B11.out.size))
    have CTS : Hid (∀ w5, Below w11.heap.size w11 w5 → Calls Try.prog 15 #[.slice a0 len0 cap0] w5 fun e w' => ∃ v, e = .returned v ∧ Hid (OwnPace w' w11.heap.size v z0) ∧ Hid (Below w11.heap.size w11 w')) := Lib.hid (fun w5 h =>
      (HT0.out w5 (CW.out w5 h)).mono fun e w' ⟨v, he, ho, hb⟩ => ⟨v, he, Lib.hid (ho.mono h.size), Lib.hid (h.trans (hb.mono h.size))⟩)
    have CTP : Hid (∀ w5, Below w11.heap.size w11 w5 → Calls Try.prog 37 #[.agg #[.int .i64 x, .int .i64 y]] w5 fun e w' => e = .returned (.agg #[.int .i64 x, .int .i64 y]) ∧ Hid (Below w11.heap.size w11 w') ∧ Hid (∀ v, OwnPace w5 w11.heap.size v z0 → OwnPace w' w11.heap.size v z0)) := Lib.hid (fun w5 h =>
      (HTP.out w5).mono fun e w' ⟨he, hb⟩ => ⟨he, Lib.hid (h.trans (hb.mono h.size)), Lib.hid (fun v hv => hv.below hb (Nat.le_refl _))⟩)
    have CAP : Hid (∀ w5 v, Below w11.heap.size w11 w5 → OwnPace w5 w11.heap.size v z0 → Calls Try.prog 38 #[v, .agg #[.int .i64 x, .int .i64 y]] w5 fun e w' => ∃ v0, e = .returned (.tuple #[v0, .bool r1]) ∧ Hid (OwnPace w' w11.heap.size v0 r0) ∧ Hid (Below w11.heap.size w11 w')) := Lib.hid (fun w5 v h ho => by
      obtain ⟨ca, cc, ce, ch, ck⟩ := ho.cameC
      rw [HZ0.out] at ce ch ck
      subst ce
      exact (HI.out w5 ca cc ch ck).mono fun e w' ⟨v0, he, hq, hb⟩ => ⟨v0, he, Lib.hid (hq.mono h.size), Lib.hid (h.trans (hb.mono h.size))⟩)
    have CKC : Hid (∀ w5, Below w11.heap.size w11 w5 → w5.cell? ⟨pb, 0, none⟩ = some (.int .i64 x) ∧ w5.cell? ⟨pb, 1, none⟩ = some (.int .i64 y)) := Lib.hid (fun w5 h => HPC.out w5 (CW.out w5 h))
    obtain ⟨Cc0, Cc1⟩ := HPC.out w11 B11.out
    go_wp2_with fail
    go_region_held_law (fun w' => w'.cell? ⟨pb, 0, none⟩ = some (.int .i64 x) ∧ w'.cell? ⟨pb, 1, none⟩ = some (.int .i64 y)) (first | go_keep | exact CKC.out _ bz.out | exact CKC.out _ bb.out | exact CKC.out _ bq.out | exact CKC.out _ ba.out | exact CKC.out _ bp.out)
      (first
        | (go_at_call 15; refine (CTS.out _ CD.out).mono ?_; rintro e wa ⟨va, rfl, oa, ba⟩)
        | (go_at_call 15; refine (CTS.out _ bp.out).mono ?_; rintro e wb ⟨va, rfl, oa, bb⟩)
        | (go_at_call 37; refine (CTP.out _ CD.out).mono ?_; rintro e wa ⟨rfl, bp, kp⟩)
        | (go_at_call 37; refine (CTP.out _ ba.out).mono ?_; rintro e wb ⟨rfl, bq, kq⟩)
        | (go_at_call 38; refine (CAP.out _ _ bq.out (kq.out _ oa.out)).mono ?_; rintro e wz ⟨h0, rfl, oz, bz⟩)
        | (go_at_call 38; refine (CAP.out _ _ bb.out oa.out).mono ?_; rintro e wz ⟨h0, rfl, oz, bz⟩))
    all_goals
      clear CD CW CTS CTP CAP CKC Cc0 Cc1
      try simp only [List.getElem_toArray, List.getElem_cons_zero, List.getElem_cons_succ, List.setIfInBounds_toArray, List.set_cons_zero, List.set_cons_succ]
      obtain ⟨w13, hw13⟩ : ∃ w13, w13 = wz := ⟨_, rfl⟩
      rw [← hw13] at oz bz ⊢
      clear hw13
      have y13 := bz.out.size
      have V0_13 := Lib.hid (V0_11.out.below bz.out (by omega))
      have G0_13 := Lib.hid (G0_11.out.below bz.out (by omega))
      have H0_13 := Lib.hid (OwnIPace.of oz.out)
      have B13 : Hid (Below w0.heap.size w0 w13) := Lib.hid (B11.out.trans (bz.out.mono B11.out.size))
      clear oz bz B11 V0_11 G0_11
      go_wp2_with fail
      go_at_call 17
      refine (eqPaceS_two w13 _ _ _ _ _ _ r0 (by omega) H0_13.out V0_13.out).mono ?_
      rintro e w14 ⟨rfl, b14⟩
      have y14 := b14.size
      have V0_14 := Lib.hid (V0_13.out.below b14 (by omega))
      have G0_14 := Lib.hid (G0_13.out.below b14 (by omega))
      have H0_14 := Lib.hid (H0_13.out.below b14 (by omega))
      have B14 : Hid (Below w0.heap.size w0 w14) := B13.out.trans (b14.mono (by omega))
      clear V0_13 G0_13 H0_13 B13
      clear b14
      go_wp2_with fail
      go_at_call 35
      refine (heldPaceS_in w14 _ _ _ n0 (by omega) G0_14.out).mono ?_
      rintro e ww ⟨rfl, rfl⟩
      go_wp2
      go_ret
      exact ⟨rfl, HW0.out.trans (B14.out.mono HW0.out.size)⟩

set_option maxHeartbeats 1000000 in
theorem walkFnExactAddPace (a0 : Option Addr) (len0 cap0 : Nat) (z0 : List RPace) (x y : Int) (w : World) (hc0 : CamePace w a0 len0 z0) (hk0 : len0 ≤ 9223372036854775807) :
    Calls Try.prog 9 #[.slice a0 len0 cap0, .agg #[.int .i64 x, .int .i64 y]] w fun e w' => e = .returned (.bool true) ∧ Below w.heap.size w w' := by
  exact lawAddPace w a0 len0 cap0 z0 x y (outAddPace_0 z0 (x, y)) (outAddPace_1 z0 (x, y)) (lenAddPace_0 z0 (x, y)) hc0 hk0
    (fun hl0 => fun w a0 cap0 hc0 hk0 => specAddPace_any w a0 len0 cap0 z0 x y hl0 hc0)
    (fun hl0 => fun w a0 cap0 hc0 hk0 => implAddPace_any w a0 len0 cap0 z0 x y hl0 hc0)

end Go.Proofs.Ythnbimfdodfhoaa
