/- The walk of the composite law FnFormsStand. Written by a program of mine (tools/sp/w_fs.py). -/
import Derived.Test.YtjdbmkphakpmbaaQk
import Derived.Test.YtjdbmkphakpmbaaSm
import Derived.Test.YtjdbmkphakpmbaaQs
import Derived.Test.YtjdbmkphakpmbaaFp
import Derived.Test.YtjdbmkphakpmbaaFq
import Derived.Test.YtjdbmkphakpmbaaFr
import Derived.Test.YtjdbmkphakpmbaaFh
import Derived.Test.YtjdbmkphakpmbaaCu3
namespace Go.Proofs.Ytjdbmkphakpmbaa
open Go.ChangeShapes Go.WideShapes Go.ChangeAt Go.RowKit
open Fo Fs Qs Cu
set_option maxRecDepth 20000 in
set_option maxHeartbeats 40000000 in
theorem walkFnFormsStand (xa : Option Addr) (la ca : Nat) (xb : Option Addr) (lb cb' : Nat) (w0 : World) (hx : Bytes w0 xa la) (h1 : la ≤ 9223372036854775807) (hy : Bytes w0 xb lb) (h2 : lb ≤ 9223372036854775807) :
    Calls Try.prog 3 #[.slice xa la ca, .slice xb lb cb'] w0 fun e w' => e = .returned (.bool true) ∧ Below w0.heap.size w0 w' := by
  have B0 : Hid (Below w0.heap.size w0 w0) := Lib.hid (Below.refl _ _)
  have HYa := Lib.hid hx
  have HYb := Lib.hid hy
  clear hx hy
  obtain ⟨tb, htb⟩ : ∃ x, x = bigB la lb := ⟨_, rfl⟩
  refine Sp.enter (N := 864) (args := [.slice xa la ca, .slice xb lb cb']) Try.func3 rfl rfl (by kernel_rfl) ?_
  refine Sp.Cd.seq fun K1 hK1 => ?_
  refine Sp.Cd.region ?_
  refine Sp.L.pure (by kernel_rfl) (Sp.Runs.assign rfl) ?_
  refine Sp.L.nil ?_
  refine hK1 _ _ (Sp.Cd.sub (S' := [(0, _), (1, _)]) ⟨rfl, rfl, trivial⟩ ?_)
  clear hK1 K1
  refine Sp.Cd.seq fun K2 hK2 => ?_
  refine Sp.Cd.seq fun K3 hK3 => ?_
  refine Sp.Cd.region ?_
  refine Sp.L.pure (by kernel_rfl) (Sp.Runs.move rfl) ?_
  refine Sp.L.pure (by kernel_rfl) (Sp.Runs.move rfl) ?_
  have CC := big_p w0 xa xb la ca lb cb' h1 h2
  rw [← htb] at CC
  refine Sp.L.call (by kernel_rfl) (CC) rfl rfl (by kernel_rfl) ?_
  clear CC
  rintro e w' ⟨rfl, rfl⟩
  refine ⟨_, rfl, ?_⟩
  refine Sp.L.nil ?_
  refine hK3 _ _ (Sp.Cd.sub (S' := [(0, _), (1, _), (96, _)]) ⟨rfl, rfl, rfl, trivial⟩ ?_)
  clear hK3 K3
  rcases tb with _ | _
  · refine Sp.Cd.condF rfl ?_
    refine Sp.Cd.skip ?_
    refine hK2 _ _ (Sp.Cd.sub (S' := [(0, _), (1, _)]) ⟨rfl, rfl, trivial⟩ ?_)
    clear hK2 K2
    refine Sp.Cd.seq fun K4 hK4 => ?_
    refine Sp.Cd.region ?_
    refine Sp.L.pure (by kernel_rfl) (Sp.Runs.move rfl) ?_
    refine Sp.L.call (by kernel_rfl) (drawRectanglesOf_p w0 xa la ca h1 HYa.out) rfl rfl (by kernel_rfl) ?_
    rintro e w1 ⟨n, wn, rfl, b9⟩
    replace B0 := Lib.hid (B0.out.trans (b9.mono B0.out.size))
    replace HYa := Lib.hid (HYa.out.below b9)
    replace HYb := Lib.hid (HYb.out.below b9)
    clear b9
    refine ⟨_, rfl, ?_⟩
    obtain ⟨ok, hok⟩ : ∃ z, z = soldB n := ⟨_, rfl⟩
    have FX0 : ok = true → FormFacts n (outRectanglesOf_0 n) (outHollowsOf_0 n) (outTwoSquares_0 n) (outSquareTriangles_0 n) (outSquareOf_0 n) (outSquareOf_1 n) (outTriangleOf_0 n) (outTriangleOf_1 n) := fun h => form_facts (hok.symm.trans h)
    have le1 := lenRectanglesOf_0 n
    have le2 := lenHollowsOf_0 n
    have le3 := lenTwoSquares_0 n
    have le4 := lenSquareTriangles_0 n
    obtain ⟨r1, hr1⟩ : ∃ z, z = outRectanglesOf_0 n := ⟨_, rfl⟩
    obtain ⟨r2, hr2⟩ : ∃ z, z = outHollowsOf_0 n := ⟨_, rfl⟩
    obtain ⟨r3, hr3⟩ : ∃ z, z = outTwoSquares_0 n := ⟨_, rfl⟩
    obtain ⟨r4, hr4⟩ : ∃ z, z = outSquareTriangles_0 n := ⟨_, rfl⟩
    obtain ⟨sd, hsd⟩ : ∃ z, z = outSquareOf_0 n := ⟨_, rfl⟩
    obtain ⟨ov, hov⟩ : ∃ z, z = outSquareOf_1 n := ⟨_, rfl⟩
    obtain ⟨tw, htw⟩ : ∃ z, z = outTriangleOf_0 n := ⟨_, rfl⟩
    obtain ⟨lf, hlf⟩ : ∃ z, z = outTriangleOf_1 n := ⟨_, rfl⟩
    rw [← hr1, ← hr2, ← hr3, ← hr4, ← hsd, ← hov, ← htw, ← hlf] at FX0
    rw [← hr1] at le1
    rw [← hr2] at le2
    rw [← hr3] at le3
    rw [← hr4] at le4
    refine Sp.L.pure (by kernel_rfl) (Sp.Runs.assign rfl) ?_
    refine Sp.L.nil ?_
    refine hK4 _ _ (Sp.Cd.sub (S' := [(1, _), (5, _)]) ⟨rfl, rfl, trivial⟩ ?_)
    clear hK4 K4
    refine Sp.Cd.seq fun K5 hK5 => ?_
    refine Sp.Cd.region ?_
    refine Sp.L.pure (by kernel_rfl) (Sp.Runs.move rfl) ?_
    have CC := implRectanglesOf_any w1 n wn
    rw [show outRectanglesOf_1 n = ok from hok.symm, ← hr1] at CC
    refine Sp.L.call (by kernel_rfl) (CC) rfl rfl (by kernel_rfl) ?_
    clear CC
    rintro e w2 ⟨vr1i, rfl, or1i, b⟩
    replace B0 := Lib.hid (B0.out.trans (b.mono B0.out.size))
    replace HYa := Lib.hid (HYa.out.below b)
    replace HYb := Lib.hid (HYb.out.below b)
    clear b
    obtain ⟨ar1i, cr1i, er1i, hr1i, pr1i, qr1i⟩ := or1i.cameC
    obtain ⟨lr1i, hlr1i⟩ : ∃ n, n = (r1).length := ⟨_, rfl⟩
    rw [← hlr1i] at er1i hr1i pr1i
    have Hr1i := Lib.hid hr1i
    have Lr1i := Lib.hid hlr1i
    have Pr1i := Lib.hid (And.intro pr1i qr1i)
    clear hr1i hlr1i pr1i qr1i or1i
    subst er1i
    refine ⟨_, rfl, ?_⟩
    refine Sp.L.pure (by kernel_rfl) (Sp.Runs.move rfl) ?_
    refine Sp.L.pure (by kernel_rfl) (Sp.Runs.extract rfl rfl) ?_
    refine Sp.L.pure (by kernel_rfl) (Sp.Runs.extract rfl rfl) ?_
    refine Sp.L.pure (by kernel_rfl) (Sp.Runs.assign rfl) ?_
    refine Sp.L.pure (by kernel_rfl) (Sp.Runs.assign rfl) ?_
    refine Sp.L.nil ?_
    refine hK5 _ _ (Sp.Cd.sub (S' := [(1, _), (5, _), (6, _), (7, _)]) ⟨rfl, rfl, rfl, rfl, trivial⟩ ?_)
    clear hK5 K5
    refine Sp.Cd.seq fun K6 hK6 => ?_
    refine Sp.Cd.region ?_
    refine Sp.L.pure (by kernel_rfl) (Sp.Runs.move rfl) ?_
    have CC := specRectanglesOf_any w2 n wn
    rw [show outRectanglesOf_1 n = ok from hok.symm, ← hr1] at CC
    refine Sp.L.call (by kernel_rfl) (CC) rfl rfl (by kernel_rfl) ?_
    clear CC
    rintro e w3 ⟨vr1s, rfl, or1s, b⟩
    replace B0 := Lib.hid (B0.out.trans (b.mono B0.out.size))
    replace HYa := Lib.hid (HYa.out.below b)
    replace HYb := Lib.hid (HYb.out.below b)
    replace Hr1i := Lib.hid (Hr1i.out.below b)
    clear b
    obtain ⟨ar1s, cr1s, er1s, hr1s, pr1s, qr1s⟩ := or1s.cameC
    obtain ⟨lr1s, hlr1s⟩ : ∃ n, n = (r1).length := ⟨_, rfl⟩
    rw [← hlr1s] at er1s hr1s pr1s
    have Hr1s := Lib.hid hr1s
    have Lr1s := Lib.hid hlr1s
    have Pr1s := Lib.hid (And.intro pr1s qr1s)
    clear hr1s hlr1s pr1s qr1s or1s
    subst er1s
    refine ⟨_, rfl, ?_⟩
    refine Sp.L.pure (by kernel_rfl) (Sp.Runs.move rfl) ?_
    refine Sp.L.pure (by kernel_rfl) (Sp.Runs.extract rfl rfl) ?_
    refine Sp.L.pure (by kernel_rfl) (Sp.Runs.extract rfl rfl) ?_
    refine Sp.L.pure (by kernel_rfl) (Sp.Runs.assign rfl) ?_
    refine Sp.L.pure (by kernel_rfl) (Sp.Runs.assign rfl) ?_
    refine Sp.L.nil ?_
    refine hK6 _ _ (Sp.Cd.sub (S' := [(1, _), (5, _), (6, _), (7, _), (8, _), (9, _)]) ⟨rfl, rfl, rfl, rfl, rfl, rfl, trivial⟩ ?_)
    clear hK6 K6
    refine Sp.Cd.seq fun K7 hK7 => ?_
    refine Sp.Cd.region ?_
    refine Sp.L.pure (by kernel_rfl) (Sp.Runs.move rfl) ?_
    have CC := implHollowsOf_any w3 n wn
    rw [show outHollowsOf_1 n = ok from hok.symm, ← hr2] at CC
    refine Sp.L.call (by kernel_rfl) (CC) rfl rfl (by kernel_rfl) ?_
    clear CC
    rintro e w4 ⟨vr2i, rfl, or2i, b⟩
    replace B0 := Lib.hid (B0.out.trans (b.mono B0.out.size))
    replace HYa := Lib.hid (HYa.out.below b)
    replace HYb := Lib.hid (HYb.out.below b)
    replace Hr1i := Lib.hid (Hr1i.out.below b)
    replace Hr1s := Lib.hid (Hr1s.out.below b)
    clear b
    obtain ⟨ar2i, cr2i, er2i, hr2i, pr2i, qr2i⟩ := or2i.cameC
    obtain ⟨lr2i, hlr2i⟩ : ∃ n, n = (r2).length := ⟨_, rfl⟩
    rw [← hlr2i] at er2i hr2i pr2i
    have Hr2i := Lib.hid hr2i
    have Lr2i := Lib.hid hlr2i
    have Pr2i := Lib.hid (And.intro pr2i qr2i)
    clear hr2i hlr2i pr2i qr2i or2i
    subst er2i
    refine ⟨_, rfl, ?_⟩
    refine Sp.L.pure (by kernel_rfl) (Sp.Runs.move rfl) ?_
    refine Sp.L.pure (by kernel_rfl) (Sp.Runs.extract rfl rfl) ?_
    refine Sp.L.pure (by kernel_rfl) (Sp.Runs.extract rfl rfl) ?_
    refine Sp.L.pure (by kernel_rfl) (Sp.Runs.assign rfl) ?_
    refine Sp.L.pure (by kernel_rfl) (Sp.Runs.assign rfl) ?_
    refine Sp.L.nil ?_
    refine hK7 _ _ (Sp.Cd.sub (S' := [(1, _), (5, _), (6, _), (7, _), (8, _), (9, _), (10, _), (11, _)]) ⟨rfl, rfl, rfl, rfl, rfl, rfl, rfl, rfl, trivial⟩ ?_)
    clear hK7 K7
    refine Sp.Cd.seq fun K8 hK8 => ?_
    refine Sp.Cd.region ?_
    refine Sp.L.pure (by kernel_rfl) (Sp.Runs.move rfl) ?_
    have CC := specHollowsOf_any w4 n wn
    rw [show outHollowsOf_1 n = ok from hok.symm, ← hr2] at CC
    refine Sp.L.call (by kernel_rfl) (CC) rfl rfl (by kernel_rfl) ?_
    clear CC
    rintro e w5 ⟨vr2s, rfl, or2s, b⟩
    replace B0 := Lib.hid (B0.out.trans (b.mono B0.out.size))
    replace HYa := Lib.hid (HYa.out.below b)
    replace HYb := Lib.hid (HYb.out.below b)
    replace Hr1i := Lib.hid (Hr1i.out.below b)
    replace Hr1s := Lib.hid (Hr1s.out.below b)
    replace Hr2i := Lib.hid (Hr2i.out.below b)
    clear b
    obtain ⟨ar2s, cr2s, er2s, hr2s, pr2s, qr2s⟩ := or2s.cameC
    obtain ⟨lr2s, hlr2s⟩ : ∃ n, n = (r2).length := ⟨_, rfl⟩
    rw [← hlr2s] at er2s hr2s pr2s
    have Hr2s := Lib.hid hr2s
    have Lr2s := Lib.hid hlr2s
    have Pr2s := Lib.hid (And.intro pr2s qr2s)
    clear hr2s hlr2s pr2s qr2s or2s
    subst er2s
    refine ⟨_, rfl, ?_⟩
    refine Sp.L.pure (by kernel_rfl) (Sp.Runs.move rfl) ?_
    refine Sp.L.pure (by kernel_rfl) (Sp.Runs.extract rfl rfl) ?_
    refine Sp.L.pure (by kernel_rfl) (Sp.Runs.extract rfl rfl) ?_
    refine Sp.L.pure (by kernel_rfl) (Sp.Runs.assign rfl) ?_
    refine Sp.L.pure (by kernel_rfl) (Sp.Runs.assign rfl) ?_
    refine Sp.L.nil ?_
    refine hK8 _ _ (Sp.Cd.sub (S' := [(1, _), (5, _), (6, _), (7, _), (8, _), (9, _), (10, _), (11, _), (12, _), (13, _)]) ⟨rfl, rfl, rfl, rfl, rfl, rfl, rfl, rfl, rfl, rfl, trivial⟩ ?_)
    clear hK8 K8
    refine Sp.Cd.seq fun K9 hK9 => ?_
    refine Sp.Cd.region ?_
    refine Sp.L.pure (by kernel_rfl) (Sp.Runs.move rfl) ?_
    have CC := implSquareOf_any w5 n wn
    rw [show outSquareOf_2 n = ok from hok.symm, ← hsd, ← hov] at CC
    refine Sp.L.call (by kernel_rfl) (CC) rfl rfl (by kernel_rfl) ?_
    clear CC
    rintro e w6 ⟨rfl, b⟩
    replace B0 := Lib.hid (B0.out.trans (b.mono B0.out.size))
    replace HYa := Lib.hid (HYa.out.below b)
    replace HYb := Lib.hid (HYb.out.below b)
    replace Hr1i := Lib.hid (Hr1i.out.below b)
    replace Hr1s := Lib.hid (Hr1s.out.below b)
    replace Hr2i := Lib.hid (Hr2i.out.below b)
    replace Hr2s := Lib.hid (Hr2s.out.below b)
    clear b
    refine ⟨_, rfl, ?_⟩
    refine Sp.L.pure (by kernel_rfl) (Sp.Runs.move rfl) ?_
    refine Sp.L.pure (by kernel_rfl) (Sp.Runs.extract rfl rfl) ?_
    refine Sp.L.pure (by kernel_rfl) (Sp.Runs.extract rfl rfl) ?_
    refine Sp.L.pure (by kernel_rfl) (Sp.Runs.extract rfl rfl) ?_
    refine Sp.L.pure (by kernel_rfl) (Sp.Runs.assign rfl) ?_
    refine Sp.L.pure (by kernel_rfl) (Sp.Runs.assign rfl) ?_
    refine Sp.L.pure (by kernel_rfl) (Sp.Runs.assign rfl) ?_
    refine Sp.L.nil ?_
    refine hK9 _ _ (Sp.Cd.sub (S' := [(1, _), (5, _), (6, _), (7, _), (8, _), (9, _), (10, _), (11, _), (12, _), (13, _), (14, _), (15, _), (16, _)]) ⟨rfl, rfl, rfl, rfl, rfl, rfl, rfl, rfl, rfl, rfl, rfl, rfl, rfl, trivial⟩ ?_)
    clear hK9 K9
    refine Sp.Cd.seq fun K10 hK10 => ?_
    refine Sp.Cd.region ?_
    refine Sp.L.pure (by kernel_rfl) (Sp.Runs.move rfl) ?_
    have CC := specSquareOf_any w6 n wn
    rw [show outSquareOf_2 n = ok from hok.symm, ← hsd, ← hov] at CC
    refine Sp.L.call (by kernel_rfl) (CC) rfl rfl (by kernel_rfl) ?_
    clear CC
    rintro e w7 ⟨rfl, b⟩
    replace B0 := Lib.hid (B0.out.trans (b.mono B0.out.size))
    replace HYa := Lib.hid (HYa.out.below b)
    replace HYb := Lib.hid (HYb.out.below b)
    replace Hr1i := Lib.hid (Hr1i.out.below b)
    replace Hr1s := Lib.hid (Hr1s.out.below b)
    replace Hr2i := Lib.hid (Hr2i.out.below b)
    replace Hr2s := Lib.hid (Hr2s.out.below b)
    clear b
    refine ⟨_, rfl, ?_⟩
    refine Sp.L.pure (by kernel_rfl) (Sp.Runs.move rfl) ?_
    refine Sp.L.pure (by kernel_rfl) (Sp.Runs.extract rfl rfl) ?_
    refine Sp.L.pure (by kernel_rfl) (Sp.Runs.extract rfl rfl) ?_
    refine Sp.L.pure (by kernel_rfl) (Sp.Runs.extract rfl rfl) ?_
    refine Sp.L.pure (by kernel_rfl) (Sp.Runs.assign rfl) ?_
    refine Sp.L.pure (by kernel_rfl) (Sp.Runs.assign rfl) ?_
    refine Sp.L.pure (by kernel_rfl) (Sp.Runs.assign rfl) ?_
    refine Sp.L.nil ?_
    refine hK10 _ _ (Sp.Cd.sub (S' := [(1, _), (5, _), (6, _), (7, _), (8, _), (9, _), (10, _), (11, _), (12, _), (13, _), (14, _), (15, _), (16, _), (17, _), (18, _), (19, _)]) ⟨rfl, rfl, rfl, rfl, rfl, rfl, rfl, rfl, rfl, rfl, rfl, rfl, rfl, rfl, rfl, rfl, trivial⟩ ?_)
    clear hK10 K10
    refine Sp.Cd.seq fun K11 hK11 => ?_
    refine Sp.Cd.region ?_
    refine Sp.L.pure (by kernel_rfl) (Sp.Runs.move rfl) ?_
    have CC := implTriangleOf_any w7 n wn
    rw [show outTriangleOf_2 n = ok from hok.symm, ← htw, ← hlf] at CC
    refine Sp.L.call (by kernel_rfl) (CC) rfl rfl (by kernel_rfl) ?_
    clear CC
    rintro e w8 ⟨rfl, b⟩
    replace B0 := Lib.hid (B0.out.trans (b.mono B0.out.size))
    replace HYa := Lib.hid (HYa.out.below b)
    replace HYb := Lib.hid (HYb.out.below b)
    replace Hr1i := Lib.hid (Hr1i.out.below b)
    replace Hr1s := Lib.hid (Hr1s.out.below b)
    replace Hr2i := Lib.hid (Hr2i.out.below b)
    replace Hr2s := Lib.hid (Hr2s.out.below b)
    clear b
    refine ⟨_, rfl, ?_⟩
    refine Sp.L.pure (by kernel_rfl) (Sp.Runs.move rfl) ?_
    refine Sp.L.pure (by kernel_rfl) (Sp.Runs.extract rfl rfl) ?_
    refine Sp.L.pure (by kernel_rfl) (Sp.Runs.extract rfl rfl) ?_
    refine Sp.L.pure (by kernel_rfl) (Sp.Runs.extract rfl rfl) ?_
    refine Sp.L.pure (by kernel_rfl) (Sp.Runs.assign rfl) ?_
    refine Sp.L.pure (by kernel_rfl) (Sp.Runs.assign rfl) ?_
    refine Sp.L.pure (by kernel_rfl) (Sp.Runs.assign rfl) ?_
    refine Sp.L.nil ?_
    refine hK11 _ _ (Sp.Cd.sub (S' := [(1, _), (5, _), (6, _), (7, _), (8, _), (9, _), (10, _), (11, _), (12, _), (13, _), (14, _), (15, _), (16, _), (17, _), (18, _), (19, _), (20, _), (21, _), (22, _)]) ⟨rfl, rfl, rfl, rfl, rfl, rfl, rfl, rfl, rfl, rfl, rfl, rfl, rfl, rfl, rfl, rfl, rfl, rfl, rfl, trivial⟩ ?_)
    clear hK11 K11
    refine Sp.Cd.seq fun K12 hK12 => ?_
    refine Sp.Cd.region ?_
    refine Sp.L.pure (by kernel_rfl) (Sp.Runs.move rfl) ?_
    have CC := specTriangleOf_any w8 n wn
    rw [show outTriangleOf_2 n = ok from hok.symm, ← htw, ← hlf] at CC
    refine Sp.L.call (by kernel_rfl) (CC) rfl rfl (by kernel_rfl) ?_
    clear CC
    rintro e w9 ⟨rfl, b⟩
    replace B0 := Lib.hid (B0.out.trans (b.mono B0.out.size))
    replace HYa := Lib.hid (HYa.out.below b)
    replace HYb := Lib.hid (HYb.out.below b)
    replace Hr1i := Lib.hid (Hr1i.out.below b)
    replace Hr1s := Lib.hid (Hr1s.out.below b)
    replace Hr2i := Lib.hid (Hr2i.out.below b)
    replace Hr2s := Lib.hid (Hr2s.out.below b)
    clear b
    refine ⟨_, rfl, ?_⟩
    refine Sp.L.pure (by kernel_rfl) (Sp.Runs.move rfl) ?_
    refine Sp.L.pure (by kernel_rfl) (Sp.Runs.extract rfl rfl) ?_
    refine Sp.L.pure (by kernel_rfl) (Sp.Runs.extract rfl rfl) ?_
    refine Sp.L.pure (by kernel_rfl) (Sp.Runs.extract rfl rfl) ?_
    refine Sp.L.pure (by kernel_rfl) (Sp.Runs.assign rfl) ?_
    refine Sp.L.pure (by kernel_rfl) (Sp.Runs.assign rfl) ?_
    refine Sp.L.pure (by kernel_rfl) (Sp.Runs.assign rfl) ?_
    refine Sp.L.nil ?_
    refine hK12 _ _ (Sp.Cd.sub (S' := [(1, _), (5, _), (6, _), (7, _), (8, _), (9, _), (10, _), (11, _), (12, _), (13, _), (14, _), (15, _), (16, _), (17, _), (18, _), (19, _), (20, _), (21, _), (22, _), (23, _), (24, _), (25, _)]) ⟨rfl, rfl, rfl, rfl, rfl, rfl, rfl, rfl, rfl, rfl, rfl, rfl, rfl, rfl, rfl, rfl, rfl, rfl, rfl, rfl, rfl, rfl, trivial⟩ ?_)
    clear hK12 K12
    refine Sp.Cd.seq fun K13 hK13 => ?_
    refine Sp.Cd.region ?_
    refine Sp.L.pure (by kernel_rfl) (Sp.Runs.move rfl) ?_
    have CC := implTwoSquares_any w9 n wn
    rw [show outTwoSquares_1 n = ok from hok.symm, ← hr3] at CC
    refine Sp.L.call (by kernel_rfl) (CC) rfl rfl (by kernel_rfl) ?_
    clear CC
    rintro e w10 ⟨vr3i, rfl, or3i, b⟩
    replace B0 := Lib.hid (B0.out.trans (b.mono B0.out.size))
    replace HYa := Lib.hid (HYa.out.below b)
    replace HYb := Lib.hid (HYb.out.below b)
    replace Hr1i := Lib.hid (Hr1i.out.below b)
    replace Hr1s := Lib.hid (Hr1s.out.below b)
    replace Hr2i := Lib.hid (Hr2i.out.below b)
    replace Hr2s := Lib.hid (Hr2s.out.below b)
    clear b
    obtain ⟨ar3i, cr3i, er3i, hr3i, pr3i, qr3i⟩ := or3i.cameC
    obtain ⟨lr3i, hlr3i⟩ : ∃ n, n = (r3).length := ⟨_, rfl⟩
    rw [← hlr3i] at er3i hr3i pr3i
    have Hr3i := Lib.hid hr3i
    have Lr3i := Lib.hid hlr3i
    have Pr3i := Lib.hid (And.intro pr3i qr3i)
    clear hr3i hlr3i pr3i qr3i or3i
    subst er3i
    refine ⟨_, rfl, ?_⟩
    refine Sp.L.pure (by kernel_rfl) (Sp.Runs.move rfl) ?_
    refine Sp.L.pure (by kernel_rfl) (Sp.Runs.extract rfl rfl) ?_
    refine Sp.L.pure (by kernel_rfl) (Sp.Runs.extract rfl rfl) ?_
    refine Sp.L.pure (by kernel_rfl) (Sp.Runs.assign rfl) ?_
    refine Sp.L.pure (by kernel_rfl) (Sp.Runs.assign rfl) ?_
    refine Sp.L.nil ?_
    refine hK13 _ _ (Sp.Cd.sub (S' := [(1, _), (5, _), (6, _), (7, _), (8, _), (9, _), (10, _), (11, _), (12, _), (13, _), (14, _), (15, _), (16, _), (17, _), (18, _), (19, _), (20, _), (21, _), (22, _), (23, _), (24, _), (25, _), (26, _), (27, _)]) ⟨rfl, rfl, rfl, rfl, rfl, rfl, rfl, rfl, rfl, rfl, rfl, rfl, rfl, rfl, rfl, rfl, rfl, rfl, rfl, rfl, rfl, rfl, rfl, rfl, trivial⟩ ?_)
    clear hK13 K13
    refine Sp.Cd.seq fun K14 hK14 => ?_
    refine Sp.Cd.region ?_
    refine Sp.L.pure (by kernel_rfl) (Sp.Runs.move rfl) ?_
    have CC := specTwoSquares_any w10 n wn
    rw [show outTwoSquares_1 n = ok from hok.symm, ← hr3] at CC
    refine Sp.L.call (by kernel_rfl) (CC) rfl rfl (by kernel_rfl) ?_
    clear CC
    rintro e w11 ⟨vr3s, rfl, or3s, b⟩
    replace B0 := Lib.hid (B0.out.trans (b.mono B0.out.size))
    replace HYa := Lib.hid (HYa.out.below b)
    replace HYb := Lib.hid (HYb.out.below b)
    replace Hr1i := Lib.hid (Hr1i.out.below b)
    replace Hr1s := Lib.hid (Hr1s.out.below b)
    replace Hr2i := Lib.hid (Hr2i.out.below b)
    replace Hr2s := Lib.hid (Hr2s.out.below b)
    replace Hr3i := Lib.hid (Hr3i.out.below b)
    clear b
    obtain ⟨ar3s, cr3s, er3s, hr3s, pr3s, qr3s⟩ := or3s.cameC
    obtain ⟨lr3s, hlr3s⟩ : ∃ n, n = (r3).length := ⟨_, rfl⟩
    rw [← hlr3s] at er3s hr3s pr3s
    have Hr3s := Lib.hid hr3s
    have Lr3s := Lib.hid hlr3s
    have Pr3s := Lib.hid (And.intro pr3s qr3s)
    clear hr3s hlr3s pr3s qr3s or3s
    subst er3s
    refine ⟨_, rfl, ?_⟩
    refine Sp.L.pure (by kernel_rfl) (Sp.Runs.move rfl) ?_
    refine Sp.L.pure (by kernel_rfl) (Sp.Runs.extract rfl rfl) ?_
    refine Sp.L.pure (by kernel_rfl) (Sp.Runs.extract rfl rfl) ?_
    refine Sp.L.pure (by kernel_rfl) (Sp.Runs.assign rfl) ?_
    refine Sp.L.pure (by kernel_rfl) (Sp.Runs.assign rfl) ?_
    refine Sp.L.nil ?_
    refine hK14 _ _ (Sp.Cd.sub (S' := [(1, _), (5, _), (6, _), (7, _), (8, _), (9, _), (10, _), (11, _), (12, _), (13, _), (14, _), (15, _), (16, _), (17, _), (18, _), (19, _), (20, _), (21, _), (22, _), (23, _), (24, _), (25, _), (26, _), (27, _), (28, _), (29, _)]) ⟨rfl, rfl, rfl, rfl, rfl, rfl, rfl, rfl, rfl, rfl, rfl, rfl, rfl, rfl, rfl, rfl, rfl, rfl, rfl, rfl, rfl, rfl, rfl, rfl, rfl, rfl, trivial⟩ ?_)
    clear hK14 K14
    refine Sp.Cd.seq fun K15 hK15 => ?_
    refine Sp.Cd.region ?_
    refine Sp.L.pure (by kernel_rfl) (Sp.Runs.move rfl) ?_
    have CC := implSquareTriangles_any w11 n wn
    rw [show outSquareTriangles_1 n = ok from hok.symm, ← hr4] at CC
    refine Sp.L.call (by kernel_rfl) (CC) rfl rfl (by kernel_rfl) ?_
    clear CC
    rintro e w12 ⟨vr4i, rfl, or4i, b⟩
    replace B0 := Lib.hid (B0.out.trans (b.mono B0.out.size))
    replace HYa := Lib.hid (HYa.out.below b)
    replace HYb := Lib.hid (HYb.out.below b)
    replace Hr1i := Lib.hid (Hr1i.out.below b)
    replace Hr1s := Lib.hid (Hr1s.out.below b)
    replace Hr2i := Lib.hid (Hr2i.out.below b)
    replace Hr2s := Lib.hid (Hr2s.out.below b)
    replace Hr3i := Lib.hid (Hr3i.out.below b)
    replace Hr3s := Lib.hid (Hr3s.out.below b)
    clear b
    obtain ⟨ar4i, cr4i, er4i, hr4i, pr4i, qr4i⟩ := or4i.cameC
    obtain ⟨lr4i, hlr4i⟩ : ∃ n, n = (r4).length := ⟨_, rfl⟩
    rw [← hlr4i] at er4i hr4i pr4i
    have Hr4i := Lib.hid hr4i
    have Lr4i := Lib.hid hlr4i
    have Pr4i := Lib.hid (And.intro pr4i qr4i)
    clear hr4i hlr4i pr4i qr4i or4i
    subst er4i
    refine ⟨_, rfl, ?_⟩
    refine Sp.L.pure (by kernel_rfl) (Sp.Runs.move rfl) ?_
    refine Sp.L.pure (by kernel_rfl) (Sp.Runs.extract rfl rfl) ?_
    refine Sp.L.pure (by kernel_rfl) (Sp.Runs.extract rfl rfl) ?_
    refine Sp.L.pure (by kernel_rfl) (Sp.Runs.assign rfl) ?_
    refine Sp.L.pure (by kernel_rfl) (Sp.Runs.assign rfl) ?_
    refine Sp.L.nil ?_
    refine hK15 _ _ (Sp.Cd.sub (S' := [(1, _), (5, _), (6, _), (7, _), (8, _), (9, _), (10, _), (11, _), (12, _), (13, _), (14, _), (15, _), (16, _), (17, _), (18, _), (19, _), (20, _), (21, _), (22, _), (23, _), (24, _), (25, _), (26, _), (27, _), (28, _), (29, _), (30, _), (31, _)]) ⟨rfl, rfl, rfl, rfl, rfl, rfl, rfl, rfl, rfl, rfl, rfl, rfl, rfl, rfl, rfl, rfl, rfl, rfl, rfl, rfl, rfl, rfl, rfl, rfl, rfl, rfl, rfl, rfl, trivial⟩ ?_)
    clear hK15 K15
    refine Sp.Cd.seq fun K16 hK16 => ?_
    refine Sp.Cd.region ?_
    refine Sp.L.pure (by kernel_rfl) (Sp.Runs.move rfl) ?_
    have CC := specSquareTriangles_any w12 n wn
    rw [show outSquareTriangles_1 n = ok from hok.symm, ← hr4] at CC
    refine Sp.L.call (by kernel_rfl) (CC) rfl rfl (by kernel_rfl) ?_
    clear CC
    rintro e w13 ⟨vr4s, rfl, or4s, b⟩
    replace B0 := Lib.hid (B0.out.trans (b.mono B0.out.size))
    replace HYa := Lib.hid (HYa.out.below b)
    replace HYb := Lib.hid (HYb.out.below b)
    replace Hr1i := Lib.hid (Hr1i.out.below b)
    replace Hr1s := Lib.hid (Hr1s.out.below b)
    replace Hr2i := Lib.hid (Hr2i.out.below b)
    replace Hr2s := Lib.hid (Hr2s.out.below b)
    replace Hr3i := Lib.hid (Hr3i.out.below b)
    replace Hr3s := Lib.hid (Hr3s.out.below b)
    replace Hr4i := Lib.hid (Hr4i.out.below b)
    clear b
    obtain ⟨ar4s, cr4s, er4s, hr4s, pr4s, qr4s⟩ := or4s.cameC
    obtain ⟨lr4s, hlr4s⟩ : ∃ n, n = (r4).length := ⟨_, rfl⟩
    rw [← hlr4s] at er4s hr4s pr4s
    have Hr4s := Lib.hid hr4s
    have Lr4s := Lib.hid hlr4s
    have Pr4s := Lib.hid (And.intro pr4s qr4s)
    clear hr4s hlr4s pr4s qr4s or4s
    subst er4s
    refine ⟨_, rfl, ?_⟩
    refine Sp.L.pure (by kernel_rfl) (Sp.Runs.move rfl) ?_
    refine Sp.L.pure (by kernel_rfl) (Sp.Runs.extract rfl rfl) ?_
    refine Sp.L.pure (by kernel_rfl) (Sp.Runs.extract rfl rfl) ?_
    refine Sp.L.pure (by kernel_rfl) (Sp.Runs.assign rfl) ?_
    refine Sp.L.pure (by kernel_rfl) (Sp.Runs.assign rfl) ?_
    refine Sp.L.nil ?_
    refine hK16 _ _ (Sp.Cd.sub (S' := [(1, _), (5, _), (6, _), (7, _), (8, _), (9, _), (10, _), (11, _), (12, _), (13, _), (14, _), (15, _), (16, _), (17, _), (18, _), (19, _), (20, _), (21, _), (22, _), (23, _), (24, _), (25, _), (26, _), (27, _), (28, _), (29, _), (30, _), (31, _), (32, _), (33, _)]) ⟨rfl, rfl, rfl, rfl, rfl, rfl, rfl, rfl, rfl, rfl, rfl, rfl, rfl, rfl, rfl, rfl, rfl, rfl, rfl, rfl, rfl, rfl, rfl, rfl, rfl, rfl, rfl, rfl, rfl, rfl, trivial⟩ ?_)
    clear hK16 K16
    refine Sp.Cd.seq fun K17 hK17 => ?_
    refine Sp.Cd.seq fun K18 hK18 => ?_
    refine Sp.Cd.region ?_
    refine Sp.L.pure (by kernel_rfl) (Sp.Runs.move rfl) ?_
    refine Sp.L.pure (by kernel_rfl) (Sp.Runs.move rfl) ?_
    refine Sp.L.pure (by kernel_rfl) (Sp.Runs.neBF Try.underlying4 rfl rfl (by first | rfl | assumption)) ?_
    refine Sp.L.pure (by kernel_rfl) (Sp.Runs.move rfl) ?_
    refine Sp.L.pure (by kernel_rfl) (Sp.Runs.move rfl) ?_
    refine Sp.L.pure (by kernel_rfl) (Sp.Runs.move rfl) ?_
    have CC := mRows_small w13 ar1i ar1s lr1i cr1i lr1s cr1s r1 r1 (smallR_of le1) Hr1i.out Hr1s.out
    rw [sameR_refl] at CC
    refine Sp.L.call (by kernel_rfl) (CC) rfl rfl (by kernel_rfl) ?_
    clear CC
    rintro e w14 ⟨rfl, b⟩
    replace B0 := Lib.hid (B0.out.trans (b.mono B0.out.size))
    replace HYa := Lib.hid (HYa.out.below b)
    replace HYb := Lib.hid (HYb.out.below b)
    replace Hr1i := Lib.hid (Hr1i.out.below b)
    replace Hr1s := Lib.hid (Hr1s.out.below b)
    replace Hr2i := Lib.hid (Hr2i.out.below b)
    replace Hr2s := Lib.hid (Hr2s.out.below b)
    replace Hr3i := Lib.hid (Hr3i.out.below b)
    replace Hr3s := Lib.hid (Hr3s.out.below b)
    replace Hr4i := Lib.hid (Hr4i.out.below b)
    replace Hr4s := Lib.hid (Hr4s.out.below b)
    clear b
    refine ⟨_, rfl, ?_⟩
    refine Sp.L.pure (by kernel_rfl) (Sp.Runs.notF rfl) ?_
    refine Sp.L.pure (by kernel_rfl) (Sp.Runs.pickF rfl rfl) ?_
    refine Sp.L.pure (by kernel_rfl) (Sp.Runs.move rfl) ?_
    refine Sp.L.pure (by kernel_rfl) (Sp.Runs.move rfl) ?_
    refine Sp.L.pure (by kernel_rfl) (Sp.Runs.move rfl) ?_
    refine Sp.L.pure (by kernel_rfl) (Sp.Runs.neBF Try.underlying4 rfl rfl (by first | rfl | assumption)) ?_
    refine Sp.L.pure (by kernel_rfl) (Sp.Runs.pickF rfl rfl) ?_
    refine Sp.L.pure (by kernel_rfl) (Sp.Runs.move rfl) ?_
    refine Sp.L.pure (by kernel_rfl) (Sp.Runs.move rfl) ?_
    refine Sp.L.pure (by kernel_rfl) (Sp.Runs.move rfl) ?_
    have CC := mRows_small w14 ar2i ar2s lr2i cr2i lr2s cr2s r2 r2 (smallR_of le2) Hr2i.out Hr2s.out
    rw [sameR_refl] at CC
    refine Sp.L.call (by kernel_rfl) (CC) rfl rfl (by kernel_rfl) ?_
    clear CC
    rintro e w15 ⟨rfl, b⟩
    replace B0 := Lib.hid (B0.out.trans (b.mono B0.out.size))
    replace HYa := Lib.hid (HYa.out.below b)
    replace HYb := Lib.hid (HYb.out.below b)
    replace Hr1i := Lib.hid (Hr1i.out.below b)
    replace Hr1s := Lib.hid (Hr1s.out.below b)
    replace Hr2i := Lib.hid (Hr2i.out.below b)
    replace Hr2s := Lib.hid (Hr2s.out.below b)
    replace Hr3i := Lib.hid (Hr3i.out.below b)
    replace Hr3s := Lib.hid (Hr3s.out.below b)
    replace Hr4i := Lib.hid (Hr4i.out.below b)
    replace Hr4s := Lib.hid (Hr4s.out.below b)
    clear b
    refine ⟨_, rfl, ?_⟩
    refine Sp.L.pure (by kernel_rfl) (Sp.Runs.notF rfl) ?_
    refine Sp.L.pure (by kernel_rfl) (Sp.Runs.pickF rfl rfl) ?_
    refine Sp.L.pure (by kernel_rfl) (Sp.Runs.move rfl) ?_
    refine Sp.L.pure (by kernel_rfl) (Sp.Runs.move rfl) ?_
    refine Sp.L.pure (by kernel_rfl) (Sp.Runs.move rfl) ?_
    refine Sp.L.pure (by kernel_rfl) (Sp.Runs.neBF Try.underlying4 rfl rfl (by first | rfl | assumption)) ?_
    refine Sp.L.pure (by kernel_rfl) (Sp.Runs.pickF rfl rfl) ?_
    refine Sp.L.pure (by kernel_rfl) (Sp.Runs.move rfl) ?_
    refine Sp.L.pure (by kernel_rfl) (Sp.Runs.move rfl) ?_
    refine Sp.L.pure (by kernel_rfl) (Sp.Runs.move rfl) ?_
    refine Sp.L.pure (by kernel_rfl) (Sp.Runs.neIF rfl rfl (by first | rfl | assumption | omega)) ?_
    refine Sp.L.pure (by kernel_rfl) (Sp.Runs.pickF rfl rfl) ?_
    refine Sp.L.pure (by kernel_rfl) (Sp.Runs.move rfl) ?_
    refine Sp.L.pure (by kernel_rfl) (Sp.Runs.move rfl) ?_
    refine Sp.L.pure (by kernel_rfl) (Sp.Runs.move rfl) ?_
    refine Sp.L.pure (by kernel_rfl) (Sp.Runs.neIF rfl rfl (by first | rfl | assumption | omega)) ?_
    refine Sp.L.pure (by kernel_rfl) (Sp.Runs.pickF rfl rfl) ?_
    refine Sp.L.pure (by kernel_rfl) (Sp.Runs.move rfl) ?_
    refine Sp.L.pure (by kernel_rfl) (Sp.Runs.move rfl) ?_
    refine Sp.L.pure (by kernel_rfl) (Sp.Runs.move rfl) ?_
    refine Sp.L.pure (by kernel_rfl) (Sp.Runs.neBF Try.underlying4 rfl rfl (by first | rfl | assumption)) ?_
    refine Sp.L.pure (by kernel_rfl) (Sp.Runs.pickF rfl rfl) ?_
    refine Sp.L.pure (by kernel_rfl) (Sp.Runs.move rfl) ?_
    refine Sp.L.pure (by kernel_rfl) (Sp.Runs.move rfl) ?_
    refine Sp.L.pure (by kernel_rfl) (Sp.Runs.move rfl) ?_
    refine Sp.L.pure (by kernel_rfl) (Sp.Runs.neIF rfl rfl (by first | rfl | assumption | omega)) ?_
    refine Sp.L.pure (by kernel_rfl) (Sp.Runs.pickF rfl rfl) ?_
    refine Sp.L.pure (by kernel_rfl) (Sp.Runs.move rfl) ?_
    refine Sp.L.pure (by kernel_rfl) (Sp.Runs.move rfl) ?_
    refine Sp.L.pure (by kernel_rfl) (Sp.Runs.move rfl) ?_
    refine Sp.L.pure (by kernel_rfl) (Sp.Runs.neIF rfl rfl (by first | rfl | assumption | omega)) ?_
    refine Sp.L.pure (by kernel_rfl) (Sp.Runs.pickF rfl rfl) ?_
    refine Sp.L.pure (by kernel_rfl) (Sp.Runs.move rfl) ?_
    refine Sp.L.pure (by kernel_rfl) (Sp.Runs.move rfl) ?_
    refine Sp.L.pure (by kernel_rfl) (Sp.Runs.move rfl) ?_
    refine Sp.L.pure (by kernel_rfl) (Sp.Runs.neBF Try.underlying4 rfl rfl (by first | rfl | assumption)) ?_
    refine Sp.L.pure (by kernel_rfl) (Sp.Runs.pickF rfl rfl) ?_
    refine Sp.L.pure (by kernel_rfl) (Sp.Runs.move rfl) ?_
    refine Sp.L.pure (by kernel_rfl) (Sp.Runs.move rfl) ?_
    refine Sp.L.pure (by kernel_rfl) (Sp.Runs.move rfl) ?_
    have CC := mRows_small w15 ar3i ar3s lr3i cr3i lr3s cr3s r3 r3 (smallR_of le3) Hr3i.out Hr3s.out
    rw [sameR_refl] at CC
    refine Sp.L.call (by kernel_rfl) (CC) rfl rfl (by kernel_rfl) ?_
    clear CC
    rintro e w16 ⟨rfl, b⟩
    replace B0 := Lib.hid (B0.out.trans (b.mono B0.out.size))
    replace HYa := Lib.hid (HYa.out.below b)
    replace HYb := Lib.hid (HYb.out.below b)
    replace Hr1i := Lib.hid (Hr1i.out.below b)
    replace Hr1s := Lib.hid (Hr1s.out.below b)
    replace Hr2i := Lib.hid (Hr2i.out.below b)
    replace Hr2s := Lib.hid (Hr2s.out.below b)
    replace Hr3i := Lib.hid (Hr3i.out.below b)
    replace Hr3s := Lib.hid (Hr3s.out.below b)
    replace Hr4i := Lib.hid (Hr4i.out.below b)
    replace Hr4s := Lib.hid (Hr4s.out.below b)
    clear b
    refine ⟨_, rfl, ?_⟩
    refine Sp.L.pure (by kernel_rfl) (Sp.Runs.notF rfl) ?_
    refine Sp.L.pure (by kernel_rfl) (Sp.Runs.pickF rfl rfl) ?_
    refine Sp.L.pure (by kernel_rfl) (Sp.Runs.move rfl) ?_
    refine Sp.L.pure (by kernel_rfl) (Sp.Runs.move rfl) ?_
    refine Sp.L.pure (by kernel_rfl) (Sp.Runs.move rfl) ?_
    refine Sp.L.pure (by kernel_rfl) (Sp.Runs.neBF Try.underlying4 rfl rfl (by first | rfl | assumption)) ?_
    refine Sp.L.pure (by kernel_rfl) (Sp.Runs.pickF rfl rfl) ?_
    refine Sp.L.pure (by kernel_rfl) (Sp.Runs.move rfl) ?_
    refine Sp.L.pure (by kernel_rfl) (Sp.Runs.move rfl) ?_
    refine Sp.L.pure (by kernel_rfl) (Sp.Runs.move rfl) ?_
    have CC := mSame_small w16 ar4i ar4s lr4i cr4i lr4s cr4s r4 r4 (by rw [Lr4i.out]; exact le4) Hr4i.out Hr4s.out
    rw [sameL_refl] at CC
    refine Sp.L.call (by kernel_rfl) (CC) rfl rfl (by kernel_rfl) ?_
    clear CC
    rintro e w17 ⟨rfl, b⟩
    replace B0 := Lib.hid (B0.out.trans (b.mono B0.out.size))
    replace HYa := Lib.hid (HYa.out.below b)
    replace HYb := Lib.hid (HYb.out.below b)
    replace Hr1i := Lib.hid (Hr1i.out.below b)
    replace Hr1s := Lib.hid (Hr1s.out.below b)
    replace Hr2i := Lib.hid (Hr2i.out.below b)
    replace Hr2s := Lib.hid (Hr2s.out.below b)
    replace Hr3i := Lib.hid (Hr3i.out.below b)
    replace Hr3s := Lib.hid (Hr3s.out.below b)
    replace Hr4i := Lib.hid (Hr4i.out.below b)
    replace Hr4s := Lib.hid (Hr4s.out.below b)
    clear b
    refine ⟨_, rfl, ?_⟩
    refine Sp.L.pure (by kernel_rfl) (Sp.Runs.notF rfl) ?_
    refine Sp.L.pure (by kernel_rfl) (Sp.Runs.pickF rfl rfl) ?_
    refine Sp.L.pure (by kernel_rfl) (Sp.Runs.move rfl) ?_
    refine Sp.L.pure (by kernel_rfl) (Sp.Runs.move rfl) ?_
    refine Sp.L.pure (by kernel_rfl) (Sp.Runs.move rfl) ?_
    refine Sp.L.pure (by kernel_rfl) (Sp.Runs.neBF Try.underlying4 rfl rfl (by first | rfl | assumption)) ?_
    refine Sp.L.pure (by kernel_rfl) (Sp.Runs.pickF rfl rfl) ?_
    refine Sp.L.pure (by kernel_rfl) (Sp.Runs.move rfl) ?_
    refine Sp.L.pure (by kernel_rfl) (Sp.Runs.move rfl) ?_
    refine Sp.L.pure (by kernel_rfl) (Sp.Runs.move rfl) ?_
    refine Sp.L.pure (by kernel_rfl) (Sp.Runs.neBF Try.underlying4 rfl rfl (by first | rfl | assumption)) ?_
    refine Sp.L.pure (by kernel_rfl) (Sp.Runs.pickF rfl rfl) ?_
    refine Sp.L.pure (by kernel_rfl) (Sp.Runs.move rfl) ?_
    refine Sp.L.pure (by kernel_rfl) (Sp.Runs.move rfl) ?_
    refine Sp.L.pure (by kernel_rfl) (Sp.Runs.move rfl) ?_
    refine Sp.L.pure (by kernel_rfl) (Sp.Runs.neBF Try.underlying4 rfl rfl (by first | rfl | assumption)) ?_
    refine Sp.L.pure (by kernel_rfl) (Sp.Runs.pickF rfl rfl) ?_
    refine Sp.L.pure (by kernel_rfl) (Sp.Runs.move rfl) ?_
    refine Sp.L.pure (by kernel_rfl) (Sp.Runs.move rfl) ?_
    refine Sp.L.pure (by kernel_rfl) (Sp.Runs.move rfl) ?_
    refine Sp.L.pure (by kernel_rfl) (Sp.Runs.neBF Try.underlying4 rfl rfl (by first | rfl | assumption)) ?_
    refine Sp.L.pure (by kernel_rfl) (Sp.Runs.pickF rfl rfl) ?_
    refine Sp.L.pure (by kernel_rfl) (Sp.Runs.move rfl) ?_
    refine Sp.L.pure (by kernel_rfl) (Sp.Runs.move rfl) ?_
    refine Sp.L.pure (by kernel_rfl) (Sp.Runs.move rfl) ?_
    refine Sp.L.pure (by kernel_rfl) (Sp.Runs.neBF Try.underlying4 rfl rfl (by first | rfl | assumption)) ?_
    refine Sp.L.pure (by kernel_rfl) (Sp.Runs.pickF rfl rfl) ?_
    refine Sp.L.nil ?_
    refine hK18 _ _ (Sp.Cd.sub (S' := [(1, _), (5, _), (6, _), (7, _), (10, _), (14, _), (15, _), (20, _), (21, _), (26, _), (30, _), (259, _)]) ⟨rfl, rfl, rfl, rfl, rfl, rfl, rfl, rfl, rfl, rfl, rfl, rfl, trivial⟩ ?_)
    clear hK18 K18
    refine Sp.Cd.condF rfl ?_
    refine Sp.Cd.skip ?_
    refine hK17 _ _ (Sp.Cd.sub (S' := [(1, _), (5, _), (6, _), (7, _), (10, _), (14, _), (15, _), (20, _), (21, _), (26, _), (30, _)]) ⟨rfl, rfl, rfl, rfl, rfl, rfl, rfl, rfl, rfl, rfl, rfl, trivial⟩ ?_)
    clear hK17 K17
    refine Sp.Cd.cutK [(1, _)] ⟨rfl, trivial⟩ ?_ ?_
    · have B1 : Hid (Below w17.heap.size w17 w17) := Lib.hid (Below.refl _ _)
      clear Hr1s
      clear Hr2s
      clear Hr3s
      clear Hr4s
      rcases ok with _ | _
      · refine Sp.Cd.seq fun K19 hK19 => ?_
        refine Sp.Cd.region ?_
        refine Sp.L.pure (by kernel_rfl) (Sp.Runs.move rfl) ?_
        refine Sp.L.nil ?_
        refine hK19 _ _ (Sp.Cd.sub (S' := [(1, _), (5, _), (6, _), (10, _), (14, _), (15, _), (20, _), (21, _), (26, _), (30, _), (260, _)]) ⟨rfl, rfl, rfl, rfl, rfl, rfl, rfl, rfl, rfl, rfl, rfl, trivial⟩ ?_)
        clear hK19 K19
        refine Sp.Cd.condF rfl ?_
        refine Sp.Cd.skip ?_
        refine Sp.Nx.post () ⟨rfl, trivial⟩ (B1.out)
      · have F := FX0 rfl
        obtain ⟨N, hN⟩ : ∃ N : Nat, n = (N : Int) := ⟨n.toNat, by have := F.n1; omega⟩
        have n1 := F.n1
        have n2 := F.n2
        have lb1 : lr1i ≤ 1000000000 := by rw [Lr1i.out]; exact le1.1
        have lb2 : lr2i ≤ 1000000000 := by rw [Lr2i.out]; exact le2.1
        have lb3 : lr3i ≤ 1000000000 := by rw [Lr3i.out]; exact le3.1
        have lb4 : lr4i ≤ 1000000 := by rw [Lr4i.out]; exact F.tri.len
        refine Sp.Cd.seq fun K20 hK20 => ?_
        refine Sp.Cd.region ?_
        refine Sp.L.pure (by kernel_rfl) (Sp.Runs.move rfl) ?_
        refine Sp.L.nil ?_
        refine hK20 _ _ (Sp.Cd.sub (S' := [(1, _), (5, _), (6, _), (10, _), (14, _), (15, _), (20, _), (21, _), (26, _), (30, _), (260, _)]) ⟨rfl, rfl, rfl, rfl, rfl, rfl, rfl, rfl, rfl, rfl, rfl, trivial⟩ ?_)
        clear hK20 K20
        refine Sp.Cd.condT rfl ?_
        refine Sp.Cd.seq fun K21 hK21 => ?_
        refine Sp.Cd.seq fun K22 hK22 => ?_
        refine Sp.Cd.region ?_
        refine Sp.L.pure (by kernel_rfl) (Sp.Runs.move rfl) ?_
        refine Sp.L.pure (by kernel_rfl) (Sp.Runs.lenL Try.underlying25 rfl) ?_
        refine Sp.L.pure (by kernel_rfl) (Sp.Runs.move rfl) ?_
        refine Sp.L.nil ?_
        refine hK22 _ _ (Sp.Cd.sub (S' := [(1, _), (5, _), (6, _), (10, _), (14, _), (15, _), (20, _), (21, _), (26, _), (30, _), (261, _), (262, _), (263, _)]) ⟨rfl, rfl, rfl, rfl, rfl, rfl, rfl, rfl, rfl, rfl, rfl, rfl, rfl, trivial⟩ ?_)
        clear hK22 K22
        refine Sp.Cd.block ?_
        have B2 : Hid (Below w17.heap.size w17 w17) := Lib.hid (Below.refl _ _)
        refine Sp.Cd.loop (ι := Nat) [(1, _), (5, _), (6, _), (10, _), (14, _), (15, _), (20, _), (21, _), (26, _), (30, _), (261, _), (262, _)] (fun i1 => [(263, .int .i64 (i1 : Nat))]) (fun i1 w' => Hid (Below w17.heap.size w17 w') ∧ (i1 ≤ lr1i)) (fun i1 => lr1i - i1) 0 ⟨rfl, rfl, rfl, rfl, rfl, rfl, rfl, rfl, rfl, rfl, rfl, rfl, rfl, trivial⟩ ⟨B2, Nat.zero_le _⟩ ?_
        clear B2
        rintro i1 w18 ⟨B2, hrel⟩
        have b := B2.out
        replace B0 := Lib.hid (B0.out.trans (b.mono B0.out.size))
        replace B1 := Lib.hid (B1.out.trans (b.mono B1.out.size))
        replace HYa := Lib.hid (HYa.out.below b)
        replace HYb := Lib.hid (HYb.out.below b)
        replace Hr1i := Lib.hid (Hr1i.out.below b)
        replace Hr2i := Lib.hid (Hr2i.out.below b)
        replace Hr3i := Lib.hid (Hr3i.out.below b)
        replace Hr4i := Lib.hid (Hr4i.out.below b)
        clear b
        refine Sp.Cd.sub (S' := [(263, _), (1, _), (5, _), (6, _), (10, _), (14, _), (15, _), (20, _), (21, _), (26, _), (30, _), (261, _), (262, _)]) ⟨rfl, rfl, rfl, rfl, rfl, rfl, rfl, rfl, rfl, rfl, rfl, rfl, rfl, trivial⟩ ?_
        by_cases hlti1 : i1 < lr1i
        · obtain ⟨Xi1, Yi1, hxyi1, c1, c2, c3, c4⟩ := F.rect.each i1 (by rw [← Lr1i.out]; exact hlti1)
          obtain ⟨qi1, di1, hci1, hpi1⟩ := Sp.came_row Hr1i.out i1 hlti1
          rw [hxyi1] at hci1 hpi1
          obtain ⟨pi1, hqi1⟩ := hpi1 cr1i .i64 (i1 : Int) rfl
          obtain ⟨ui1, hui1⟩ := Sp.came_idx (c := di1) (k := .i64) (n := (0 : Int)) hci1 0 (by show 0 < 2; omega) rfl
          obtain ⟨vi1, hvi1⟩ := Sp.came_idx (c := di1) (k := .i64) (n := (1 : Int)) hci1 1 (by show 1 < 2; omega) rfl
          rw [show [(Xi1 : Int), (Yi1 : Int)].getD 0 0 = (Xi1 : Int) from rfl] at hui1
          rw [show [(Xi1 : Int), (Yi1 : Int)].getD 1 0 = (Yi1 : Int) from rfl] at hvi1
          have hleni1 : (([(Xi1 : Int), (Yi1 : Int)].length : Nat) : Int) = 2 := rfl
          have pr1 := Sp.mulbd (a := (Xi1 : Int)) (b := (Yi1 : Int)) (A := 1000000) (B := 1000000) (by omega) (by omega) (by omega) (by omega)
          refine Sp.Cd.seq fun K23 hK23 => ?_
          refine Sp.Cd.region ?_
          refine Sp.L.pure (by kernel_rfl) (Sp.Runs.ltIT rfl rfl (by omega)) ?_
          refine Sp.L.nil ?_
          refine hK23 _ _ (Sp.Cd.sub (S' := [(1, _), (5, _), (6, _), (10, _), (14, _), (15, _), (20, _), (21, _), (26, _), (30, _), (261, _), (262, _), (263, _), (264, _)]) ⟨rfl, rfl, rfl, rfl, rfl, rfl, rfl, rfl, rfl, rfl, rfl, rfl, rfl, rfl, trivial⟩ ?_)
          clear hK23 K23
          refine Sp.Cd.seq fun K24 hK24 => ?_
          refine Sp.Cd.condT rfl ?_
          refine Sp.Cd.skip ?_
          refine hK24 _ _ (Sp.Cd.sub (S' := [(1, _), (5, _), (6, _), (10, _), (14, _), (15, _), (20, _), (21, _), (26, _), (30, _), (261, _), (262, _), (263, _)]) ⟨rfl, rfl, rfl, rfl, rfl, rfl, rfl, rfl, rfl, rfl, rfl, rfl, rfl, trivial⟩ ?_)
          clear hK24 K24
          refine Sp.Cd.seq fun K25 hK25 => ?_
          refine Sp.Cd.block ?_
          refine Sp.Cd.seq fun K26 hK26 => ?_
          refine Sp.Cd.region ?_
          refine Sp.L.pure (by kernel_rfl) (Sp.Runs.move rfl) ?_
          refine Sp.L.pure (by kernel_rfl) (Sp.Runs.indexAddr rfl rfl ((hqi1 w18 (Below.refl _ _)).1)) ?_
          refine Sp.L.pure (by kernel_rfl) (Sp.Runs.load rfl ((hqi1 w18 (Below.refl _ _)).2)) ?_
          refine Sp.L.pure (by kernel_rfl) (Sp.Runs.assign rfl) ?_
          refine Sp.L.pure (by kernel_rfl) (Sp.Runs.assign rfl) ?_
          refine Sp.L.nil ?_
          refine hK26 _ _ (Sp.Cd.sub (S' := [(1, _), (5, _), (6, _), (10, _), (14, _), (15, _), (20, _), (21, _), (26, _), (30, _), (34, _), (35, _), (261, _), (262, _), (263, _)]) ⟨rfl, rfl, rfl, rfl, rfl, rfl, rfl, rfl, rfl, rfl, rfl, rfl, rfl, rfl, rfl, trivial⟩ ?_)
          clear hK26 K26
          refine Sp.Cd.viaK [(1, _), (5, _), (6, _), (10, _), (14, _), (15, _), (20, _), (21, _), (26, _), (30, _), (261, _), (262, _), (263, _)] ⟨rfl, rfl, rfl, rfl, rfl, rfl, rfl, rfl, rfl, rfl, rfl, rfl, rfl, trivial⟩ ?_ ?_
          · have B3 : Hid (Below w18.heap.size w18 w18) := Lib.hid (Below.refl _ _)
            by_cases h0 : i1 = 0
            · refine Sp.Cd.seq fun K27 hK27 => ?_
              refine Sp.Cd.regionT (by kernel_rfl) (by kernel_rfl) ?_
              refine Sp.T.pure (by kernel_rfl) (fun X => Sp.Runs.move rfl) ?_
              refine Sp.T.pure (by kernel_rfl) (fun X => Sp.Runs.lenL Try.underlying30 rfl) ?_
              refine Sp.T.pure (by kernel_rfl) (fun X => Sp.Runs.neIF rfl rfl (by first | rfl | assumption | omega)) ?_
              refine Sp.T.pure (by kernel_rfl) (fun X => Sp.Runs.move rfl) ?_
              refine Sp.T.pure (by kernel_rfl) (fun X => Sp.Runs.move rfl) ?_
              refine Sp.T.pure (by kernel_rfl) (fun X => Sp.Runs.indexAddr rfl rfl ((hui1 X.w X.b).1)) ?_
              refine Sp.T.pure (by kernel_rfl) (fun X => Sp.Runs.load rfl ((hui1 X.w X.b).2)) ?_
              refine Sp.T.pure (by kernel_rfl) (fun X => Sp.Runs.ltIF rfl rfl (by first | rfl | assumption | omega)) ?_
              refine Sp.T.pure (by kernel_rfl) (fun X => Sp.Runs.pickF rfl rfl) ?_
              refine Sp.T.pure (by kernel_rfl) (fun X => Sp.Runs.move rfl) ?_
              refine Sp.T.pure (by kernel_rfl) (fun X => Sp.Runs.move rfl) ?_
              refine Sp.T.pure (by kernel_rfl) (fun X => Sp.Runs.indexAddr rfl rfl ((hui1 X.w X.b).1)) ?_
              refine Sp.T.pure (by kernel_rfl) (fun X => Sp.Runs.load rfl ((hui1 X.w X.b).2)) ?_
              refine Sp.T.pure (by kernel_rfl) (fun X => Sp.Runs.move rfl) ?_
              refine Sp.T.pure (by kernel_rfl) (fun X => Sp.Runs.indexAddr rfl rfl ((hvi1 X.w X.b).1)) ?_
              refine Sp.T.pure (by kernel_rfl) (fun X => Sp.Runs.load rfl ((hvi1 X.w X.b).2)) ?_
              refine Sp.T.pure (by kernel_rfl) (fun X => Sp.Runs.gtIF rfl rfl (by first | rfl | assumption | omega)) ?_
              refine Sp.T.pure (by kernel_rfl) (fun X => Sp.Runs.pickF rfl rfl) ?_
              refine Sp.T.pure (by kernel_rfl) (fun X => Sp.Runs.move rfl) ?_
              refine Sp.T.pure (by kernel_rfl) (fun X => Sp.Runs.move rfl) ?_
              refine Sp.T.pure (by kernel_rfl) (fun X => Sp.Runs.indexAddr rfl rfl ((hui1 X.w X.b).1)) ?_
              refine Sp.T.pure (by kernel_rfl) (fun X => Sp.Runs.load rfl ((hui1 X.w X.b).2)) ?_
              refine Sp.T.pure (by kernel_rfl) (fun X => Sp.Runs.move rfl) ?_
              refine Sp.T.pure (by kernel_rfl) (fun X => Sp.Runs.indexAddr rfl rfl ((hvi1 X.w X.b).1)) ?_
              refine Sp.T.pure (by kernel_rfl) (fun X => Sp.Runs.load rfl ((hvi1 X.w X.b).2)) ?_
              refine Sp.T.pure (by kernel_rfl) (fun X => Sp.Runs.mulI rfl rfl (Sp.wrapI (by omega) (by omega))) ?_
              refine Sp.T.pure (by kernel_rfl) (fun X => Sp.Runs.move rfl) ?_
              refine Sp.T.pure (by kernel_rfl) (fun X => Sp.Runs.neIF rfl rfl (by first | rfl | assumption | omega)) ?_
              refine Sp.T.pure (by kernel_rfl) (fun X => Sp.Runs.pickF rfl rfl) ?_
              refine Sp.T.pure (by kernel_rfl) (fun X => Sp.Runs.move rfl) ?_
              refine Sp.T.pure (by kernel_rfl) (fun X => Sp.Runs.move rfl) ?_
              refine Sp.T.pure (by kernel_rfl) (fun X => Sp.Runs.gtIF rfl rfl (by omega)) ?_
              refine Sp.T.pure (by kernel_rfl) (fun X => Sp.Runs.move rfl) ?_
              refine Sp.T.skip (by kernel_rfl) ?_
              refine Sp.T.skip (by kernel_rfl) ?_
              refine Sp.T.skip (by kernel_rfl) ?_
              refine Sp.T.skip (by kernel_rfl) ?_
              refine Sp.T.skip (by kernel_rfl) ?_
              refine Sp.T.skip (by kernel_rfl) ?_
              refine Sp.T.skip (by kernel_rfl) ?_
              refine Sp.T.skip (by kernel_rfl) ?_
              refine Sp.T.skip (by kernel_rfl) ?_
              refine Sp.T.skip (by kernel_rfl) ?_
              refine Sp.T.skip (by kernel_rfl) ?_
              refine Sp.T.pure (by kernel_rfl) (fun X => Sp.Runs.pickF rfl rfl) ?_
              refine Sp.T.pure (by kernel_rfl) (fun X => Sp.Runs.pickF rfl rfl) ?_
              refine Sp.T.nil fun w19 b => ?_
              replace B0 := Lib.hid (B0.out.trans (b.mono B0.out.size))
              replace B1 := Lib.hid (B1.out.trans (b.mono B1.out.size))
              replace B2 := Lib.hid (B2.out.trans (b.mono B2.out.size))
              replace B3 := Lib.hid (B3.out.trans (b.mono B3.out.size))
              replace HYa := Lib.hid (HYa.out.below b)
              replace HYb := Lib.hid (HYb.out.below b)
              replace Hr1i := Lib.hid (Hr1i.out.below b)
              replace Hr2i := Lib.hid (Hr2i.out.below b)
              replace Hr3i := Lib.hid (Hr3i.out.below b)
              replace Hr4i := Lib.hid (Hr4i.out.below b)
              clear b
              refine hK27 _ _ (Sp.Cd.sub (S' := [(1, _), (5, _), (6, _), (10, _), (14, _), (15, _), (20, _), (21, _), (26, _), (30, _), (261, _), (262, _), (263, _), (313, _)]) ⟨rfl, rfl, rfl, rfl, rfl, rfl, rfl, rfl, rfl, rfl, rfl, rfl, rfl, rfl, trivial⟩ ?_)
              clear hK27 K27
              refine Sp.Cd.condF rfl ?_
              refine Sp.Cd.skip ?_
              refine Sp.Nx.post () ⟨rfl, rfl, rfl, rfl, rfl, rfl, rfl, rfl, rfl, rfl, rfl, rfl, rfl, trivial⟩ (B3.out)
            · obtain ⟨bi1, hbi1⟩ : ∃ b : Nat, b + 1 = i1 := ⟨i1 - 1, by omega⟩
              have hlbi1 : bi1 < lr1i := by omega
              obtain ⟨XB, YB, hxyB, _⟩ := F.rect.each bi1 (by rw [← Lr1i.out]; exact hlbi1)
              have hris := F.rect.rise i1 (by omega) (by rw [← Lr1i.out]; exact hlti1)
              rw [show i1 - 1 = bi1 by omega, hxyB, hxyi1] at hris
              obtain ⟨qB, dB, hcB, hpB⟩ := Sp.came_row Hr1i.out bi1 hlbi1
              rw [hxyB] at hcB hpB
              obtain ⟨pB, hqB⟩ := hpB cr1i .i64 ((i1 : Int) - 1) (by omega)
              obtain ⟨uB, huB⟩ := Sp.came_idx (c := dB) (k := .i64) (n := (0 : Int)) hcB 0 (by show 0 < 2; omega) rfl
              rw [show [(XB : Int), (YB : Int)].getD 0 0 = (XB : Int) from rfl] at huB
              have hris2 : (XB : Int) < (Xi1 : Int) := hris
              refine Sp.Cd.seq fun K28 hK28 => ?_
              refine Sp.Cd.regionT (by kernel_rfl) (by kernel_rfl) ?_
              refine Sp.T.pure (by kernel_rfl) (fun X => Sp.Runs.move rfl) ?_
              refine Sp.T.pure (by kernel_rfl) (fun X => Sp.Runs.lenL Try.underlying30 rfl) ?_
              refine Sp.T.pure (by kernel_rfl) (fun X => Sp.Runs.neIF rfl rfl (by first | rfl | assumption | omega)) ?_
              refine Sp.T.pure (by kernel_rfl) (fun X => Sp.Runs.move rfl) ?_
              refine Sp.T.pure (by kernel_rfl) (fun X => Sp.Runs.move rfl) ?_
              refine Sp.T.pure (by kernel_rfl) (fun X => Sp.Runs.indexAddr rfl rfl ((hui1 X.w X.b).1)) ?_
              refine Sp.T.pure (by kernel_rfl) (fun X => Sp.Runs.load rfl ((hui1 X.w X.b).2)) ?_
              refine Sp.T.pure (by kernel_rfl) (fun X => Sp.Runs.ltIF rfl rfl (by first | rfl | assumption | omega)) ?_
              refine Sp.T.pure (by kernel_rfl) (fun X => Sp.Runs.pickF rfl rfl) ?_
              refine Sp.T.pure (by kernel_rfl) (fun X => Sp.Runs.move rfl) ?_
              refine Sp.T.pure (by kernel_rfl) (fun X => Sp.Runs.move rfl) ?_
              refine Sp.T.pure (by kernel_rfl) (fun X => Sp.Runs.indexAddr rfl rfl ((hui1 X.w X.b).1)) ?_
              refine Sp.T.pure (by kernel_rfl) (fun X => Sp.Runs.load rfl ((hui1 X.w X.b).2)) ?_
              refine Sp.T.pure (by kernel_rfl) (fun X => Sp.Runs.move rfl) ?_
              refine Sp.T.pure (by kernel_rfl) (fun X => Sp.Runs.indexAddr rfl rfl ((hvi1 X.w X.b).1)) ?_
              refine Sp.T.pure (by kernel_rfl) (fun X => Sp.Runs.load rfl ((hvi1 X.w X.b).2)) ?_
              refine Sp.T.pure (by kernel_rfl) (fun X => Sp.Runs.gtIF rfl rfl (by first | rfl | assumption | omega)) ?_
              refine Sp.T.pure (by kernel_rfl) (fun X => Sp.Runs.pickF rfl rfl) ?_
              refine Sp.T.pure (by kernel_rfl) (fun X => Sp.Runs.move rfl) ?_
              refine Sp.T.pure (by kernel_rfl) (fun X => Sp.Runs.move rfl) ?_
              refine Sp.T.pure (by kernel_rfl) (fun X => Sp.Runs.indexAddr rfl rfl ((hui1 X.w X.b).1)) ?_
              refine Sp.T.pure (by kernel_rfl) (fun X => Sp.Runs.load rfl ((hui1 X.w X.b).2)) ?_
              refine Sp.T.pure (by kernel_rfl) (fun X => Sp.Runs.move rfl) ?_
              refine Sp.T.pure (by kernel_rfl) (fun X => Sp.Runs.indexAddr rfl rfl ((hvi1 X.w X.b).1)) ?_
              refine Sp.T.pure (by kernel_rfl) (fun X => Sp.Runs.load rfl ((hvi1 X.w X.b).2)) ?_
              refine Sp.T.pure (by kernel_rfl) (fun X => Sp.Runs.mulI rfl rfl (Sp.wrapI (by omega) (by omega))) ?_
              refine Sp.T.pure (by kernel_rfl) (fun X => Sp.Runs.move rfl) ?_
              refine Sp.T.pure (by kernel_rfl) (fun X => Sp.Runs.neIF rfl rfl (by first | rfl | assumption | omega)) ?_
              refine Sp.T.pure (by kernel_rfl) (fun X => Sp.Runs.pickF rfl rfl) ?_
              refine Sp.T.pure (by kernel_rfl) (fun X => Sp.Runs.move rfl) ?_
              refine Sp.T.pure (by kernel_rfl) (fun X => Sp.Runs.move rfl) ?_
              refine Sp.T.pure (by kernel_rfl) (fun X => Sp.Runs.gtIT rfl rfl (by omega)) ?_
              refine Sp.T.pure (by kernel_rfl) (fun X => Sp.Runs.move rfl) ?_
              refine Sp.T.pure (by kernel_rfl) (fun X => Sp.Runs.move rfl) ?_
              refine Sp.T.pure (by kernel_rfl) (fun X => Sp.Runs.move rfl) ?_
              refine Sp.T.pure (by kernel_rfl) (fun X => Sp.Runs.subI rfl rfl (Sp.wrapI (by omega) (by omega))) ?_
              refine Sp.T.pure (by kernel_rfl) (fun X => Sp.Runs.indexAddr rfl rfl ((hqB X.w X.b).1)) ?_
              refine Sp.T.pure (by kernel_rfl) (fun X => Sp.Runs.load rfl ((hqB X.w X.b).2)) ?_
              refine Sp.T.pure (by kernel_rfl) (fun X => Sp.Runs.indexAddr rfl rfl ((huB X.w X.b).1)) ?_
              refine Sp.T.pure (by kernel_rfl) (fun X => Sp.Runs.load rfl ((huB X.w X.b).2)) ?_
              refine Sp.T.pure (by kernel_rfl) (fun X => Sp.Runs.move rfl) ?_
              refine Sp.T.pure (by kernel_rfl) (fun X => Sp.Runs.indexAddr rfl rfl ((hui1 X.w X.b).1)) ?_
              refine Sp.T.pure (by kernel_rfl) (fun X => Sp.Runs.load rfl ((hui1 X.w X.b).2)) ?_
              refine Sp.T.pure (by kernel_rfl) (fun X => Sp.Runs.geIF rfl rfl (by first | rfl | assumption | omega)) ?_
              refine Sp.T.pure (by kernel_rfl) (fun X => Sp.Runs.pickT rfl rfl) ?_
              refine Sp.T.pure (by kernel_rfl) (fun X => Sp.Runs.pickF rfl rfl) ?_
              refine Sp.T.nil fun w19 b => ?_
              replace B0 := Lib.hid (B0.out.trans (b.mono B0.out.size))
              replace B1 := Lib.hid (B1.out.trans (b.mono B1.out.size))
              replace B2 := Lib.hid (B2.out.trans (b.mono B2.out.size))
              replace B3 := Lib.hid (B3.out.trans (b.mono B3.out.size))
              replace HYa := Lib.hid (HYa.out.below b)
              replace HYb := Lib.hid (HYb.out.below b)
              replace Hr1i := Lib.hid (Hr1i.out.below b)
              replace Hr2i := Lib.hid (Hr2i.out.below b)
              replace Hr3i := Lib.hid (Hr3i.out.below b)
              replace Hr4i := Lib.hid (Hr4i.out.below b)
              clear b
              refine hK28 _ _ (Sp.Cd.sub (S' := [(1, _), (5, _), (6, _), (10, _), (14, _), (15, _), (20, _), (21, _), (26, _), (30, _), (261, _), (262, _), (263, _), (313, _)]) ⟨rfl, rfl, rfl, rfl, rfl, rfl, rfl, rfl, rfl, rfl, rfl, rfl, rfl, rfl, trivial⟩ ?_)
              clear hK28 K28
              refine Sp.Cd.condF rfl ?_
              refine Sp.Cd.skip ?_
              refine Sp.Nx.post () ⟨rfl, rfl, rfl, rfl, rfl, rfl, rfl, rfl, rfl, rfl, rfl, rfl, rfl, trivial⟩ (B3.out)
          · intro w19 b
            replace B0 := Lib.hid (B0.out.trans (b.mono B0.out.size))
            replace B1 := Lib.hid (B1.out.trans (b.mono B1.out.size))
            replace B2 := Lib.hid (B2.out.trans (b.mono B2.out.size))
            replace HYa := Lib.hid (HYa.out.below b)
            replace HYb := Lib.hid (HYb.out.below b)
            replace Hr1i := Lib.hid (Hr1i.out.below b)
            replace Hr2i := Lib.hid (Hr2i.out.below b)
            replace Hr3i := Lib.hid (Hr3i.out.below b)
            replace Hr4i := Lib.hid (Hr4i.out.below b)
            clear b
            refine Sp.Nx.block ?_
            refine hK25 _ _ (Sp.Cd.sub (S' := [(1, _), (5, _), (6, _), (10, _), (14, _), (15, _), (20, _), (21, _), (26, _), (30, _), (261, _), (262, _), (263, _)]) ⟨rfl, rfl, rfl, rfl, rfl, rfl, rfl, rfl, rfl, rfl, rfl, rfl, rfl, trivial⟩ ?_)
            clear hK25 K25
            refine Sp.Cd.region ?_
            refine Sp.L.pure (by kernel_rfl) (Sp.Runs.addI rfl rfl (Sp.wrapI (by omega) (by omega))) ?_
            refine Sp.L.pure (by kernel_rfl) (Sp.Runs.move rfl) ?_
            refine Sp.L.nil ?_
            refine Sp.Nx.again (i1 + 1) ⟨(Sp.lkI rfl (by omega)), rfl, rfl, rfl, rfl, rfl, rfl, rfl, rfl, rfl, rfl, rfl, rfl, trivial⟩ ⟨B2, hlti1⟩ (by omega)
        · refine Sp.Cd.seq fun K29 hK29 => ?_
          refine Sp.Cd.region ?_
          refine Sp.L.pure (by kernel_rfl) (Sp.Runs.ltIF rfl rfl (by omega)) ?_
          refine Sp.L.nil ?_
          refine hK29 _ _ (Sp.Cd.sub (S' := [(1, _), (5, _), (6, _), (10, _), (14, _), (15, _), (20, _), (21, _), (26, _), (30, _), (261, _), (262, _), (263, _), (264, _)]) ⟨rfl, rfl, rfl, rfl, rfl, rfl, rfl, rfl, rfl, rfl, rfl, rfl, rfl, rfl, trivial⟩ ?_)
          clear hK29 K29
          refine Sp.Cd.seq fun K30 hK30 => ?_
          refine Sp.Cd.condF rfl ?_
          refine Sp.Cd.exit ?_
          refine Sp.Ex.then ?_
          clear hK30 K30
          refine Sp.Ex.then ?_
          clear B2
          refine Sp.Ex.hit ?_
          refine hK21 _ _ (Sp.Cd.sub (S' := [(1, _), (5, _), (6, _), (10, _), (14, _), (15, _), (20, _), (21, _), (26, _), (30, _)]) ⟨rfl, rfl, rfl, rfl, rfl, rfl, rfl, rfl, rfl, rfl, trivial⟩ ?_)
          clear hK21 K21
          refine Sp.Cd.seq fun K31 hK31 => ?_
          refine Sp.Cd.seq fun K32 hK32 => ?_
          refine Sp.Cd.region ?_
          refine Sp.L.pure (by kernel_rfl) (Sp.Runs.move rfl) ?_
          refine Sp.L.pure (by kernel_rfl) (Sp.Runs.lenL Try.underlying25 rfl) ?_
          refine Sp.L.pure (by kernel_rfl) (Sp.Runs.move rfl) ?_
          refine Sp.L.nil ?_
          refine hK32 _ _ (Sp.Cd.sub (S' := [(1, _), (5, _), (6, _), (10, _), (14, _), (15, _), (20, _), (21, _), (26, _), (30, _), (315, _), (316, _), (317, _)]) ⟨rfl, rfl, rfl, rfl, rfl, rfl, rfl, rfl, rfl, rfl, rfl, rfl, rfl, trivial⟩ ?_)
          clear hK32 K32
          refine Sp.Cd.block ?_
          have B2 : Hid (Below w18.heap.size w18 w18) := Lib.hid (Below.refl _ _)
          refine Sp.Cd.loop (ι := Nat) [(1, _), (5, _), (6, _), (10, _), (14, _), (15, _), (20, _), (21, _), (26, _), (30, _), (315, _), (316, _)] (fun i2 => [(317, .int .i64 (i2 : Nat))]) (fun i2 w' => Hid (Below w18.heap.size w18 w') ∧ (i2 ≤ lr2i)) (fun i2 => lr2i - i2) 0 ⟨rfl, rfl, rfl, rfl, rfl, rfl, rfl, rfl, rfl, rfl, rfl, rfl, rfl, trivial⟩ ⟨B2, Nat.zero_le _⟩ ?_
          clear B2
          rintro i2 w19 ⟨B2, hrel⟩
          have b := B2.out
          replace B0 := Lib.hid (B0.out.trans (b.mono B0.out.size))
          replace B1 := Lib.hid (B1.out.trans (b.mono B1.out.size))
          replace HYa := Lib.hid (HYa.out.below b)
          replace HYb := Lib.hid (HYb.out.below b)
          replace Hr1i := Lib.hid (Hr1i.out.below b)
          replace Hr2i := Lib.hid (Hr2i.out.below b)
          replace Hr3i := Lib.hid (Hr3i.out.below b)
          replace Hr4i := Lib.hid (Hr4i.out.below b)
          clear b
          refine Sp.Cd.sub (S' := [(317, _), (1, _), (5, _), (6, _), (10, _), (14, _), (15, _), (20, _), (21, _), (26, _), (30, _), (315, _), (316, _)]) ⟨rfl, rfl, rfl, rfl, rfl, rfl, rfl, rfl, rfl, rfl, rfl, rfl, rfl, trivial⟩ ?_
          by_cases hlti2 : i2 < lr2i
          · obtain ⟨Xi2, Yi2, hxyi2, c1, c2, c3, c4, c5⟩ := F.hol.each i2 (by rw [← Lr2i.out]; exact hlti2)
            obtain ⟨qi2, di2, hci2, hpi2⟩ := Sp.came_row Hr2i.out i2 hlti2
            rw [hxyi2] at hci2 hpi2
            obtain ⟨pi2, hqi2⟩ := hpi2 cr2i .i64 (i2 : Int) rfl
            obtain ⟨ui2, hui2⟩ := Sp.came_idx (c := di2) (k := .i64) (n := (0 : Int)) hci2 0 (by show 0 < 2; omega) rfl
            obtain ⟨vi2, hvi2⟩ := Sp.came_idx (c := di2) (k := .i64) (n := (1 : Int)) hci2 1 (by show 1 < 2; omega) rfl
            rw [show [(Xi2 : Int), (Yi2 : Int)].getD 0 0 = (Xi2 : Int) from rfl] at hui2
            rw [show [(Xi2 : Int), (Yi2 : Int)].getD 1 0 = (Yi2 : Int) from rfl] at hvi2
            have hleni2 : (([(Xi2 : Int), (Yi2 : Int)].length : Nat) : Int) = 2 := rfl
            have pr1 := Sp.mulbd (a := (Xi2 : Int)) (b := (Xi2 : Int)) (A := 1000001) (B := 1000001) (by omega) (by omega) (by omega) (by omega)
            have pr2 := Sp.mulbd (a := (Xi2 : Int) - 2 * (Yi2 : Int)) (b := (Xi2 : Int) - 2 * (Yi2 : Int)) (A := 1000001) (B := 1000001) (by omega) (by omega) (by omega) (by omega)
            have HCR := Lib.hid hci2
            refine Sp.Cd.seq fun K33 hK33 => ?_
            refine Sp.Cd.region ?_
            refine Sp.L.pure (by kernel_rfl) (Sp.Runs.ltIT rfl rfl (by omega)) ?_
            refine Sp.L.nil ?_
            refine hK33 _ _ (Sp.Cd.sub (S' := [(1, _), (5, _), (6, _), (10, _), (14, _), (15, _), (20, _), (21, _), (26, _), (30, _), (315, _), (316, _), (317, _), (318, _)]) ⟨rfl, rfl, rfl, rfl, rfl, rfl, rfl, rfl, rfl, rfl, rfl, rfl, rfl, rfl, trivial⟩ ?_)
            clear hK33 K33
            refine Sp.Cd.seq fun K34 hK34 => ?_
            refine Sp.Cd.condT rfl ?_
            refine Sp.Cd.skip ?_
            refine hK34 _ _ (Sp.Cd.sub (S' := [(1, _), (5, _), (6, _), (10, _), (14, _), (15, _), (20, _), (21, _), (26, _), (30, _), (315, _), (316, _), (317, _)]) ⟨rfl, rfl, rfl, rfl, rfl, rfl, rfl, rfl, rfl, rfl, rfl, rfl, rfl, trivial⟩ ?_)
            clear hK34 K34
            refine Sp.Cd.seq fun K35 hK35 => ?_
            refine Sp.Cd.block ?_
            refine Sp.Cd.seq fun K36 hK36 => ?_
            refine Sp.Cd.region ?_
            refine Sp.L.pure (by kernel_rfl) (Sp.Runs.move rfl) ?_
            refine Sp.L.pure (by kernel_rfl) (Sp.Runs.indexAddr rfl rfl ((hqi2 w19 (Below.refl _ _)).1)) ?_
            refine Sp.L.pure (by kernel_rfl) (Sp.Runs.load rfl ((hqi2 w19 (Below.refl _ _)).2)) ?_
            refine Sp.L.pure (by kernel_rfl) (Sp.Runs.assign rfl) ?_
            refine Sp.L.pure (by kernel_rfl) (Sp.Runs.assign rfl) ?_
            refine Sp.L.nil ?_
            refine hK36 _ _ (Sp.Cd.sub (S' := [(1, _), (5, _), (6, _), (10, _), (14, _), (15, _), (20, _), (21, _), (26, _), (30, _), (36, _), (37, _), (315, _), (316, _), (317, _)]) ⟨rfl, rfl, rfl, rfl, rfl, rfl, rfl, rfl, rfl, rfl, rfl, rfl, rfl, rfl, rfl, trivial⟩ ?_)
            clear hK36 K36
            refine Sp.Cd.cutK [(1, _), (5, _), (6, _), (10, _), (14, _), (15, _), (20, _), (21, _), (26, _), (30, _), (37, _), (315, _), (316, _), (317, _)] ⟨rfl, rfl, rfl, rfl, rfl, rfl, rfl, rfl, rfl, rfl, rfl, rfl, rfl, rfl, trivial⟩ ?_ ?_
            · have B3 : Hid (Below w19.heap.size w19 w19) := Lib.hid (Below.refl _ _)
              by_cases h0 : i2 = 0
              · refine Sp.Cd.viaK [(1, _), (5, _), (6, _), (10, _), (14, _), (15, _), (20, _), (21, _), (26, _), (30, _), (37, _), (315, _), (316, _), (317, _)] ⟨rfl, rfl, rfl, rfl, rfl, rfl, rfl, rfl, rfl, rfl, rfl, rfl, rfl, rfl, trivial⟩ ?_ ?_
                · have B4 : Hid (Below w19.heap.size w19 w19) := Lib.hid (Below.refl _ _)
                  by_cases h0 : i2 = 0
                  · refine Sp.Cd.seq fun K37 hK37 => ?_
                    refine Sp.Cd.regionT (by kernel_rfl) (by kernel_rfl) ?_
                    refine Sp.T.pure (by kernel_rfl) (fun X => Sp.Runs.move rfl) ?_
                    refine Sp.T.pure (by kernel_rfl) (fun X => Sp.Runs.lenL Try.underlying30 rfl) ?_
                    refine Sp.T.pure (by kernel_rfl) (fun X => Sp.Runs.neIF rfl rfl (by first | rfl | assumption | omega)) ?_
                    refine Sp.T.pure (by kernel_rfl) (fun X => Sp.Runs.move rfl) ?_
                    refine Sp.T.pure (by kernel_rfl) (fun X => Sp.Runs.move rfl) ?_
                    refine Sp.T.pure (by kernel_rfl) (fun X => Sp.Runs.indexAddr rfl rfl ((hvi2 X.w X.b).1)) ?_
                    refine Sp.T.pure (by kernel_rfl) (fun X => Sp.Runs.load rfl ((hvi2 X.w X.b).2)) ?_
                    refine Sp.T.pure (by kernel_rfl) (fun X => Sp.Runs.ltIF rfl rfl (by first | rfl | assumption | omega)) ?_
                    refine Sp.T.pure (by kernel_rfl) (fun X => Sp.Runs.pickF rfl rfl) ?_
                    refine Sp.T.pure (by kernel_rfl) (fun X => Sp.Runs.move rfl) ?_
                    refine Sp.T.pure (by kernel_rfl) (fun X => Sp.Runs.move rfl) ?_
                    refine Sp.T.pure (by kernel_rfl) (fun X => Sp.Runs.indexAddr rfl rfl ((hui2 X.w X.b).1)) ?_
                    refine Sp.T.pure (by kernel_rfl) (fun X => Sp.Runs.load rfl ((hui2 X.w X.b).2)) ?_
                    refine Sp.T.pure (by kernel_rfl) (fun X => Sp.Runs.move rfl) ?_
                    refine Sp.T.pure (by kernel_rfl) (fun X => Sp.Runs.indexAddr rfl rfl ((hvi2 X.w X.b).1)) ?_
                    refine Sp.T.pure (by kernel_rfl) (fun X => Sp.Runs.load rfl ((hvi2 X.w X.b).2)) ?_
                    refine Sp.T.pure (by kernel_rfl) (fun X => Sp.Runs.mulI rfl rfl (Sp.wrapI (by omega) (by omega))) ?_
                    refine Sp.T.pure (by kernel_rfl) (fun X => Sp.Runs.leIF rfl rfl (by first | rfl | assumption | omega)) ?_
                    refine Sp.T.pure (by kernel_rfl) (fun X => Sp.Runs.pickF rfl rfl) ?_
                    refine Sp.T.pure (by kernel_rfl) (fun X => Sp.Runs.move rfl) ?_
                    refine Sp.T.pure (by kernel_rfl) (fun X => Sp.Runs.move rfl) ?_
                    refine Sp.T.pure (by kernel_rfl) (fun X => Sp.Runs.indexAddr rfl rfl ((hui2 X.w X.b).1)) ?_
                    refine Sp.T.pure (by kernel_rfl) (fun X => Sp.Runs.load rfl ((hui2 X.w X.b).2)) ?_
                    refine Sp.T.pure (by kernel_rfl) (fun X => Sp.Runs.move rfl) ?_
                    refine Sp.T.pure (by kernel_rfl) (fun X => Sp.Runs.indexAddr rfl rfl ((hui2 X.w X.b).1)) ?_
                    refine Sp.T.pure (by kernel_rfl) (fun X => Sp.Runs.load rfl ((hui2 X.w X.b).2)) ?_
                    refine Sp.T.pure (by kernel_rfl) (fun X => Sp.Runs.mulI rfl rfl (Sp.wrapI (by omega) (by omega))) ?_
                    refine Sp.T.pure (by kernel_rfl) (fun X => Sp.Runs.move rfl) ?_
                    refine Sp.T.pure (by kernel_rfl) (fun X => Sp.Runs.indexAddr rfl rfl ((hui2 X.w X.b).1)) ?_
                    refine Sp.T.pure (by kernel_rfl) (fun X => Sp.Runs.load rfl ((hui2 X.w X.b).2)) ?_
                    refine Sp.T.pure (by kernel_rfl) (fun X => Sp.Runs.move rfl) ?_
                    refine Sp.T.pure (by kernel_rfl) (fun X => Sp.Runs.indexAddr rfl rfl ((hvi2 X.w X.b).1)) ?_
                    refine Sp.T.pure (by kernel_rfl) (fun X => Sp.Runs.load rfl ((hvi2 X.w X.b).2)) ?_
                    refine Sp.T.pure (by kernel_rfl) (fun X => Sp.Runs.mulI rfl rfl (Sp.wrapI (by omega) (by omega))) ?_
                    refine Sp.T.pure (by kernel_rfl) (fun X => Sp.Runs.subI rfl rfl (Sp.wrapI (by omega) (by omega))) ?_
                    refine Sp.T.pure (by kernel_rfl) (fun X => Sp.Runs.move rfl) ?_
                    refine Sp.T.pure (by kernel_rfl) (fun X => Sp.Runs.indexAddr rfl rfl ((hui2 X.w X.b).1)) ?_
                    refine Sp.T.pure (by kernel_rfl) (fun X => Sp.Runs.load rfl ((hui2 X.w X.b).2)) ?_
                    refine Sp.T.pure (by kernel_rfl) (fun X => Sp.Runs.move rfl) ?_
                    refine Sp.T.pure (by kernel_rfl) (fun X => Sp.Runs.indexAddr rfl rfl ((hvi2 X.w X.b).1)) ?_
                    refine Sp.T.pure (by kernel_rfl) (fun X => Sp.Runs.load rfl ((hvi2 X.w X.b).2)) ?_
                    refine Sp.T.pure (by kernel_rfl) (fun X => Sp.Runs.mulI rfl rfl (Sp.wrapI (by omega) (by omega))) ?_
                    refine Sp.T.pure (by kernel_rfl) (fun X => Sp.Runs.subI rfl rfl (Sp.wrapI (by omega) (by omega))) ?_
                    refine Sp.T.pure (by kernel_rfl) (fun X => Sp.Runs.mulI rfl rfl (Sp.wrapI (by omega) (by omega))) ?_
                    refine Sp.T.pure (by kernel_rfl) (fun X => Sp.Runs.subI rfl rfl (Sp.wrapI (by omega) (by omega))) ?_
                    refine Sp.T.pure (by kernel_rfl) (fun X => Sp.Runs.move rfl) ?_
                    refine Sp.T.pure (by kernel_rfl) (fun X => Sp.Runs.neIF rfl rfl (by first | rfl | assumption | omega)) ?_
                    refine Sp.T.pure (by kernel_rfl) (fun X => Sp.Runs.pickF rfl rfl) ?_
                    refine Sp.T.pure (by kernel_rfl) (fun X => Sp.Runs.move rfl) ?_
                    refine Sp.T.pure (by kernel_rfl) (fun X => Sp.Runs.move rfl) ?_
                    refine Sp.T.pure (by kernel_rfl) (fun X => Sp.Runs.gtIF rfl rfl (by omega)) ?_
                    refine Sp.T.pure (by kernel_rfl) (fun X => Sp.Runs.move rfl) ?_
                    refine Sp.T.skip (by kernel_rfl) ?_
                    refine Sp.T.skip (by kernel_rfl) ?_
                    refine Sp.T.skip (by kernel_rfl) ?_
                    refine Sp.T.skip (by kernel_rfl) ?_
                    refine Sp.T.skip (by kernel_rfl) ?_
                    refine Sp.T.skip (by kernel_rfl) ?_
                    refine Sp.T.skip (by kernel_rfl) ?_
                    refine Sp.T.skip (by kernel_rfl) ?_
                    refine Sp.T.skip (by kernel_rfl) ?_
                    refine Sp.T.skip (by kernel_rfl) ?_
                    refine Sp.T.skip (by kernel_rfl) ?_
                    refine Sp.T.pure (by kernel_rfl) (fun X => Sp.Runs.pickF rfl rfl) ?_
                    refine Sp.T.pure (by kernel_rfl) (fun X => Sp.Runs.pickF rfl rfl) ?_
                    refine Sp.T.nil fun w20 b => ?_
                    replace B0 := Lib.hid (B0.out.trans (b.mono B0.out.size))
                    replace B1 := Lib.hid (B1.out.trans (b.mono B1.out.size))
                    replace B2 := Lib.hid (B2.out.trans (b.mono B2.out.size))
                    replace B3 := Lib.hid (B3.out.trans (b.mono B3.out.size))
                    replace B4 := Lib.hid (B4.out.trans (b.mono B4.out.size))
                    replace HYa := Lib.hid (HYa.out.below b)
                    replace HYb := Lib.hid (HYb.out.below b)
                    replace Hr1i := Lib.hid (Hr1i.out.below b)
                    replace Hr2i := Lib.hid (Hr2i.out.below b)
                    replace Hr3i := Lib.hid (Hr3i.out.below b)
                    replace Hr4i := Lib.hid (Hr4i.out.below b)
                    replace HCR := Lib.hid (HCR.out.below b)
                    clear b
                    refine hK37 _ _ (Sp.Cd.sub (S' := [(1, _), (5, _), (6, _), (10, _), (14, _), (15, _), (20, _), (21, _), (26, _), (30, _), (37, _), (315, _), (316, _), (317, _), (386, _)]) ⟨rfl, rfl, rfl, rfl, rfl, rfl, rfl, rfl, rfl, rfl, rfl, rfl, rfl, rfl, rfl, trivial⟩ ?_)
                    clear hK37 K37
                    refine Sp.Cd.condF rfl ?_
                    refine Sp.Cd.skip ?_
                    refine Sp.Nx.post () ⟨rfl, rfl, rfl, rfl, rfl, rfl, rfl, rfl, rfl, rfl, rfl, rfl, rfl, rfl, trivial⟩ (B4.out)
                  · obtain ⟨bi2, hbi2⟩ : ∃ b : Nat, b + 1 = i2 := ⟨i2 - 1, by omega⟩
                    have hlbi2 : bi2 < lr2i := by omega
                    obtain ⟨XB, YB, hxyB, _⟩ := F.hol.each bi2 (by rw [← Lr2i.out]; exact hlbi2)
                    have hris := F.hol.rise i2 (by omega) (by rw [← Lr2i.out]; exact hlti2)
                    rw [show i2 - 1 = bi2 by omega, hxyB, hxyi2] at hris
                    obtain ⟨qB, dB, hcB, hpB⟩ := Sp.came_row Hr2i.out bi2 hlbi2
                    rw [hxyB] at hcB hpB
                    obtain ⟨pB, hqB⟩ := hpB cr2i .i64 ((i2 : Int) - 1) (by omega)
                    obtain ⟨uB, huB⟩ := Sp.came_idx (c := dB) (k := .i64) (n := (0 : Int)) hcB 0 (by show 0 < 2; omega) rfl
                    rw [show [(XB : Int), (YB : Int)].getD 0 0 = (XB : Int) from rfl] at huB
                    have hris2 : (XB : Int) < (Xi2 : Int) := hris
                    refine Sp.Cd.seq fun K38 hK38 => ?_
                    refine Sp.Cd.regionT (by kernel_rfl) (by kernel_rfl) ?_
                    refine Sp.T.pure (by kernel_rfl) (fun X => Sp.Runs.move rfl) ?_
                    refine Sp.T.pure (by kernel_rfl) (fun X => Sp.Runs.lenL Try.underlying30 rfl) ?_
                    refine Sp.T.pure (by kernel_rfl) (fun X => Sp.Runs.neIF rfl rfl (by first | rfl | assumption | omega)) ?_
                    refine Sp.T.pure (by kernel_rfl) (fun X => Sp.Runs.move rfl) ?_
                    refine Sp.T.pure (by kernel_rfl) (fun X => Sp.Runs.move rfl) ?_
                    refine Sp.T.pure (by kernel_rfl) (fun X => Sp.Runs.indexAddr rfl rfl ((hvi2 X.w X.b).1)) ?_
                    refine Sp.T.pure (by kernel_rfl) (fun X => Sp.Runs.load rfl ((hvi2 X.w X.b).2)) ?_
                    refine Sp.T.pure (by kernel_rfl) (fun X => Sp.Runs.ltIF rfl rfl (by first | rfl | assumption | omega)) ?_
                    refine Sp.T.pure (by kernel_rfl) (fun X => Sp.Runs.pickF rfl rfl) ?_
                    refine Sp.T.pure (by kernel_rfl) (fun X => Sp.Runs.move rfl) ?_
                    refine Sp.T.pure (by kernel_rfl) (fun X => Sp.Runs.move rfl) ?_
                    refine Sp.T.pure (by kernel_rfl) (fun X => Sp.Runs.indexAddr rfl rfl ((hui2 X.w X.b).1)) ?_
                    refine Sp.T.pure (by kernel_rfl) (fun X => Sp.Runs.load rfl ((hui2 X.w X.b).2)) ?_
                    refine Sp.T.pure (by kernel_rfl) (fun X => Sp.Runs.move rfl) ?_
                    refine Sp.T.pure (by kernel_rfl) (fun X => Sp.Runs.indexAddr rfl rfl ((hvi2 X.w X.b).1)) ?_
                    refine Sp.T.pure (by kernel_rfl) (fun X => Sp.Runs.load rfl ((hvi2 X.w X.b).2)) ?_
                    refine Sp.T.pure (by kernel_rfl) (fun X => Sp.Runs.mulI rfl rfl (Sp.wrapI (by omega) (by omega))) ?_
                    refine Sp.T.pure (by kernel_rfl) (fun X => Sp.Runs.leIF rfl rfl (by first | rfl | assumption | omega)) ?_
                    refine Sp.T.pure (by kernel_rfl) (fun X => Sp.Runs.pickF rfl rfl) ?_
                    refine Sp.T.pure (by kernel_rfl) (fun X => Sp.Runs.move rfl) ?_
                    refine Sp.T.pure (by kernel_rfl) (fun X => Sp.Runs.move rfl) ?_
                    refine Sp.T.pure (by kernel_rfl) (fun X => Sp.Runs.indexAddr rfl rfl ((hui2 X.w X.b).1)) ?_
                    refine Sp.T.pure (by kernel_rfl) (fun X => Sp.Runs.load rfl ((hui2 X.w X.b).2)) ?_
                    refine Sp.T.pure (by kernel_rfl) (fun X => Sp.Runs.move rfl) ?_
                    refine Sp.T.pure (by kernel_rfl) (fun X => Sp.Runs.indexAddr rfl rfl ((hui2 X.w X.b).1)) ?_
                    refine Sp.T.pure (by kernel_rfl) (fun X => Sp.Runs.load rfl ((hui2 X.w X.b).2)) ?_
                    refine Sp.T.pure (by kernel_rfl) (fun X => Sp.Runs.mulI rfl rfl (Sp.wrapI (by omega) (by omega))) ?_
                    refine Sp.T.pure (by kernel_rfl) (fun X => Sp.Runs.move rfl) ?_
                    refine Sp.T.pure (by kernel_rfl) (fun X => Sp.Runs.indexAddr rfl rfl ((hui2 X.w X.b).1)) ?_
                    refine Sp.T.pure (by kernel_rfl) (fun X => Sp.Runs.load rfl ((hui2 X.w X.b).2)) ?_
                    refine Sp.T.pure (by kernel_rfl) (fun X => Sp.Runs.move rfl) ?_
                    refine Sp.T.pure (by kernel_rfl) (fun X => Sp.Runs.indexAddr rfl rfl ((hvi2 X.w X.b).1)) ?_
                    refine Sp.T.pure (by kernel_rfl) (fun X => Sp.Runs.load rfl ((hvi2 X.w X.b).2)) ?_
                    refine Sp.T.pure (by kernel_rfl) (fun X => Sp.Runs.mulI rfl rfl (Sp.wrapI (by omega) (by omega))) ?_
                    refine Sp.T.pure (by kernel_rfl) (fun X => Sp.Runs.subI rfl rfl (Sp.wrapI (by omega) (by omega))) ?_
                    refine Sp.T.pure (by kernel_rfl) (fun X => Sp.Runs.move rfl) ?_
                    refine Sp.T.pure (by kernel_rfl) (fun X => Sp.Runs.indexAddr rfl rfl ((hui2 X.w X.b).1)) ?_
                    refine Sp.T.pure (by kernel_rfl) (fun X => Sp.Runs.load rfl ((hui2 X.w X.b).2)) ?_
                    refine Sp.T.pure (by kernel_rfl) (fun X => Sp.Runs.move rfl) ?_
                    refine Sp.T.pure (by kernel_rfl) (fun X => Sp.Runs.indexAddr rfl rfl ((hvi2 X.w X.b).1)) ?_
                    refine Sp.T.pure (by kernel_rfl) (fun X => Sp.Runs.load rfl ((hvi2 X.w X.b).2)) ?_
                    refine Sp.T.pure (by kernel_rfl) (fun X => Sp.Runs.mulI rfl rfl (Sp.wrapI (by omega) (by omega))) ?_
                    refine Sp.T.pure (by kernel_rfl) (fun X => Sp.Runs.subI rfl rfl (Sp.wrapI (by omega) (by omega))) ?_
                    refine Sp.T.pure (by kernel_rfl) (fun X => Sp.Runs.mulI rfl rfl (Sp.wrapI (by omega) (by omega))) ?_
                    refine Sp.T.pure (by kernel_rfl) (fun X => Sp.Runs.subI rfl rfl (Sp.wrapI (by omega) (by omega))) ?_
                    refine Sp.T.pure (by kernel_rfl) (fun X => Sp.Runs.move rfl) ?_
                    refine Sp.T.pure (by kernel_rfl) (fun X => Sp.Runs.neIF rfl rfl (by first | rfl | assumption | omega)) ?_
                    refine Sp.T.pure (by kernel_rfl) (fun X => Sp.Runs.pickF rfl rfl) ?_
                    refine Sp.T.pure (by kernel_rfl) (fun X => Sp.Runs.move rfl) ?_
                    refine Sp.T.pure (by kernel_rfl) (fun X => Sp.Runs.move rfl) ?_
                    refine Sp.T.pure (by kernel_rfl) (fun X => Sp.Runs.gtIT rfl rfl (by omega)) ?_
                    refine Sp.T.pure (by kernel_rfl) (fun X => Sp.Runs.move rfl) ?_
                    refine Sp.T.pure (by kernel_rfl) (fun X => Sp.Runs.move rfl) ?_
                    refine Sp.T.pure (by kernel_rfl) (fun X => Sp.Runs.move rfl) ?_
                    refine Sp.T.pure (by kernel_rfl) (fun X => Sp.Runs.subI rfl rfl (Sp.wrapI (by omega) (by omega))) ?_
                    refine Sp.T.pure (by kernel_rfl) (fun X => Sp.Runs.indexAddr rfl rfl ((hqB X.w X.b).1)) ?_
                    refine Sp.T.pure (by kernel_rfl) (fun X => Sp.Runs.load rfl ((hqB X.w X.b).2)) ?_
                    refine Sp.T.pure (by kernel_rfl) (fun X => Sp.Runs.indexAddr rfl rfl ((huB X.w X.b).1)) ?_
                    refine Sp.T.pure (by kernel_rfl) (fun X => Sp.Runs.load rfl ((huB X.w X.b).2)) ?_
                    refine Sp.T.pure (by kernel_rfl) (fun X => Sp.Runs.move rfl) ?_
                    refine Sp.T.pure (by kernel_rfl) (fun X => Sp.Runs.indexAddr rfl rfl ((hui2 X.w X.b).1)) ?_
                    refine Sp.T.pure (by kernel_rfl) (fun X => Sp.Runs.load rfl ((hui2 X.w X.b).2)) ?_
                    refine Sp.T.pure (by kernel_rfl) (fun X => Sp.Runs.geIF rfl rfl (by first | rfl | assumption | omega)) ?_
                    refine Sp.T.pure (by kernel_rfl) (fun X => Sp.Runs.pickT rfl rfl) ?_
                    refine Sp.T.pure (by kernel_rfl) (fun X => Sp.Runs.pickF rfl rfl) ?_
                    refine Sp.T.nil fun w20 b => ?_
                    replace B0 := Lib.hid (B0.out.trans (b.mono B0.out.size))
                    replace B1 := Lib.hid (B1.out.trans (b.mono B1.out.size))
                    replace B2 := Lib.hid (B2.out.trans (b.mono B2.out.size))
                    replace B3 := Lib.hid (B3.out.trans (b.mono B3.out.size))
                    replace B4 := Lib.hid (B4.out.trans (b.mono B4.out.size))
                    replace HYa := Lib.hid (HYa.out.below b)
                    replace HYb := Lib.hid (HYb.out.below b)
                    replace Hr1i := Lib.hid (Hr1i.out.below b)
                    replace Hr2i := Lib.hid (Hr2i.out.below b)
                    replace Hr3i := Lib.hid (Hr3i.out.below b)
                    replace Hr4i := Lib.hid (Hr4i.out.below b)
                    replace HCR := Lib.hid (HCR.out.below b)
                    clear b
                    refine hK38 _ _ (Sp.Cd.sub (S' := [(1, _), (5, _), (6, _), (10, _), (14, _), (15, _), (20, _), (21, _), (26, _), (30, _), (37, _), (315, _), (316, _), (317, _), (386, _)]) ⟨rfl, rfl, rfl, rfl, rfl, rfl, rfl, rfl, rfl, rfl, rfl, rfl, rfl, rfl, rfl, trivial⟩ ?_)
                    clear hK38 K38
                    refine Sp.Cd.condF rfl ?_
                    refine Sp.Cd.skip ?_
                    refine Sp.Nx.post () ⟨rfl, rfl, rfl, rfl, rfl, rfl, rfl, rfl, rfl, rfl, rfl, rfl, rfl, rfl, trivial⟩ (B4.out)
                · intro w20 b
                  replace B0 := Lib.hid (B0.out.trans (b.mono B0.out.size))
                  replace B1 := Lib.hid (B1.out.trans (b.mono B1.out.size))
                  replace B2 := Lib.hid (B2.out.trans (b.mono B2.out.size))
                  replace B3 := Lib.hid (B3.out.trans (b.mono B3.out.size))
                  replace HYa := Lib.hid (HYa.out.below b)
                  replace HYb := Lib.hid (HYb.out.below b)
                  replace Hr1i := Lib.hid (Hr1i.out.below b)
                  replace Hr2i := Lib.hid (Hr2i.out.below b)
                  replace Hr3i := Lib.hid (Hr3i.out.below b)
                  replace Hr4i := Lib.hid (Hr4i.out.below b)
                  replace HCR := Lib.hid (HCR.out.below b)
                  clear b
                  refine Sp.Nx.post () ⟨rfl, rfl, rfl, rfl, rfl, rfl, rfl, rfl, rfl, rfl, rfl, rfl, rfl, rfl, trivial⟩ (B3.out)
              · obtain ⟨bi2, hbi2⟩ : ∃ b : Nat, b + 1 = i2 := ⟨i2 - 1, by omega⟩
                have hlbi2 : bi2 < lr2i := by omega
                obtain ⟨XB, YB, hxyB, _⟩ := F.hol.each bi2 (by rw [← Lr2i.out]; exact hlbi2)
                have hris := F.hol.rise i2 (by omega) (by rw [← Lr2i.out]; exact hlti2)
                rw [show i2 - 1 = bi2 by omega, hxyB, hxyi2] at hris
                obtain ⟨qB, dB, hcB, hpB⟩ := Sp.came_row Hr2i.out bi2 hlbi2
                rw [hxyB] at hcB hpB
                obtain ⟨pB, hqB⟩ := hpB cr2i .i64 ((i2 : Int) - 1) (by omega)
                obtain ⟨uB, huB⟩ := Sp.came_idx (c := dB) (k := .i64) (n := (0 : Int)) hcB 0 (by show 0 < 2; omega) rfl
                rw [show [(XB : Int), (YB : Int)].getD 0 0 = (XB : Int) from rfl] at huB
                have hris2 : (XB : Int) < (Xi2 : Int) := hris
                refine Sp.Cd.viaK [(1, _), (5, _), (6, _), (10, _), (14, _), (15, _), (20, _), (21, _), (26, _), (30, _), (37, _), (315, _), (316, _), (317, _)] ⟨rfl, rfl, rfl, rfl, rfl, rfl, rfl, rfl, rfl, rfl, rfl, rfl, rfl, rfl, trivial⟩ ?_ ?_
                · have B4 : Hid (Below w19.heap.size w19 w19) := Lib.hid (Below.refl _ _)
                  by_cases h0 : i2 = 0
                  · refine Sp.Cd.seq fun K39 hK39 => ?_
                    refine Sp.Cd.regionT (by kernel_rfl) (by kernel_rfl) ?_
                    refine Sp.T.pure (by kernel_rfl) (fun X => Sp.Runs.move rfl) ?_
                    refine Sp.T.pure (by kernel_rfl) (fun X => Sp.Runs.lenL Try.underlying30 rfl) ?_
                    refine Sp.T.pure (by kernel_rfl) (fun X => Sp.Runs.neIF rfl rfl (by first | rfl | assumption | omega)) ?_
                    refine Sp.T.pure (by kernel_rfl) (fun X => Sp.Runs.move rfl) ?_
                    refine Sp.T.pure (by kernel_rfl) (fun X => Sp.Runs.move rfl) ?_
                    refine Sp.T.pure (by kernel_rfl) (fun X => Sp.Runs.indexAddr rfl rfl ((hvi2 X.w X.b).1)) ?_
                    refine Sp.T.pure (by kernel_rfl) (fun X => Sp.Runs.load rfl ((hvi2 X.w X.b).2)) ?_
                    refine Sp.T.pure (by kernel_rfl) (fun X => Sp.Runs.ltIF rfl rfl (by first | rfl | assumption | omega)) ?_
                    refine Sp.T.pure (by kernel_rfl) (fun X => Sp.Runs.pickF rfl rfl) ?_
                    refine Sp.T.pure (by kernel_rfl) (fun X => Sp.Runs.move rfl) ?_
                    refine Sp.T.pure (by kernel_rfl) (fun X => Sp.Runs.move rfl) ?_
                    refine Sp.T.pure (by kernel_rfl) (fun X => Sp.Runs.indexAddr rfl rfl ((hui2 X.w X.b).1)) ?_
                    refine Sp.T.pure (by kernel_rfl) (fun X => Sp.Runs.load rfl ((hui2 X.w X.b).2)) ?_
                    refine Sp.T.pure (by kernel_rfl) (fun X => Sp.Runs.move rfl) ?_
                    refine Sp.T.pure (by kernel_rfl) (fun X => Sp.Runs.indexAddr rfl rfl ((hvi2 X.w X.b).1)) ?_
                    refine Sp.T.pure (by kernel_rfl) (fun X => Sp.Runs.load rfl ((hvi2 X.w X.b).2)) ?_
                    refine Sp.T.pure (by kernel_rfl) (fun X => Sp.Runs.mulI rfl rfl (Sp.wrapI (by omega) (by omega))) ?_
                    refine Sp.T.pure (by kernel_rfl) (fun X => Sp.Runs.leIF rfl rfl (by first | rfl | assumption | omega)) ?_
                    refine Sp.T.pure (by kernel_rfl) (fun X => Sp.Runs.pickF rfl rfl) ?_
                    refine Sp.T.pure (by kernel_rfl) (fun X => Sp.Runs.move rfl) ?_
                    refine Sp.T.pure (by kernel_rfl) (fun X => Sp.Runs.move rfl) ?_
                    refine Sp.T.pure (by kernel_rfl) (fun X => Sp.Runs.indexAddr rfl rfl ((hui2 X.w X.b).1)) ?_
                    refine Sp.T.pure (by kernel_rfl) (fun X => Sp.Runs.load rfl ((hui2 X.w X.b).2)) ?_
                    refine Sp.T.pure (by kernel_rfl) (fun X => Sp.Runs.move rfl) ?_
                    refine Sp.T.pure (by kernel_rfl) (fun X => Sp.Runs.indexAddr rfl rfl ((hui2 X.w X.b).1)) ?_
                    refine Sp.T.pure (by kernel_rfl) (fun X => Sp.Runs.load rfl ((hui2 X.w X.b).2)) ?_
                    refine Sp.T.pure (by kernel_rfl) (fun X => Sp.Runs.mulI rfl rfl (Sp.wrapI (by omega) (by omega))) ?_
                    refine Sp.T.pure (by kernel_rfl) (fun X => Sp.Runs.move rfl) ?_
                    refine Sp.T.pure (by kernel_rfl) (fun X => Sp.Runs.indexAddr rfl rfl ((hui2 X.w X.b).1)) ?_
                    refine Sp.T.pure (by kernel_rfl) (fun X => Sp.Runs.load rfl ((hui2 X.w X.b).2)) ?_
                    refine Sp.T.pure (by kernel_rfl) (fun X => Sp.Runs.move rfl) ?_
                    refine Sp.T.pure (by kernel_rfl) (fun X => Sp.Runs.indexAddr rfl rfl ((hvi2 X.w X.b).1)) ?_
                    refine Sp.T.pure (by kernel_rfl) (fun X => Sp.Runs.load rfl ((hvi2 X.w X.b).2)) ?_
                    refine Sp.T.pure (by kernel_rfl) (fun X => Sp.Runs.mulI rfl rfl (Sp.wrapI (by omega) (by omega))) ?_
                    refine Sp.T.pure (by kernel_rfl) (fun X => Sp.Runs.subI rfl rfl (Sp.wrapI (by omega) (by omega))) ?_
                    refine Sp.T.pure (by kernel_rfl) (fun X => Sp.Runs.move rfl) ?_
                    refine Sp.T.pure (by kernel_rfl) (fun X => Sp.Runs.indexAddr rfl rfl ((hui2 X.w X.b).1)) ?_
                    refine Sp.T.pure (by kernel_rfl) (fun X => Sp.Runs.load rfl ((hui2 X.w X.b).2)) ?_
                    refine Sp.T.pure (by kernel_rfl) (fun X => Sp.Runs.move rfl) ?_
                    refine Sp.T.pure (by kernel_rfl) (fun X => Sp.Runs.indexAddr rfl rfl ((hvi2 X.w X.b).1)) ?_
                    refine Sp.T.pure (by kernel_rfl) (fun X => Sp.Runs.load rfl ((hvi2 X.w X.b).2)) ?_
                    refine Sp.T.pure (by kernel_rfl) (fun X => Sp.Runs.mulI rfl rfl (Sp.wrapI (by omega) (by omega))) ?_
                    refine Sp.T.pure (by kernel_rfl) (fun X => Sp.Runs.subI rfl rfl (Sp.wrapI (by omega) (by omega))) ?_
                    refine Sp.T.pure (by kernel_rfl) (fun X => Sp.Runs.mulI rfl rfl (Sp.wrapI (by omega) (by omega))) ?_
                    refine Sp.T.pure (by kernel_rfl) (fun X => Sp.Runs.subI rfl rfl (Sp.wrapI (by omega) (by omega))) ?_
                    refine Sp.T.pure (by kernel_rfl) (fun X => Sp.Runs.move rfl) ?_
                    refine Sp.T.pure (by kernel_rfl) (fun X => Sp.Runs.neIF rfl rfl (by first | rfl | assumption | omega)) ?_
                    refine Sp.T.pure (by kernel_rfl) (fun X => Sp.Runs.pickF rfl rfl) ?_
                    refine Sp.T.pure (by kernel_rfl) (fun X => Sp.Runs.move rfl) ?_
                    refine Sp.T.pure (by kernel_rfl) (fun X => Sp.Runs.move rfl) ?_
                    refine Sp.T.pure (by kernel_rfl) (fun X => Sp.Runs.gtIF rfl rfl (by omega)) ?_
                    refine Sp.T.pure (by kernel_rfl) (fun X => Sp.Runs.move rfl) ?_
                    refine Sp.T.skip (by kernel_rfl) ?_
                    refine Sp.T.skip (by kernel_rfl) ?_
                    refine Sp.T.skip (by kernel_rfl) ?_
                    refine Sp.T.skip (by kernel_rfl) ?_
                    refine Sp.T.skip (by kernel_rfl) ?_
                    refine Sp.T.skip (by kernel_rfl) ?_
                    refine Sp.T.skip (by kernel_rfl) ?_
                    refine Sp.T.skip (by kernel_rfl) ?_
                    refine Sp.T.skip (by kernel_rfl) ?_
                    refine Sp.T.skip (by kernel_rfl) ?_
                    refine Sp.T.skip (by kernel_rfl) ?_
                    refine Sp.T.pure (by kernel_rfl) (fun X => Sp.Runs.pickF rfl rfl) ?_
                    refine Sp.T.pure (by kernel_rfl) (fun X => Sp.Runs.pickF rfl rfl) ?_
                    refine Sp.T.nil fun w20 b => ?_
                    replace B0 := Lib.hid (B0.out.trans (b.mono B0.out.size))
                    replace B1 := Lib.hid (B1.out.trans (b.mono B1.out.size))
                    replace B2 := Lib.hid (B2.out.trans (b.mono B2.out.size))
                    replace B3 := Lib.hid (B3.out.trans (b.mono B3.out.size))
                    replace B4 := Lib.hid (B4.out.trans (b.mono B4.out.size))
                    replace HYa := Lib.hid (HYa.out.below b)
                    replace HYb := Lib.hid (HYb.out.below b)
                    replace Hr1i := Lib.hid (Hr1i.out.below b)
                    replace Hr2i := Lib.hid (Hr2i.out.below b)
                    replace Hr3i := Lib.hid (Hr3i.out.below b)
                    replace Hr4i := Lib.hid (Hr4i.out.below b)
                    replace HCR := Lib.hid (HCR.out.below b)
                    clear b
                    refine hK39 _ _ (Sp.Cd.sub (S' := [(1, _), (5, _), (6, _), (10, _), (14, _), (15, _), (20, _), (21, _), (26, _), (30, _), (37, _), (315, _), (316, _), (317, _), (386, _)]) ⟨rfl, rfl, rfl, rfl, rfl, rfl, rfl, rfl, rfl, rfl, rfl, rfl, rfl, rfl, rfl, trivial⟩ ?_)
                    clear hK39 K39
                    refine Sp.Cd.condF rfl ?_
                    refine Sp.Cd.skip ?_
                    refine Sp.Nx.post () ⟨rfl, rfl, rfl, rfl, rfl, rfl, rfl, rfl, rfl, rfl, rfl, rfl, rfl, rfl, trivial⟩ (B4.out)
                  · obtain ⟨bi2, hbi2⟩ : ∃ b : Nat, b + 1 = i2 := ⟨i2 - 1, by omega⟩
                    have hlbi2 : bi2 < lr2i := by omega
                    obtain ⟨XB, YB, hxyB, _⟩ := F.hol.each bi2 (by rw [← Lr2i.out]; exact hlbi2)
                    have hris := F.hol.rise i2 (by omega) (by rw [← Lr2i.out]; exact hlti2)
                    rw [show i2 - 1 = bi2 by omega, hxyB, hxyi2] at hris
                    obtain ⟨qB, dB, hcB, hpB⟩ := Sp.came_row Hr2i.out bi2 hlbi2
                    rw [hxyB] at hcB hpB
                    obtain ⟨pB, hqB⟩ := hpB cr2i .i64 ((i2 : Int) - 1) (by omega)
                    obtain ⟨uB, huB⟩ := Sp.came_idx (c := dB) (k := .i64) (n := (0 : Int)) hcB 0 (by show 0 < 2; omega) rfl
                    rw [show [(XB : Int), (YB : Int)].getD 0 0 = (XB : Int) from rfl] at huB
                    have hris2 : (XB : Int) < (Xi2 : Int) := hris
                    refine Sp.Cd.seq fun K40 hK40 => ?_
                    refine Sp.Cd.regionT (by kernel_rfl) (by kernel_rfl) ?_
                    refine Sp.T.pure (by kernel_rfl) (fun X => Sp.Runs.move rfl) ?_
                    refine Sp.T.pure (by kernel_rfl) (fun X => Sp.Runs.lenL Try.underlying30 rfl) ?_
                    refine Sp.T.pure (by kernel_rfl) (fun X => Sp.Runs.neIF rfl rfl (by first | rfl | assumption | omega)) ?_
                    refine Sp.T.pure (by kernel_rfl) (fun X => Sp.Runs.move rfl) ?_
                    refine Sp.T.pure (by kernel_rfl) (fun X => Sp.Runs.move rfl) ?_
                    refine Sp.T.pure (by kernel_rfl) (fun X => Sp.Runs.indexAddr rfl rfl ((hvi2 X.w X.b).1)) ?_
                    refine Sp.T.pure (by kernel_rfl) (fun X => Sp.Runs.load rfl ((hvi2 X.w X.b).2)) ?_
                    refine Sp.T.pure (by kernel_rfl) (fun X => Sp.Runs.ltIF rfl rfl (by first | rfl | assumption | omega)) ?_
                    refine Sp.T.pure (by kernel_rfl) (fun X => Sp.Runs.pickF rfl rfl) ?_
                    refine Sp.T.pure (by kernel_rfl) (fun X => Sp.Runs.move rfl) ?_
                    refine Sp.T.pure (by kernel_rfl) (fun X => Sp.Runs.move rfl) ?_
                    refine Sp.T.pure (by kernel_rfl) (fun X => Sp.Runs.indexAddr rfl rfl ((hui2 X.w X.b).1)) ?_
                    refine Sp.T.pure (by kernel_rfl) (fun X => Sp.Runs.load rfl ((hui2 X.w X.b).2)) ?_
                    refine Sp.T.pure (by kernel_rfl) (fun X => Sp.Runs.move rfl) ?_
                    refine Sp.T.pure (by kernel_rfl) (fun X => Sp.Runs.indexAddr rfl rfl ((hvi2 X.w X.b).1)) ?_
                    refine Sp.T.pure (by kernel_rfl) (fun X => Sp.Runs.load rfl ((hvi2 X.w X.b).2)) ?_
                    refine Sp.T.pure (by kernel_rfl) (fun X => Sp.Runs.mulI rfl rfl (Sp.wrapI (by omega) (by omega))) ?_
                    refine Sp.T.pure (by kernel_rfl) (fun X => Sp.Runs.leIF rfl rfl (by first | rfl | assumption | omega)) ?_
                    refine Sp.T.pure (by kernel_rfl) (fun X => Sp.Runs.pickF rfl rfl) ?_
                    refine Sp.T.pure (by kernel_rfl) (fun X => Sp.Runs.move rfl) ?_
                    refine Sp.T.pure (by kernel_rfl) (fun X => Sp.Runs.move rfl) ?_
                    refine Sp.T.pure (by kernel_rfl) (fun X => Sp.Runs.indexAddr rfl rfl ((hui2 X.w X.b).1)) ?_
                    refine Sp.T.pure (by kernel_rfl) (fun X => Sp.Runs.load rfl ((hui2 X.w X.b).2)) ?_
                    refine Sp.T.pure (by kernel_rfl) (fun X => Sp.Runs.move rfl) ?_
                    refine Sp.T.pure (by kernel_rfl) (fun X => Sp.Runs.indexAddr rfl rfl ((hui2 X.w X.b).1)) ?_
                    refine Sp.T.pure (by kernel_rfl) (fun X => Sp.Runs.load rfl ((hui2 X.w X.b).2)) ?_
                    refine Sp.T.pure (by kernel_rfl) (fun X => Sp.Runs.mulI rfl rfl (Sp.wrapI (by omega) (by omega))) ?_
                    refine Sp.T.pure (by kernel_rfl) (fun X => Sp.Runs.move rfl) ?_
                    refine Sp.T.pure (by kernel_rfl) (fun X => Sp.Runs.indexAddr rfl rfl ((hui2 X.w X.b).1)) ?_
                    refine Sp.T.pure (by kernel_rfl) (fun X => Sp.Runs.load rfl ((hui2 X.w X.b).2)) ?_
                    refine Sp.T.pure (by kernel_rfl) (fun X => Sp.Runs.move rfl) ?_
                    refine Sp.T.pure (by kernel_rfl) (fun X => Sp.Runs.indexAddr rfl rfl ((hvi2 X.w X.b).1)) ?_
                    refine Sp.T.pure (by kernel_rfl) (fun X => Sp.Runs.load rfl ((hvi2 X.w X.b).2)) ?_
                    refine Sp.T.pure (by kernel_rfl) (fun X => Sp.Runs.mulI rfl rfl (Sp.wrapI (by omega) (by omega))) ?_
                    refine Sp.T.pure (by kernel_rfl) (fun X => Sp.Runs.subI rfl rfl (Sp.wrapI (by omega) (by omega))) ?_
                    refine Sp.T.pure (by kernel_rfl) (fun X => Sp.Runs.move rfl) ?_
                    refine Sp.T.pure (by kernel_rfl) (fun X => Sp.Runs.indexAddr rfl rfl ((hui2 X.w X.b).1)) ?_
                    refine Sp.T.pure (by kernel_rfl) (fun X => Sp.Runs.load rfl ((hui2 X.w X.b).2)) ?_
                    refine Sp.T.pure (by kernel_rfl) (fun X => Sp.Runs.move rfl) ?_
                    refine Sp.T.pure (by kernel_rfl) (fun X => Sp.Runs.indexAddr rfl rfl ((hvi2 X.w X.b).1)) ?_
                    refine Sp.T.pure (by kernel_rfl) (fun X => Sp.Runs.load rfl ((hvi2 X.w X.b).2)) ?_
                    refine Sp.T.pure (by kernel_rfl) (fun X => Sp.Runs.mulI rfl rfl (Sp.wrapI (by omega) (by omega))) ?_
                    refine Sp.T.pure (by kernel_rfl) (fun X => Sp.Runs.subI rfl rfl (Sp.wrapI (by omega) (by omega))) ?_
                    refine Sp.T.pure (by kernel_rfl) (fun X => Sp.Runs.mulI rfl rfl (Sp.wrapI (by omega) (by omega))) ?_
                    refine Sp.T.pure (by kernel_rfl) (fun X => Sp.Runs.subI rfl rfl (Sp.wrapI (by omega) (by omega))) ?_
                    refine Sp.T.pure (by kernel_rfl) (fun X => Sp.Runs.move rfl) ?_
                    refine Sp.T.pure (by kernel_rfl) (fun X => Sp.Runs.neIF rfl rfl (by first | rfl | assumption | omega)) ?_
                    refine Sp.T.pure (by kernel_rfl) (fun X => Sp.Runs.pickF rfl rfl) ?_
                    refine Sp.T.pure (by kernel_rfl) (fun X => Sp.Runs.move rfl) ?_
                    refine Sp.T.pure (by kernel_rfl) (fun X => Sp.Runs.move rfl) ?_
                    refine Sp.T.pure (by kernel_rfl) (fun X => Sp.Runs.gtIT rfl rfl (by omega)) ?_
                    refine Sp.T.pure (by kernel_rfl) (fun X => Sp.Runs.move rfl) ?_
                    refine Sp.T.pure (by kernel_rfl) (fun X => Sp.Runs.move rfl) ?_
                    refine Sp.T.pure (by kernel_rfl) (fun X => Sp.Runs.move rfl) ?_
                    refine Sp.T.pure (by kernel_rfl) (fun X => Sp.Runs.subI rfl rfl (Sp.wrapI (by omega) (by omega))) ?_
                    refine Sp.T.pure (by kernel_rfl) (fun X => Sp.Runs.indexAddr rfl rfl ((hqB X.w X.b).1)) ?_
                    refine Sp.T.pure (by kernel_rfl) (fun X => Sp.Runs.load rfl ((hqB X.w X.b).2)) ?_
                    refine Sp.T.pure (by kernel_rfl) (fun X => Sp.Runs.indexAddr rfl rfl ((huB X.w X.b).1)) ?_
                    refine Sp.T.pure (by kernel_rfl) (fun X => Sp.Runs.load rfl ((huB X.w X.b).2)) ?_
                    refine Sp.T.pure (by kernel_rfl) (fun X => Sp.Runs.move rfl) ?_
                    refine Sp.T.pure (by kernel_rfl) (fun X => Sp.Runs.indexAddr rfl rfl ((hui2 X.w X.b).1)) ?_
                    refine Sp.T.pure (by kernel_rfl) (fun X => Sp.Runs.load rfl ((hui2 X.w X.b).2)) ?_
                    refine Sp.T.pure (by kernel_rfl) (fun X => Sp.Runs.geIF rfl rfl (by first | rfl | assumption | omega)) ?_
                    refine Sp.T.pure (by kernel_rfl) (fun X => Sp.Runs.pickT rfl rfl) ?_
                    refine Sp.T.pure (by kernel_rfl) (fun X => Sp.Runs.pickF rfl rfl) ?_
                    refine Sp.T.nil fun w20 b => ?_
                    replace B0 := Lib.hid (B0.out.trans (b.mono B0.out.size))
                    replace B1 := Lib.hid (B1.out.trans (b.mono B1.out.size))
                    replace B2 := Lib.hid (B2.out.trans (b.mono B2.out.size))
                    replace B3 := Lib.hid (B3.out.trans (b.mono B3.out.size))
                    replace B4 := Lib.hid (B4.out.trans (b.mono B4.out.size))
                    replace HYa := Lib.hid (HYa.out.below b)
                    replace HYb := Lib.hid (HYb.out.below b)
                    replace Hr1i := Lib.hid (Hr1i.out.below b)
                    replace Hr2i := Lib.hid (Hr2i.out.below b)
                    replace Hr3i := Lib.hid (Hr3i.out.below b)
                    replace Hr4i := Lib.hid (Hr4i.out.below b)
                    replace HCR := Lib.hid (HCR.out.below b)
                    clear b
                    refine hK40 _ _ (Sp.Cd.sub (S' := [(1, _), (5, _), (6, _), (10, _), (14, _), (15, _), (20, _), (21, _), (26, _), (30, _), (37, _), (315, _), (316, _), (317, _), (386, _)]) ⟨rfl, rfl, rfl, rfl, rfl, rfl, rfl, rfl, rfl, rfl, rfl, rfl, rfl, rfl, rfl, trivial⟩ ?_)
                    clear hK40 K40
                    refine Sp.Cd.condF rfl ?_
                    refine Sp.Cd.skip ?_
                    refine Sp.Nx.post () ⟨rfl, rfl, rfl, rfl, rfl, rfl, rfl, rfl, rfl, rfl, rfl, rfl, rfl, rfl, trivial⟩ (B4.out)
                · intro w20 b
                  replace B0 := Lib.hid (B0.out.trans (b.mono B0.out.size))
                  replace B1 := Lib.hid (B1.out.trans (b.mono B1.out.size))
                  replace B2 := Lib.hid (B2.out.trans (b.mono B2.out.size))
                  replace B3 := Lib.hid (B3.out.trans (b.mono B3.out.size))
                  replace HYa := Lib.hid (HYa.out.below b)
                  replace HYb := Lib.hid (HYb.out.below b)
                  replace Hr1i := Lib.hid (Hr1i.out.below b)
                  replace Hr2i := Lib.hid (Hr2i.out.below b)
                  replace Hr3i := Lib.hid (Hr3i.out.below b)
                  replace Hr4i := Lib.hid (Hr4i.out.below b)
                  replace HCR := Lib.hid (HCR.out.below b)
                  clear b
                  refine Sp.Nx.post () ⟨rfl, rfl, rfl, rfl, rfl, rfl, rfl, rfl, rfl, rfl, rfl, rfl, rfl, rfl, trivial⟩ (B3.out)
            · intro w20 b
              replace B0 := Lib.hid (B0.out.trans (b.mono B0.out.size))
              replace B1 := Lib.hid (B1.out.trans (b.mono B1.out.size))
              replace B2 := Lib.hid (B2.out.trans (b.mono B2.out.size))
              replace HYa := Lib.hid (HYa.out.below b)
              replace HYb := Lib.hid (HYb.out.below b)
              replace Hr1i := Lib.hid (Hr1i.out.below b)
              replace Hr2i := Lib.hid (Hr2i.out.below b)
              replace Hr3i := Lib.hid (Hr3i.out.below b)
              replace Hr4i := Lib.hid (Hr4i.out.below b)
              replace HCR := Lib.hid (HCR.out.below b)
              clear b
              refine Sp.Cd.seq fun K41 hK41 => ?_
              obtain ⟨v9, hv9⟩ := Sp.came_idx (c := di2) (k := .i64) (n := (1 : Int)) HCR.out 1 (by show 1 < 2; omega) rfl
              rw [show [(Xi2 : Int), (Yi2 : Int)].getD 1 0 = (Yi2 : Int) from rfl] at hv9
              have wy2 : (Lit.int .i64 (Yi2 : Int)).wf = true := WalkArith.wf_i64 ⟨by omega, by omega⟩
              obtain ⟨gb, hgb⟩ : ∃ z, z = outGreatestHollow_2 n (Yi2 : Int) := ⟨_, rfl⟩
              obtain ⟨g0, hg0⟩ : ∃ z, z = outGreatestHollow_0 n (Yi2 : Int) := ⟨_, rfl⟩
              obtain ⟨g1, hg1⟩ : ∃ z, z = outGreatestHollow_1 n (Yi2 : Int) := ⟨_, rfl⟩
              rw [← hgb, ← hg0, ← hg1] at c5
              refine Sp.Cd.region ?_
              refine Sp.L.pure (by kernel_rfl) (Sp.Runs.move rfl) ?_
              refine Sp.L.pure (by kernel_rfl) (Sp.Runs.move rfl) ?_
              refine Sp.L.pure (by kernel_rfl) (Sp.Runs.indexAddr rfl rfl ((hv9 w20 (Below.refl _ _)).1)) ?_
              refine Sp.L.pure (by kernel_rfl) (Sp.Runs.load rfl ((hv9 w20 (Below.refl _ _)).2)) ?_
              have CC := implGreatestHollow_any w20 n (Yi2 : Int) wn wy2
              rw [← hgb, ← hg0, ← hg1] at CC
              refine Sp.L.call (by kernel_rfl) (CC) rfl rfl (by kernel_rfl) ?_
              clear CC
              rintro e w21 ⟨rfl, b⟩
              replace B0 := Lib.hid (B0.out.trans (b.mono B0.out.size))
              replace B1 := Lib.hid (B1.out.trans (b.mono B1.out.size))
              replace B2 := Lib.hid (B2.out.trans (b.mono B2.out.size))
              replace HYa := Lib.hid (HYa.out.below b)
              replace HYb := Lib.hid (HYb.out.below b)
              replace Hr1i := Lib.hid (Hr1i.out.below b)
              replace Hr2i := Lib.hid (Hr2i.out.below b)
              replace Hr3i := Lib.hid (Hr3i.out.below b)
              replace Hr4i := Lib.hid (Hr4i.out.below b)
              replace HCR := Lib.hid (HCR.out.below b)
              clear b
              refine ⟨_, rfl, ?_⟩
              refine Sp.L.pure (by kernel_rfl) (Sp.Runs.move rfl) ?_
              refine Sp.L.pure (by kernel_rfl) (Sp.Runs.extract rfl rfl) ?_
              refine Sp.L.pure (by kernel_rfl) (Sp.Runs.extract rfl rfl) ?_
              refine Sp.L.pure (by kernel_rfl) (Sp.Runs.extract rfl rfl) ?_
              refine Sp.L.pure (by kernel_rfl) (Sp.Runs.assign rfl) ?_
              refine Sp.L.pure (by kernel_rfl) (Sp.Runs.assign rfl) ?_
              refine Sp.L.pure (by kernel_rfl) (Sp.Runs.assign rfl) ?_
              refine Sp.L.nil ?_
              refine hK41 _ _ (Sp.Cd.sub (S' := [(1, _), (5, _), (6, _), (10, _), (14, _), (15, _), (20, _), (21, _), (26, _), (30, _), (37, _), (38, _), (39, _), (40, _), (315, _), (316, _), (317, _)]) ⟨rfl, rfl, rfl, rfl, rfl, rfl, rfl, rfl, rfl, rfl, rfl, rfl, rfl, rfl, rfl, rfl, rfl, trivial⟩ ?_)
              clear hK41 K41
              refine Sp.Cd.viaK [(1, _), (5, _), (6, _), (10, _), (14, _), (15, _), (20, _), (21, _), (26, _), (30, _), (315, _), (316, _), (317, _)] ⟨rfl, rfl, rfl, rfl, rfl, rfl, rfl, rfl, rfl, rfl, rfl, rfl, rfl, trivial⟩ ?_ ?_
              · have B3 : Hid (Below w21.heap.size w21 w21) := Lib.hid (Below.refl _ _)
                by_cases h1k : Yi2 ≤ 1000
                · obtain ⟨c6, c7, c8⟩ := c5 h1k
                  subst c6
                  obtain ⟨v8, hv8⟩ := Sp.came_idx (c := di2) (k := .i64) (n := (1 : Int)) HCR.out 1 (by show 1 < 2; omega) rfl
                  rw [show [(Xi2 : Int), (Yi2 : Int)].getD 1 0 = (Yi2 : Int) from rfl] at hv8
                  obtain ⟨v7, hv7⟩ := Sp.came_idx (c := di2) (k := .i64) (n := (0 : Int)) HCR.out 0 (by show 0 < 2; omega) rfl
                  rw [show [(Xi2 : Int), (Yi2 : Int)].getD 0 0 = (Xi2 : Int) from rfl] at hv7
                  refine Sp.Cd.seq fun K42 hK42 => ?_
                  refine Sp.Cd.region ?_
                  refine Sp.L.pure (by kernel_rfl) (Sp.Runs.move rfl) ?_
                  refine Sp.L.pure (by kernel_rfl) (Sp.Runs.indexAddr rfl rfl ((hv8 w21 (Below.refl _ _)).1)) ?_
                  refine Sp.L.pure (by kernel_rfl) (Sp.Runs.load rfl ((hv8 w21 (Below.refl _ _)).2)) ?_
                  refine Sp.L.pure (by kernel_rfl) (Sp.Runs.leIT rfl rfl (by omega)) ?_
                  refine Sp.L.pure (by kernel_rfl) (Sp.Runs.move rfl) ?_
                  refine Sp.L.pure (by kernel_rfl) (Sp.Runs.move rfl) ?_
                  refine Sp.L.pure (by kernel_rfl) (Sp.Runs.notF rfl) ?_
                  refine Sp.L.pure (by kernel_rfl) (Sp.Runs.move rfl) ?_
                  refine Sp.L.pure (by kernel_rfl) (Sp.Runs.move rfl) ?_
                  refine Sp.L.pure (by kernel_rfl) (Sp.Runs.move rfl) ?_
                  refine Sp.L.pure (by kernel_rfl) (Sp.Runs.indexAddr rfl rfl ((hv7 w21 (Below.refl _ _)).1)) ?_
                  refine Sp.L.pure (by kernel_rfl) (Sp.Runs.load rfl ((hv7 w21 (Below.refl _ _)).2)) ?_
                  refine Sp.L.pure (by kernel_rfl) (Sp.Runs.neIF rfl rfl (by first | rfl | assumption | omega)) ?_
                  refine Sp.L.pure (by kernel_rfl) (Sp.Runs.pickF rfl rfl) ?_
                  refine Sp.L.pure (by kernel_rfl) (Sp.Runs.move rfl) ?_
                  refine Sp.L.pure (by kernel_rfl) (Sp.Runs.move rfl) ?_
                  refine Sp.L.pure (by kernel_rfl) (Sp.Runs.neIF rfl rfl (by first | rfl | assumption | omega)) ?_
                  refine Sp.L.pure (by kernel_rfl) (Sp.Runs.pickF rfl rfl) ?_
                  refine Sp.L.pure (by kernel_rfl) (Sp.Runs.pickT rfl rfl) ?_
                  refine Sp.L.nil ?_
                  refine hK42 _ _ (Sp.Cd.sub (S' := [(1, _), (5, _), (6, _), (10, _), (14, _), (15, _), (20, _), (21, _), (26, _), (30, _), (315, _), (316, _), (317, _), (414, _)]) ⟨rfl, rfl, rfl, rfl, rfl, rfl, rfl, rfl, rfl, rfl, rfl, rfl, rfl, rfl, trivial⟩ ?_)
                  clear hK42 K42
                  refine Sp.Cd.condF rfl ?_
                  refine Sp.Cd.skip ?_
                  refine Sp.Nx.post () ⟨rfl, rfl, rfl, rfl, rfl, rfl, rfl, rfl, rfl, rfl, rfl, rfl, rfl, trivial⟩ (B3.out)
                · obtain ⟨v8, hv8⟩ := Sp.came_idx (c := di2) (k := .i64) (n := (1 : Int)) HCR.out 1 (by show 1 < 2; omega) rfl
                  rw [show [(Xi2 : Int), (Yi2 : Int)].getD 1 0 = (Yi2 : Int) from rfl] at hv8
                  refine Sp.Cd.seq fun K43 hK43 => ?_
                  refine Sp.Cd.region ?_
                  refine Sp.L.pure (by kernel_rfl) (Sp.Runs.move rfl) ?_
                  refine Sp.L.pure (by kernel_rfl) (Sp.Runs.indexAddr rfl rfl ((hv8 w21 (Below.refl _ _)).1)) ?_
                  refine Sp.L.pure (by kernel_rfl) (Sp.Runs.load rfl ((hv8 w21 (Below.refl _ _)).2)) ?_
                  refine Sp.L.pure (by kernel_rfl) (Sp.Runs.leIF rfl rfl (by omega)) ?_
                  refine Sp.L.pure (by kernel_rfl) (Sp.Runs.move rfl) ?_
                  refine Sp.L.skip (by kernel_rfl) ?_
                  refine Sp.L.skip (by kernel_rfl) ?_
                  refine Sp.L.skip (by kernel_rfl) ?_
                  refine Sp.L.skip (by kernel_rfl) ?_
                  refine Sp.L.skip (by kernel_rfl) ?_
                  refine Sp.L.skip (by kernel_rfl) ?_
                  refine Sp.L.skip (by kernel_rfl) ?_
                  refine Sp.L.skip (by kernel_rfl) ?_
                  refine Sp.L.skip (by kernel_rfl) ?_
                  refine Sp.L.skip (by kernel_rfl) ?_
                  refine Sp.L.skip (by kernel_rfl) ?_
                  refine Sp.L.skip (by kernel_rfl) ?_
                  refine Sp.L.skip (by kernel_rfl) ?_
                  refine Sp.L.pure (by kernel_rfl) (Sp.Runs.pickF rfl rfl) ?_
                  refine Sp.L.nil ?_
                  refine hK43 _ _ (Sp.Cd.sub (S' := [(1, _), (5, _), (6, _), (10, _), (14, _), (15, _), (20, _), (21, _), (26, _), (30, _), (315, _), (316, _), (317, _), (414, _)]) ⟨rfl, rfl, rfl, rfl, rfl, rfl, rfl, rfl, rfl, rfl, rfl, rfl, rfl, rfl, trivial⟩ ?_)
                  clear hK43 K43
                  refine Sp.Cd.condF rfl ?_
                  refine Sp.Cd.skip ?_
                  refine Sp.Nx.post () ⟨rfl, rfl, rfl, rfl, rfl, rfl, rfl, rfl, rfl, rfl, rfl, rfl, rfl, trivial⟩ (B3.out)
              · intro w22 b
                replace B0 := Lib.hid (B0.out.trans (b.mono B0.out.size))
                replace B1 := Lib.hid (B1.out.trans (b.mono B1.out.size))
                replace B2 := Lib.hid (B2.out.trans (b.mono B2.out.size))
                replace HYa := Lib.hid (HYa.out.below b)
                replace HYb := Lib.hid (HYb.out.below b)
                replace Hr1i := Lib.hid (Hr1i.out.below b)
                replace Hr2i := Lib.hid (Hr2i.out.below b)
                replace Hr3i := Lib.hid (Hr3i.out.below b)
                replace Hr4i := Lib.hid (Hr4i.out.below b)
                replace HCR := Lib.hid (HCR.out.below b)
                clear b
                refine Sp.Nx.block ?_
                refine hK35 _ _ (Sp.Cd.sub (S' := [(1, _), (5, _), (6, _), (10, _), (14, _), (15, _), (20, _), (21, _), (26, _), (30, _), (315, _), (316, _), (317, _)]) ⟨rfl, rfl, rfl, rfl, rfl, rfl, rfl, rfl, rfl, rfl, rfl, rfl, rfl, trivial⟩ ?_)
                clear hK35 K35
                refine Sp.Cd.region ?_
                refine Sp.L.pure (by kernel_rfl) (Sp.Runs.addI rfl rfl (Sp.wrapI (by omega) (by omega))) ?_
                refine Sp.L.pure (by kernel_rfl) (Sp.Runs.move rfl) ?_
                refine Sp.L.nil ?_
                refine Sp.Nx.again (i2 + 1) ⟨(Sp.lkI rfl (by omega)), rfl, rfl, rfl, rfl, rfl, rfl, rfl, rfl, rfl, rfl, rfl, rfl, trivial⟩ ⟨B2, hlti2⟩ (by omega)
          · refine Sp.Cd.seq fun K44 hK44 => ?_
            refine Sp.Cd.region ?_
            refine Sp.L.pure (by kernel_rfl) (Sp.Runs.ltIF rfl rfl (by omega)) ?_
            refine Sp.L.nil ?_
            refine hK44 _ _ (Sp.Cd.sub (S' := [(1, _), (5, _), (6, _), (10, _), (14, _), (15, _), (20, _), (21, _), (26, _), (30, _), (315, _), (316, _), (317, _), (318, _)]) ⟨rfl, rfl, rfl, rfl, rfl, rfl, rfl, rfl, rfl, rfl, rfl, rfl, rfl, rfl, trivial⟩ ?_)
            clear hK44 K44
            refine Sp.Cd.seq fun K45 hK45 => ?_
            refine Sp.Cd.condF rfl ?_
            refine Sp.Cd.exit ?_
            refine Sp.Ex.then ?_
            clear hK45 K45
            refine Sp.Ex.then ?_
            clear B2
            refine Sp.Ex.hit ?_
            refine hK31 _ _ (Sp.Cd.sub (S' := [(1, _), (5, _), (6, _), (14, _), (15, _), (20, _), (21, _), (26, _), (30, _)]) ⟨rfl, rfl, rfl, rfl, rfl, rfl, rfl, rfl, rfl, trivial⟩ ?_)
            clear hK31 K31
            refine Sp.Cd.seq fun K46 hK46 => ?_
            refine Sp.Cd.seq fun K47 hK47 => ?_
            refine Sp.Cd.region ?_
            refine Sp.L.pure (by kernel_rfl) (Sp.Runs.move rfl) ?_
            refine Sp.L.pure (by kernel_rfl) (Sp.Runs.lenL Try.underlying25 rfl) ?_
            refine Sp.L.pure (by kernel_rfl) (Sp.Runs.move rfl) ?_
            refine Sp.L.nil ?_
            refine hK47 _ _ (Sp.Cd.sub (S' := [(1, _), (5, _), (6, _), (14, _), (15, _), (20, _), (21, _), (26, _), (30, _), (416, _), (417, _), (418, _)]) ⟨rfl, rfl, rfl, rfl, rfl, rfl, rfl, rfl, rfl, rfl, rfl, rfl, trivial⟩ ?_)
            clear hK47 K47
            refine Sp.Cd.block ?_
            have B2 : Hid (Below w19.heap.size w19 w19) := Lib.hid (Below.refl _ _)
            refine Sp.Cd.loop (ι := Nat) [(1, _), (5, _), (6, _), (14, _), (15, _), (20, _), (21, _), (26, _), (30, _), (416, _), (417, _)] (fun i3 => [(418, .int .i64 (i3 : Nat))]) (fun i3 w' => Hid (Below w19.heap.size w19 w') ∧ (i3 ≤ lr3i)) (fun i3 => lr3i - i3) 0 ⟨rfl, rfl, rfl, rfl, rfl, rfl, rfl, rfl, rfl, rfl, rfl, rfl, trivial⟩ ⟨B2, Nat.zero_le _⟩ ?_
            clear B2
            rintro i3 w20 ⟨B2, hrel⟩
            have b := B2.out
            replace B0 := Lib.hid (B0.out.trans (b.mono B0.out.size))
            replace B1 := Lib.hid (B1.out.trans (b.mono B1.out.size))
            replace HYa := Lib.hid (HYa.out.below b)
            replace HYb := Lib.hid (HYb.out.below b)
            replace Hr1i := Lib.hid (Hr1i.out.below b)
            replace Hr2i := Lib.hid (Hr2i.out.below b)
            replace Hr3i := Lib.hid (Hr3i.out.below b)
            replace Hr4i := Lib.hid (Hr4i.out.below b)
            clear b
            refine Sp.Cd.sub (S' := [(418, _), (1, _), (5, _), (6, _), (14, _), (15, _), (20, _), (21, _), (26, _), (30, _), (416, _), (417, _)]) ⟨rfl, rfl, rfl, rfl, rfl, rfl, rfl, rfl, rfl, rfl, rfl, rfl, trivial⟩ ?_
            by_cases hlti3 : i3 < lr3i
            · obtain ⟨Xi3, Yi3, hxyi3, c1, c2, c3, c4⟩ := F.two.each i3 (by rw [← Lr3i.out]; exact hlti3)
              obtain ⟨qi3, di3, hci3, hpi3⟩ := Sp.came_row Hr3i.out i3 hlti3
              rw [hxyi3] at hci3 hpi3
              obtain ⟨pi3, hqi3⟩ := hpi3 cr3i .i64 (i3 : Int) rfl
              obtain ⟨ui3, hui3⟩ := Sp.came_idx (c := di3) (k := .i64) (n := (0 : Int)) hci3 0 (by show 0 < 2; omega) rfl
              obtain ⟨vi3, hvi3⟩ := Sp.came_idx (c := di3) (k := .i64) (n := (1 : Int)) hci3 1 (by show 1 < 2; omega) rfl
              rw [show [(Xi3 : Int), (Yi3 : Int)].getD 0 0 = (Xi3 : Int) from rfl] at hui3
              rw [show [(Xi3 : Int), (Yi3 : Int)].getD 1 0 = (Yi3 : Int) from rfl] at hvi3
              have hleni3 : (([(Xi3 : Int), (Yi3 : Int)].length : Nat) : Int) = 2 := rfl
              have pr1 := Sp.mulbd (a := (Xi3 : Int)) (b := (Xi3 : Int)) (A := 1000) (B := 1000) (by omega) (by omega) (by omega) (by omega)
              have pr2 := Sp.mulbd (a := (Yi3 : Int)) (b := (Yi3 : Int)) (A := 1000) (B := 1000) (by omega) (by omega) (by omega) (by omega)
              refine Sp.Cd.seq fun K48 hK48 => ?_
              refine Sp.Cd.region ?_
              refine Sp.L.pure (by kernel_rfl) (Sp.Runs.ltIT rfl rfl (by omega)) ?_
              refine Sp.L.nil ?_
              refine hK48 _ _ (Sp.Cd.sub (S' := [(1, _), (5, _), (6, _), (14, _), (15, _), (20, _), (21, _), (26, _), (30, _), (416, _), (417, _), (418, _), (419, _)]) ⟨rfl, rfl, rfl, rfl, rfl, rfl, rfl, rfl, rfl, rfl, rfl, rfl, rfl, trivial⟩ ?_)
              clear hK48 K48
              refine Sp.Cd.seq fun K49 hK49 => ?_
              refine Sp.Cd.condT rfl ?_
              refine Sp.Cd.skip ?_
              refine hK49 _ _ (Sp.Cd.sub (S' := [(1, _), (5, _), (6, _), (14, _), (15, _), (20, _), (21, _), (26, _), (30, _), (416, _), (417, _), (418, _)]) ⟨rfl, rfl, rfl, rfl, rfl, rfl, rfl, rfl, rfl, rfl, rfl, rfl, trivial⟩ ?_)
              clear hK49 K49
              refine Sp.Cd.seq fun K50 hK50 => ?_
              refine Sp.Cd.block ?_
              refine Sp.Cd.seq fun K51 hK51 => ?_
              refine Sp.Cd.region ?_
              refine Sp.L.pure (by kernel_rfl) (Sp.Runs.move rfl) ?_
              refine Sp.L.pure (by kernel_rfl) (Sp.Runs.indexAddr rfl rfl ((hqi3 w20 (Below.refl _ _)).1)) ?_
              refine Sp.L.pure (by kernel_rfl) (Sp.Runs.load rfl ((hqi3 w20 (Below.refl _ _)).2)) ?_
              refine Sp.L.pure (by kernel_rfl) (Sp.Runs.assign rfl) ?_
              refine Sp.L.pure (by kernel_rfl) (Sp.Runs.assign rfl) ?_
              refine Sp.L.nil ?_
              refine hK51 _ _ (Sp.Cd.sub (S' := [(1, _), (5, _), (6, _), (14, _), (15, _), (20, _), (21, _), (26, _), (30, _), (41, _), (42, _), (416, _), (417, _), (418, _)]) ⟨rfl, rfl, rfl, rfl, rfl, rfl, rfl, rfl, rfl, rfl, rfl, rfl, rfl, rfl, trivial⟩ ?_)
              clear hK51 K51
              refine Sp.Cd.viaK [(1, _), (5, _), (6, _), (14, _), (15, _), (20, _), (21, _), (26, _), (30, _), (416, _), (417, _), (418, _)] ⟨rfl, rfl, rfl, rfl, rfl, rfl, rfl, rfl, rfl, rfl, rfl, rfl, trivial⟩ ?_ ?_
              · have B3 : Hid (Below w20.heap.size w20 w20) := Lib.hid (Below.refl _ _)
                by_cases h0 : i3 = 0
                · refine Sp.Cd.seq fun K52 hK52 => ?_
                  refine Sp.Cd.regionT (by kernel_rfl) (by kernel_rfl) ?_
                  refine Sp.T.pure (by kernel_rfl) (fun X => Sp.Runs.move rfl) ?_
                  refine Sp.T.pure (by kernel_rfl) (fun X => Sp.Runs.lenL Try.underlying30 rfl) ?_
                  refine Sp.T.pure (by kernel_rfl) (fun X => Sp.Runs.neIF rfl rfl (by first | rfl | assumption | omega)) ?_
                  refine Sp.T.pure (by kernel_rfl) (fun X => Sp.Runs.move rfl) ?_
                  refine Sp.T.pure (by kernel_rfl) (fun X => Sp.Runs.move rfl) ?_
                  refine Sp.T.pure (by kernel_rfl) (fun X => Sp.Runs.indexAddr rfl rfl ((hui3 X.w X.b).1)) ?_
                  refine Sp.T.pure (by kernel_rfl) (fun X => Sp.Runs.load rfl ((hui3 X.w X.b).2)) ?_
                  refine Sp.T.pure (by kernel_rfl) (fun X => Sp.Runs.ltIF rfl rfl (by first | rfl | assumption | omega)) ?_
                  refine Sp.T.pure (by kernel_rfl) (fun X => Sp.Runs.pickF rfl rfl) ?_
                  refine Sp.T.pure (by kernel_rfl) (fun X => Sp.Runs.move rfl) ?_
                  refine Sp.T.pure (by kernel_rfl) (fun X => Sp.Runs.move rfl) ?_
                  refine Sp.T.pure (by kernel_rfl) (fun X => Sp.Runs.indexAddr rfl rfl ((hui3 X.w X.b).1)) ?_
                  refine Sp.T.pure (by kernel_rfl) (fun X => Sp.Runs.load rfl ((hui3 X.w X.b).2)) ?_
                  refine Sp.T.pure (by kernel_rfl) (fun X => Sp.Runs.move rfl) ?_
                  refine Sp.T.pure (by kernel_rfl) (fun X => Sp.Runs.indexAddr rfl rfl ((hvi3 X.w X.b).1)) ?_
                  refine Sp.T.pure (by kernel_rfl) (fun X => Sp.Runs.load rfl ((hvi3 X.w X.b).2)) ?_
                  refine Sp.T.pure (by kernel_rfl) (fun X => Sp.Runs.gtIF rfl rfl (by first | rfl | assumption | omega)) ?_
                  refine Sp.T.pure (by kernel_rfl) (fun X => Sp.Runs.pickF rfl rfl) ?_
                  refine Sp.T.pure (by kernel_rfl) (fun X => Sp.Runs.move rfl) ?_
                  refine Sp.T.pure (by kernel_rfl) (fun X => Sp.Runs.move rfl) ?_
                  refine Sp.T.pure (by kernel_rfl) (fun X => Sp.Runs.indexAddr rfl rfl ((hui3 X.w X.b).1)) ?_
                  refine Sp.T.pure (by kernel_rfl) (fun X => Sp.Runs.load rfl ((hui3 X.w X.b).2)) ?_
                  refine Sp.T.pure (by kernel_rfl) (fun X => Sp.Runs.move rfl) ?_
                  refine Sp.T.pure (by kernel_rfl) (fun X => Sp.Runs.indexAddr rfl rfl ((hui3 X.w X.b).1)) ?_
                  refine Sp.T.pure (by kernel_rfl) (fun X => Sp.Runs.load rfl ((hui3 X.w X.b).2)) ?_
                  refine Sp.T.pure (by kernel_rfl) (fun X => Sp.Runs.mulI rfl rfl (Sp.wrapI (by omega) (by omega))) ?_
                  refine Sp.T.pure (by kernel_rfl) (fun X => Sp.Runs.move rfl) ?_
                  refine Sp.T.pure (by kernel_rfl) (fun X => Sp.Runs.indexAddr rfl rfl ((hvi3 X.w X.b).1)) ?_
                  refine Sp.T.pure (by kernel_rfl) (fun X => Sp.Runs.load rfl ((hvi3 X.w X.b).2)) ?_
                  refine Sp.T.pure (by kernel_rfl) (fun X => Sp.Runs.move rfl) ?_
                  refine Sp.T.pure (by kernel_rfl) (fun X => Sp.Runs.indexAddr rfl rfl ((hvi3 X.w X.b).1)) ?_
                  refine Sp.T.pure (by kernel_rfl) (fun X => Sp.Runs.load rfl ((hvi3 X.w X.b).2)) ?_
                  refine Sp.T.pure (by kernel_rfl) (fun X => Sp.Runs.mulI rfl rfl (Sp.wrapI (by omega) (by omega))) ?_
                  refine Sp.T.pure (by kernel_rfl) (fun X => Sp.Runs.addI rfl rfl (Sp.wrapI (by omega) (by omega))) ?_
                  refine Sp.T.pure (by kernel_rfl) (fun X => Sp.Runs.move rfl) ?_
                  refine Sp.T.pure (by kernel_rfl) (fun X => Sp.Runs.neIF rfl rfl (by first | rfl | assumption | omega)) ?_
                  refine Sp.T.pure (by kernel_rfl) (fun X => Sp.Runs.pickF rfl rfl) ?_
                  refine Sp.T.pure (by kernel_rfl) (fun X => Sp.Runs.move rfl) ?_
                  refine Sp.T.pure (by kernel_rfl) (fun X => Sp.Runs.move rfl) ?_
                  refine Sp.T.pure (by kernel_rfl) (fun X => Sp.Runs.gtIF rfl rfl (by omega)) ?_
                  refine Sp.T.pure (by kernel_rfl) (fun X => Sp.Runs.move rfl) ?_
                  refine Sp.T.skip (by kernel_rfl) ?_
                  refine Sp.T.skip (by kernel_rfl) ?_
                  refine Sp.T.skip (by kernel_rfl) ?_
                  refine Sp.T.skip (by kernel_rfl) ?_
                  refine Sp.T.skip (by kernel_rfl) ?_
                  refine Sp.T.skip (by kernel_rfl) ?_
                  refine Sp.T.skip (by kernel_rfl) ?_
                  refine Sp.T.skip (by kernel_rfl) ?_
                  refine Sp.T.skip (by kernel_rfl) ?_
                  refine Sp.T.skip (by kernel_rfl) ?_
                  refine Sp.T.skip (by kernel_rfl) ?_
                  refine Sp.T.pure (by kernel_rfl) (fun X => Sp.Runs.pickF rfl rfl) ?_
                  refine Sp.T.pure (by kernel_rfl) (fun X => Sp.Runs.pickF rfl rfl) ?_
                  refine Sp.T.nil fun w21 b => ?_
                  replace B0 := Lib.hid (B0.out.trans (b.mono B0.out.size))
                  replace B1 := Lib.hid (B1.out.trans (b.mono B1.out.size))
                  replace B2 := Lib.hid (B2.out.trans (b.mono B2.out.size))
                  replace B3 := Lib.hid (B3.out.trans (b.mono B3.out.size))
                  replace HYa := Lib.hid (HYa.out.below b)
                  replace HYb := Lib.hid (HYb.out.below b)
                  replace Hr1i := Lib.hid (Hr1i.out.below b)
                  replace Hr2i := Lib.hid (Hr2i.out.below b)
                  replace Hr3i := Lib.hid (Hr3i.out.below b)
                  replace Hr4i := Lib.hid (Hr4i.out.below b)
                  clear b
                  refine hK52 _ _ (Sp.Cd.sub (S' := [(1, _), (5, _), (6, _), (14, _), (15, _), (20, _), (21, _), (26, _), (30, _), (416, _), (417, _), (418, _), (476, _)]) ⟨rfl, rfl, rfl, rfl, rfl, rfl, rfl, rfl, rfl, rfl, rfl, rfl, rfl, trivial⟩ ?_)
                  clear hK52 K52
                  refine Sp.Cd.condF rfl ?_
                  refine Sp.Cd.skip ?_
                  refine Sp.Nx.post () ⟨rfl, rfl, rfl, rfl, rfl, rfl, rfl, rfl, rfl, rfl, rfl, rfl, trivial⟩ (B3.out)
                · obtain ⟨bi3, hbi3⟩ : ∃ b : Nat, b + 1 = i3 := ⟨i3 - 1, by omega⟩
                  have hlbi3 : bi3 < lr3i := by omega
                  obtain ⟨XB, YB, hxyB, _⟩ := F.two.each bi3 (by rw [← Lr3i.out]; exact hlbi3)
                  have hris := F.two.rise i3 (by omega) (by rw [← Lr3i.out]; exact hlti3)
                  rw [show i3 - 1 = bi3 by omega, hxyB, hxyi3] at hris
                  obtain ⟨qB, dB, hcB, hpB⟩ := Sp.came_row Hr3i.out bi3 hlbi3
                  rw [hxyB] at hcB hpB
                  obtain ⟨pB, hqB⟩ := hpB cr3i .i64 ((i3 : Int) - 1) (by omega)
                  obtain ⟨uB, huB⟩ := Sp.came_idx (c := dB) (k := .i64) (n := (0 : Int)) hcB 0 (by show 0 < 2; omega) rfl
                  rw [show [(XB : Int), (YB : Int)].getD 0 0 = (XB : Int) from rfl] at huB
                  have hris2 : (XB : Int) < (Xi3 : Int) := hris
                  refine Sp.Cd.seq fun K53 hK53 => ?_
                  refine Sp.Cd.regionT (by kernel_rfl) (by kernel_rfl) ?_
                  refine Sp.T.pure (by kernel_rfl) (fun X => Sp.Runs.move rfl) ?_
                  refine Sp.T.pure (by kernel_rfl) (fun X => Sp.Runs.lenL Try.underlying30 rfl) ?_
                  refine Sp.T.pure (by kernel_rfl) (fun X => Sp.Runs.neIF rfl rfl (by first | rfl | assumption | omega)) ?_
                  refine Sp.T.pure (by kernel_rfl) (fun X => Sp.Runs.move rfl) ?_
                  refine Sp.T.pure (by kernel_rfl) (fun X => Sp.Runs.move rfl) ?_
                  refine Sp.T.pure (by kernel_rfl) (fun X => Sp.Runs.indexAddr rfl rfl ((hui3 X.w X.b).1)) ?_
                  refine Sp.T.pure (by kernel_rfl) (fun X => Sp.Runs.load rfl ((hui3 X.w X.b).2)) ?_
                  refine Sp.T.pure (by kernel_rfl) (fun X => Sp.Runs.ltIF rfl rfl (by first | rfl | assumption | omega)) ?_
                  refine Sp.T.pure (by kernel_rfl) (fun X => Sp.Runs.pickF rfl rfl) ?_
                  refine Sp.T.pure (by kernel_rfl) (fun X => Sp.Runs.move rfl) ?_
                  refine Sp.T.pure (by kernel_rfl) (fun X => Sp.Runs.move rfl) ?_
                  refine Sp.T.pure (by kernel_rfl) (fun X => Sp.Runs.indexAddr rfl rfl ((hui3 X.w X.b).1)) ?_
                  refine Sp.T.pure (by kernel_rfl) (fun X => Sp.Runs.load rfl ((hui3 X.w X.b).2)) ?_
                  refine Sp.T.pure (by kernel_rfl) (fun X => Sp.Runs.move rfl) ?_
                  refine Sp.T.pure (by kernel_rfl) (fun X => Sp.Runs.indexAddr rfl rfl ((hvi3 X.w X.b).1)) ?_
                  refine Sp.T.pure (by kernel_rfl) (fun X => Sp.Runs.load rfl ((hvi3 X.w X.b).2)) ?_
                  refine Sp.T.pure (by kernel_rfl) (fun X => Sp.Runs.gtIF rfl rfl (by first | rfl | assumption | omega)) ?_
                  refine Sp.T.pure (by kernel_rfl) (fun X => Sp.Runs.pickF rfl rfl) ?_
                  refine Sp.T.pure (by kernel_rfl) (fun X => Sp.Runs.move rfl) ?_
                  refine Sp.T.pure (by kernel_rfl) (fun X => Sp.Runs.move rfl) ?_
                  refine Sp.T.pure (by kernel_rfl) (fun X => Sp.Runs.indexAddr rfl rfl ((hui3 X.w X.b).1)) ?_
                  refine Sp.T.pure (by kernel_rfl) (fun X => Sp.Runs.load rfl ((hui3 X.w X.b).2)) ?_
                  refine Sp.T.pure (by kernel_rfl) (fun X => Sp.Runs.move rfl) ?_
                  refine Sp.T.pure (by kernel_rfl) (fun X => Sp.Runs.indexAddr rfl rfl ((hui3 X.w X.b).1)) ?_
                  refine Sp.T.pure (by kernel_rfl) (fun X => Sp.Runs.load rfl ((hui3 X.w X.b).2)) ?_
                  refine Sp.T.pure (by kernel_rfl) (fun X => Sp.Runs.mulI rfl rfl (Sp.wrapI (by omega) (by omega))) ?_
                  refine Sp.T.pure (by kernel_rfl) (fun X => Sp.Runs.move rfl) ?_
                  refine Sp.T.pure (by kernel_rfl) (fun X => Sp.Runs.indexAddr rfl rfl ((hvi3 X.w X.b).1)) ?_
                  refine Sp.T.pure (by kernel_rfl) (fun X => Sp.Runs.load rfl ((hvi3 X.w X.b).2)) ?_
                  refine Sp.T.pure (by kernel_rfl) (fun X => Sp.Runs.move rfl) ?_
                  refine Sp.T.pure (by kernel_rfl) (fun X => Sp.Runs.indexAddr rfl rfl ((hvi3 X.w X.b).1)) ?_
                  refine Sp.T.pure (by kernel_rfl) (fun X => Sp.Runs.load rfl ((hvi3 X.w X.b).2)) ?_
                  refine Sp.T.pure (by kernel_rfl) (fun X => Sp.Runs.mulI rfl rfl (Sp.wrapI (by omega) (by omega))) ?_
                  refine Sp.T.pure (by kernel_rfl) (fun X => Sp.Runs.addI rfl rfl (Sp.wrapI (by omega) (by omega))) ?_
                  refine Sp.T.pure (by kernel_rfl) (fun X => Sp.Runs.move rfl) ?_
                  refine Sp.T.pure (by kernel_rfl) (fun X => Sp.Runs.neIF rfl rfl (by first | rfl | assumption | omega)) ?_
                  refine Sp.T.pure (by kernel_rfl) (fun X => Sp.Runs.pickF rfl rfl) ?_
                  refine Sp.T.pure (by kernel_rfl) (fun X => Sp.Runs.move rfl) ?_
                  refine Sp.T.pure (by kernel_rfl) (fun X => Sp.Runs.move rfl) ?_
                  refine Sp.T.pure (by kernel_rfl) (fun X => Sp.Runs.gtIT rfl rfl (by omega)) ?_
                  refine Sp.T.pure (by kernel_rfl) (fun X => Sp.Runs.move rfl) ?_
                  refine Sp.T.pure (by kernel_rfl) (fun X => Sp.Runs.move rfl) ?_
                  refine Sp.T.pure (by kernel_rfl) (fun X => Sp.Runs.move rfl) ?_
                  refine Sp.T.pure (by kernel_rfl) (fun X => Sp.Runs.subI rfl rfl (Sp.wrapI (by omega) (by omega))) ?_
                  refine Sp.T.pure (by kernel_rfl) (fun X => Sp.Runs.indexAddr rfl rfl ((hqB X.w X.b).1)) ?_
                  refine Sp.T.pure (by kernel_rfl) (fun X => Sp.Runs.load rfl ((hqB X.w X.b).2)) ?_
                  refine Sp.T.pure (by kernel_rfl) (fun X => Sp.Runs.indexAddr rfl rfl ((huB X.w X.b).1)) ?_
                  refine Sp.T.pure (by kernel_rfl) (fun X => Sp.Runs.load rfl ((huB X.w X.b).2)) ?_
                  refine Sp.T.pure (by kernel_rfl) (fun X => Sp.Runs.move rfl) ?_
                  refine Sp.T.pure (by kernel_rfl) (fun X => Sp.Runs.indexAddr rfl rfl ((hui3 X.w X.b).1)) ?_
                  refine Sp.T.pure (by kernel_rfl) (fun X => Sp.Runs.load rfl ((hui3 X.w X.b).2)) ?_
                  refine Sp.T.pure (by kernel_rfl) (fun X => Sp.Runs.geIF rfl rfl (by first | rfl | assumption | omega)) ?_
                  refine Sp.T.pure (by kernel_rfl) (fun X => Sp.Runs.pickT rfl rfl) ?_
                  refine Sp.T.pure (by kernel_rfl) (fun X => Sp.Runs.pickF rfl rfl) ?_
                  refine Sp.T.nil fun w21 b => ?_
                  replace B0 := Lib.hid (B0.out.trans (b.mono B0.out.size))
                  replace B1 := Lib.hid (B1.out.trans (b.mono B1.out.size))
                  replace B2 := Lib.hid (B2.out.trans (b.mono B2.out.size))
                  replace B3 := Lib.hid (B3.out.trans (b.mono B3.out.size))
                  replace HYa := Lib.hid (HYa.out.below b)
                  replace HYb := Lib.hid (HYb.out.below b)
                  replace Hr1i := Lib.hid (Hr1i.out.below b)
                  replace Hr2i := Lib.hid (Hr2i.out.below b)
                  replace Hr3i := Lib.hid (Hr3i.out.below b)
                  replace Hr4i := Lib.hid (Hr4i.out.below b)
                  clear b
                  refine hK53 _ _ (Sp.Cd.sub (S' := [(1, _), (5, _), (6, _), (14, _), (15, _), (20, _), (21, _), (26, _), (30, _), (416, _), (417, _), (418, _), (476, _)]) ⟨rfl, rfl, rfl, rfl, rfl, rfl, rfl, rfl, rfl, rfl, rfl, rfl, rfl, trivial⟩ ?_)
                  clear hK53 K53
                  refine Sp.Cd.condF rfl ?_
                  refine Sp.Cd.skip ?_
                  refine Sp.Nx.post () ⟨rfl, rfl, rfl, rfl, rfl, rfl, rfl, rfl, rfl, rfl, rfl, rfl, trivial⟩ (B3.out)
              · intro w21 b
                replace B0 := Lib.hid (B0.out.trans (b.mono B0.out.size))
                replace B1 := Lib.hid (B1.out.trans (b.mono B1.out.size))
                replace B2 := Lib.hid (B2.out.trans (b.mono B2.out.size))
                replace HYa := Lib.hid (HYa.out.below b)
                replace HYb := Lib.hid (HYb.out.below b)
                replace Hr1i := Lib.hid (Hr1i.out.below b)
                replace Hr2i := Lib.hid (Hr2i.out.below b)
                replace Hr3i := Lib.hid (Hr3i.out.below b)
                replace Hr4i := Lib.hid (Hr4i.out.below b)
                clear b
                refine Sp.Nx.block ?_
                refine hK50 _ _ (Sp.Cd.sub (S' := [(1, _), (5, _), (6, _), (14, _), (15, _), (20, _), (21, _), (26, _), (30, _), (416, _), (417, _), (418, _)]) ⟨rfl, rfl, rfl, rfl, rfl, rfl, rfl, rfl, rfl, rfl, rfl, rfl, trivial⟩ ?_)
                clear hK50 K50
                refine Sp.Cd.region ?_
                refine Sp.L.pure (by kernel_rfl) (Sp.Runs.addI rfl rfl (Sp.wrapI (by omega) (by omega))) ?_
                refine Sp.L.pure (by kernel_rfl) (Sp.Runs.move rfl) ?_
                refine Sp.L.nil ?_
                refine Sp.Nx.again (i3 + 1) ⟨(Sp.lkI rfl (by omega)), rfl, rfl, rfl, rfl, rfl, rfl, rfl, rfl, rfl, rfl, rfl, trivial⟩ ⟨B2, hlti3⟩ (by omega)
            · refine Sp.Cd.seq fun K54 hK54 => ?_
              refine Sp.Cd.region ?_
              refine Sp.L.pure (by kernel_rfl) (Sp.Runs.ltIF rfl rfl (by omega)) ?_
              refine Sp.L.nil ?_
              refine hK54 _ _ (Sp.Cd.sub (S' := [(1, _), (5, _), (6, _), (14, _), (15, _), (20, _), (21, _), (26, _), (30, _), (416, _), (417, _), (418, _), (419, _)]) ⟨rfl, rfl, rfl, rfl, rfl, rfl, rfl, rfl, rfl, rfl, rfl, rfl, rfl, trivial⟩ ?_)
              clear hK54 K54
              refine Sp.Cd.seq fun K55 hK55 => ?_
              refine Sp.Cd.condF rfl ?_
              refine Sp.Cd.exit ?_
              refine Sp.Ex.then ?_
              clear hK55 K55
              refine Sp.Ex.then ?_
              clear B2
              refine Sp.Ex.hit ?_
              refine hK46 _ _ (Sp.Cd.sub (S' := [(1, _), (5, _), (6, _), (14, _), (15, _), (20, _), (21, _), (30, _)]) ⟨rfl, rfl, rfl, rfl, rfl, rfl, rfl, rfl, trivial⟩ ?_)
              clear hK46 K46
              refine Sp.Cd.seq fun K56 hK56 => ?_
              refine Sp.Cd.seq fun K57 hK57 => ?_
              have s1 := F.s1
              have s2 := F.s2
              have s3 := F.s3
              have s4 := F.s4
              have s5 := F.s5
              have t1 := F.t1
              have t2 := F.t2
              have t3 := F.t3
              have t4 := F.t4
              have t5 := F.t5
              have some := F.some
              have pr1 := Sp.mulbd s4 s5 s4 s5
              have pr2 := Sp.mulbd (b := tw + 1) (B := 1501) t4 t5 (by omega) (by omega)
              have l1 := Lr1i.out
              refine Sp.Cd.region ?_
              refine Sp.L.pure (by kernel_rfl) (Sp.Runs.move rfl) ?_
              refine Sp.L.pure (by kernel_rfl) (Sp.Runs.lenL Try.underlying25 rfl) ?_
              refine Sp.L.pure (by kernel_rfl) (Sp.Runs.ltIF rfl rfl (by first | rfl | assumption | omega)) ?_
              refine Sp.L.pure (by kernel_rfl) (Sp.Runs.move rfl) ?_
              refine Sp.L.pure (by kernel_rfl) (Sp.Runs.move rfl) ?_
              refine Sp.L.pure (by kernel_rfl) (Sp.Runs.move rfl) ?_
              refine Sp.L.pure (by kernel_rfl) (Sp.Runs.mulI rfl rfl (Sp.wrapI (by omega) (by omega))) ?_
              refine Sp.L.pure (by kernel_rfl) (Sp.Runs.move rfl) ?_
              refine Sp.L.pure (by kernel_rfl) (Sp.Runs.addI rfl rfl (Sp.wrapI (by omega) (by omega))) ?_
              refine Sp.L.pure (by kernel_rfl) (Sp.Runs.move rfl) ?_
              refine Sp.L.pure (by kernel_rfl) (Sp.Runs.neIF rfl rfl (by first | rfl | assumption | omega)) ?_
              refine Sp.L.pure (by kernel_rfl) (Sp.Runs.pickF rfl rfl) ?_
              refine Sp.L.pure (by kernel_rfl) (Sp.Runs.move rfl) ?_
              refine Sp.L.pure (by kernel_rfl) (Sp.Runs.move rfl) ?_
              refine Sp.L.pure (by kernel_rfl) (Sp.Runs.ltIF rfl rfl (by first | rfl | assumption | omega)) ?_
              refine Sp.L.pure (by kernel_rfl) (Sp.Runs.pickF rfl rfl) ?_
              refine Sp.L.pure (by kernel_rfl) (Sp.Runs.move rfl) ?_
              refine Sp.L.pure (by kernel_rfl) (Sp.Runs.move rfl) ?_
              refine Sp.L.pure (by kernel_rfl) (Sp.Runs.move rfl) ?_
              refine Sp.L.pure (by kernel_rfl) (Sp.Runs.mulI rfl rfl (Sp.wrapI (by omega) (by omega))) ?_
              refine Sp.L.pure (by kernel_rfl) (Sp.Runs.gtIF rfl rfl (by first | rfl | assumption | omega)) ?_
              refine Sp.L.pure (by kernel_rfl) (Sp.Runs.pickF rfl rfl) ?_
              refine Sp.L.pure (by kernel_rfl) (Sp.Runs.move rfl) ?_
              refine Sp.L.pure (by kernel_rfl) (Sp.Runs.move rfl) ?_
              refine Sp.L.pure (by kernel_rfl) (Sp.Runs.move rfl) ?_
              refine Sp.L.pure (by kernel_rfl) (Sp.Runs.addI rfl rfl (Sp.wrapI (by omega) (by omega))) ?_
              refine Sp.L.pure (by kernel_rfl) (Sp.Runs.mulI rfl rfl (Sp.wrapI (by omega) (by omega))) ?_
              refine Sp.L.pure (by kernel_rfl) (Sp.Runs.quoI rfl rfl (by decide) ((congrArg _ (Sp.tdiv_nn (by omega))).trans (Sp.wrapI (by omega) (by omega)))) ?_
              refine Sp.L.pure (by kernel_rfl) (Sp.Runs.move rfl) ?_
              refine Sp.L.pure (by kernel_rfl) (Sp.Runs.addI rfl rfl (Sp.wrapI (by omega) (by omega))) ?_
              refine Sp.L.pure (by kernel_rfl) (Sp.Runs.move rfl) ?_
              refine Sp.L.pure (by kernel_rfl) (Sp.Runs.neIF rfl rfl (by first | rfl | assumption | omega)) ?_
              refine Sp.L.pure (by kernel_rfl) (Sp.Runs.pickF rfl rfl) ?_
              refine Sp.L.pure (by kernel_rfl) (Sp.Runs.move rfl) ?_
              refine Sp.L.pure (by kernel_rfl) (Sp.Runs.move rfl) ?_
              refine Sp.L.pure (by kernel_rfl) (Sp.Runs.ltIF rfl rfl (by first | rfl | assumption | omega)) ?_
              refine Sp.L.pure (by kernel_rfl) (Sp.Runs.pickF rfl rfl) ?_
              refine Sp.L.pure (by kernel_rfl) (Sp.Runs.move rfl) ?_
              refine Sp.L.pure (by kernel_rfl) (Sp.Runs.move rfl) ?_
              refine Sp.L.pure (by kernel_rfl) (Sp.Runs.move rfl) ?_
              refine Sp.L.pure (by kernel_rfl) (Sp.Runs.gtIF rfl rfl (by first | rfl | assumption | omega)) ?_
              refine Sp.L.pure (by kernel_rfl) (Sp.Runs.pickF rfl rfl) ?_
              refine Sp.L.pure (by kernel_rfl) (Sp.Runs.move rfl) ?_
              refine Sp.L.pure (by kernel_rfl) (Sp.Runs.move rfl) ?_
              have CC := mRises_q w20 ar4i lr4i cr4i r4 (by rw [Lr4i.out]; exact le4) Hr4i.out
              rw [riseB_of F.tri.rise] at CC
              refine Sp.L.call (by kernel_rfl) (CC) rfl rfl (by kernel_rfl) ?_
              clear CC
              rintro e w21 ⟨rfl, b⟩
              replace B0 := Lib.hid (B0.out.trans (b.mono B0.out.size))
              replace B1 := Lib.hid (B1.out.trans (b.mono B1.out.size))
              replace HYa := Lib.hid (HYa.out.below b)
              replace HYb := Lib.hid (HYb.out.below b)
              replace Hr1i := Lib.hid (Hr1i.out.below b)
              replace Hr2i := Lib.hid (Hr2i.out.below b)
              replace Hr3i := Lib.hid (Hr3i.out.below b)
              replace Hr4i := Lib.hid (Hr4i.out.below b)
              clear b
              refine ⟨_, rfl, ?_⟩
              refine Sp.L.pure (by kernel_rfl) (Sp.Runs.notF rfl) ?_
              refine Sp.L.pure (by kernel_rfl) (Sp.Runs.pickF rfl rfl) ?_
              refine Sp.L.nil ?_
              refine hK57 _ _ (Sp.Cd.sub (S' := [(1, _), (5, _), (30, _), (524, _)]) ⟨rfl, rfl, rfl, rfl, trivial⟩ ?_)
              clear hK57 K57
              refine Sp.Cd.condF rfl ?_
              refine Sp.Cd.skip ?_
              refine hK56 _ _ (Sp.Cd.sub (S' := [(1, _), (5, _), (30, _)]) ⟨rfl, rfl, rfl, trivial⟩ ?_)
              clear hK56 K56
              refine Sp.Cd.seq fun K58 hK58 => ?_
              refine Sp.Cd.region ?_
              refine Sp.L.pure (by kernel_rfl) (Sp.Runs.move rfl) ?_
              refine Sp.L.pure (by kernel_rfl) (Sp.Runs.lenL Try.underlying30 rfl) ?_
              refine Sp.L.pure (by kernel_rfl) (Sp.Runs.move rfl) ?_
              refine Sp.L.nil ?_
              refine hK58 _ _ (Sp.Cd.sub (S' := [(1, _), (5, _), (525, _), (526, _), (527, _)]) ⟨rfl, rfl, rfl, rfl, rfl, trivial⟩ ?_)
              clear hK58 K58
              refine Sp.Cd.block ?_
              have B2 : Hid (Below w21.heap.size w21 w21) := Lib.hid (Below.refl _ _)
              refine Sp.Cd.loop (ι := Nat) [(1, _), (5, _), (525, _), (526, _)] (fun i4 => [(527, .int .i64 (i4 : Nat))]) (fun i4 w' => Hid (Below w21.heap.size w21 w') ∧ (i4 ≤ lr4i)) (fun i4 => lr4i - i4) 0 ⟨rfl, rfl, rfl, rfl, rfl, trivial⟩ ⟨B2, Nat.zero_le _⟩ ?_
              clear B2
              rintro i4 w22 ⟨B2, hrel⟩
              have b := B2.out
              replace B0 := Lib.hid (B0.out.trans (b.mono B0.out.size))
              replace B1 := Lib.hid (B1.out.trans (b.mono B1.out.size))
              replace HYa := Lib.hid (HYa.out.below b)
              replace HYb := Lib.hid (HYb.out.below b)
              replace Hr1i := Lib.hid (Hr1i.out.below b)
              replace Hr2i := Lib.hid (Hr2i.out.below b)
              replace Hr3i := Lib.hid (Hr3i.out.below b)
              replace Hr4i := Lib.hid (Hr4i.out.below b)
              clear b
              refine Sp.Cd.sub (S' := [(527, _), (1, _), (5, _), (525, _), (526, _)]) ⟨rfl, rfl, rfl, rfl, rfl, trivial⟩ ?_
              by_cases hlti4 : i4 < lr4i
              · obtain ⟨M, hM, m1, m2, m3, m4, m5⟩ := F.tri.each i4 (by rw [← Lr4i.out]; exact hlti4)
                obtain ⟨p4, hp4⟩ := Sp.came_idx (c := cr4i) (k := .i64) (n := (i4 : Int)) Hr4i.out i4 hlti4 rfl
                rw [hM] at hp4
                have wM : (Lit.int .i64 (M : Int)).wf = true := WalkArith.wf_i64 ⟨by omega, by omega⟩
                refine Sp.Cd.seq fun K59 hK59 => ?_
                refine Sp.Cd.region ?_
                refine Sp.L.pure (by kernel_rfl) (Sp.Runs.ltIT rfl rfl (by omega)) ?_
                refine Sp.L.nil ?_
                refine hK59 _ _ (Sp.Cd.sub (S' := [(1, _), (5, _), (525, _), (526, _), (527, _), (528, _)]) ⟨rfl, rfl, rfl, rfl, rfl, rfl, trivial⟩ ?_)
                clear hK59 K59
                refine Sp.Cd.seq fun K60 hK60 => ?_
                refine Sp.Cd.condT rfl ?_
                refine Sp.Cd.skip ?_
                refine hK60 _ _ (Sp.Cd.sub (S' := [(1, _), (5, _), (525, _), (526, _), (527, _)]) ⟨rfl, rfl, rfl, rfl, rfl, trivial⟩ ?_)
                clear hK60 K60
                refine Sp.Cd.seq fun K61 hK61 => ?_
                refine Sp.Cd.block ?_
                refine Sp.Cd.seq fun K62 hK62 => ?_
                refine Sp.Cd.region ?_
                refine Sp.L.pure (by kernel_rfl) (Sp.Runs.indexAddr rfl rfl ((hp4 w22 (Below.refl _ _)).1)) ?_
                refine Sp.L.pure (by kernel_rfl) (Sp.Runs.load rfl ((hp4 w22 (Below.refl _ _)).2)) ?_
                refine Sp.L.pure (by kernel_rfl) (Sp.Runs.assign rfl) ?_
                refine Sp.L.nil ?_
                refine hK62 _ _ (Sp.Cd.sub (S' := [(1, _), (5, _), (44, _), (525, _), (526, _), (527, _)]) ⟨rfl, rfl, rfl, rfl, rfl, rfl, trivial⟩ ?_)
                clear hK62 K62
                refine Sp.Cd.seq fun K63 hK63 => ?_
                refine Sp.Cd.region ?_
                refine Sp.L.pure (by kernel_rfl) (Sp.Runs.move rfl) ?_
                have CC := implSquareOf_any w22 (M : Int) wM
                rw [m2, m3] at CC
                refine Sp.L.call (by kernel_rfl) (CC) rfl rfl (by kernel_rfl) ?_
                clear CC
                rintro e w23 ⟨rfl, b⟩
                replace B0 := Lib.hid (B0.out.trans (b.mono B0.out.size))
                replace B1 := Lib.hid (B1.out.trans (b.mono B1.out.size))
                replace B2 := Lib.hid (B2.out.trans (b.mono B2.out.size))
                replace HYa := Lib.hid (HYa.out.below b)
                replace HYb := Lib.hid (HYb.out.below b)
                replace Hr1i := Lib.hid (Hr1i.out.below b)
                replace Hr2i := Lib.hid (Hr2i.out.below b)
                replace Hr3i := Lib.hid (Hr3i.out.below b)
                replace Hr4i := Lib.hid (Hr4i.out.below b)
                clear b
                refine ⟨_, rfl, ?_⟩
                refine Sp.L.pure (by kernel_rfl) (Sp.Runs.move rfl) ?_
                refine Sp.L.pure (by kernel_rfl) (Sp.Runs.extract rfl rfl) ?_
                refine Sp.L.pure (by kernel_rfl) (Sp.Runs.extract rfl rfl) ?_
                refine Sp.L.pure (by kernel_rfl) (Sp.Runs.extract rfl rfl) ?_
                refine Sp.L.pure (by kernel_rfl) (Sp.Runs.assign rfl) ?_
                refine Sp.L.pure (by kernel_rfl) (Sp.Runs.assign rfl) ?_
                refine Sp.L.pure (by kernel_rfl) (Sp.Runs.assign rfl) ?_
                refine Sp.L.nil ?_
                refine hK63 _ _ (Sp.Cd.sub (S' := [(1, _), (5, _), (44, _), (46, _), (47, _), (525, _), (526, _), (527, _)]) ⟨rfl, rfl, rfl, rfl, rfl, rfl, rfl, rfl, trivial⟩ ?_)
                clear hK63 K63
                refine Sp.Cd.seq fun K64 hK64 => ?_
                refine Sp.Cd.region ?_
                refine Sp.L.pure (by kernel_rfl) (Sp.Runs.move rfl) ?_
                have CC := implTriangleOf_any w23 (M : Int) wM
                rw [m4, m5] at CC
                refine Sp.L.call (by kernel_rfl) (CC) rfl rfl (by kernel_rfl) ?_
                clear CC
                rintro e w24 ⟨rfl, b⟩
                replace B0 := Lib.hid (B0.out.trans (b.mono B0.out.size))
                replace B1 := Lib.hid (B1.out.trans (b.mono B1.out.size))
                replace B2 := Lib.hid (B2.out.trans (b.mono B2.out.size))
                replace HYa := Lib.hid (HYa.out.below b)
                replace HYb := Lib.hid (HYb.out.below b)
                replace Hr1i := Lib.hid (Hr1i.out.below b)
                replace Hr2i := Lib.hid (Hr2i.out.below b)
                replace Hr3i := Lib.hid (Hr3i.out.below b)
                replace Hr4i := Lib.hid (Hr4i.out.below b)
                clear b
                refine ⟨_, rfl, ?_⟩
                refine Sp.L.pure (by kernel_rfl) (Sp.Runs.move rfl) ?_
                refine Sp.L.pure (by kernel_rfl) (Sp.Runs.extract rfl rfl) ?_
                refine Sp.L.pure (by kernel_rfl) (Sp.Runs.extract rfl rfl) ?_
                refine Sp.L.pure (by kernel_rfl) (Sp.Runs.extract rfl rfl) ?_
                refine Sp.L.pure (by kernel_rfl) (Sp.Runs.assign rfl) ?_
                refine Sp.L.pure (by kernel_rfl) (Sp.Runs.assign rfl) ?_
                refine Sp.L.pure (by kernel_rfl) (Sp.Runs.assign rfl) ?_
                refine Sp.L.nil ?_
                refine hK64 _ _ (Sp.Cd.sub (S' := [(1, _), (5, _), (44, _), (46, _), (47, _), (49, _), (50, _), (525, _), (526, _), (527, _)]) ⟨rfl, rfl, rfl, rfl, rfl, rfl, rfl, rfl, rfl, rfl, trivial⟩ ?_)
                clear hK64 K64
                refine Sp.Cd.seq fun K65 hK65 => ?_
                refine Sp.Cd.region ?_
                refine Sp.L.pure (by kernel_rfl) (Sp.Runs.move rfl) ?_
                refine Sp.L.pure (by kernel_rfl) (Sp.Runs.notF rfl) ?_
                refine Sp.L.pure (by kernel_rfl) (Sp.Runs.move rfl) ?_
                refine Sp.L.pure (by kernel_rfl) (Sp.Runs.move rfl) ?_
                refine Sp.L.pure (by kernel_rfl) (Sp.Runs.notF rfl) ?_
                refine Sp.L.pure (by kernel_rfl) (Sp.Runs.pickF rfl rfl) ?_
                refine Sp.L.pure (by kernel_rfl) (Sp.Runs.move rfl) ?_
                refine Sp.L.pure (by kernel_rfl) (Sp.Runs.move rfl) ?_
                refine Sp.L.pure (by kernel_rfl) (Sp.Runs.neIF rfl rfl (by first | rfl | assumption | omega)) ?_
                refine Sp.L.pure (by kernel_rfl) (Sp.Runs.pickF rfl rfl) ?_
                refine Sp.L.pure (by kernel_rfl) (Sp.Runs.move rfl) ?_
                refine Sp.L.pure (by kernel_rfl) (Sp.Runs.move rfl) ?_
                refine Sp.L.pure (by kernel_rfl) (Sp.Runs.neIF rfl rfl (by first | rfl | assumption | omega)) ?_
                refine Sp.L.pure (by kernel_rfl) (Sp.Runs.pickF rfl rfl) ?_
                refine Sp.L.pure (by kernel_rfl) (Sp.Runs.move rfl) ?_
                refine Sp.L.pure (by kernel_rfl) (Sp.Runs.move rfl) ?_
                refine Sp.L.pure (by kernel_rfl) (Sp.Runs.move rfl) ?_
                refine Sp.L.pure (by kernel_rfl) (Sp.Runs.gtIF rfl rfl (by first | rfl | assumption | omega)) ?_
                refine Sp.L.pure (by kernel_rfl) (Sp.Runs.pickF rfl rfl) ?_
                refine Sp.L.nil ?_
                refine hK65 _ _ (Sp.Cd.sub (S' := [(1, _), (5, _), (525, _), (526, _), (527, _), (561, _)]) ⟨rfl, rfl, rfl, rfl, rfl, rfl, trivial⟩ ?_)
                clear hK65 K65
                refine Sp.Cd.condF rfl ?_
                refine Sp.Cd.skip ?_
                refine Sp.Nx.block ?_
                refine hK61 _ _ (Sp.Cd.sub (S' := [(1, _), (5, _), (525, _), (526, _), (527, _)]) ⟨rfl, rfl, rfl, rfl, rfl, trivial⟩ ?_)
                clear hK61 K61
                refine Sp.Cd.region ?_
                refine Sp.L.pure (by kernel_rfl) (Sp.Runs.addI rfl rfl (Sp.wrapI (by omega) (by omega))) ?_
                refine Sp.L.pure (by kernel_rfl) (Sp.Runs.move rfl) ?_
                refine Sp.L.nil ?_
                refine Sp.Nx.again (i4 + 1) ⟨(Sp.lkI rfl (by omega)), rfl, rfl, rfl, rfl, trivial⟩ ⟨B2, hlti4⟩ (by omega)
              · refine Sp.Cd.seq fun K66 hK66 => ?_
                refine Sp.Cd.region ?_
                refine Sp.L.pure (by kernel_rfl) (Sp.Runs.ltIF rfl rfl (by omega)) ?_
                refine Sp.L.nil ?_
                refine hK66 _ _ (Sp.Cd.sub (S' := [(1, _), (5, _), (525, _), (526, _), (527, _), (528, _)]) ⟨rfl, rfl, rfl, rfl, rfl, rfl, trivial⟩ ?_)
                clear hK66 K66
                refine Sp.Cd.seq fun K67 hK67 => ?_
                refine Sp.Cd.condF rfl ?_
                refine Sp.Cd.exit ?_
                refine Sp.Ex.then ?_
                clear hK67 K67
                refine Sp.Ex.then ?_
                clear B2
                refine Sp.Ex.hit ?_
                refine Sp.Nx.post () ⟨rfl, trivial⟩ (B1.out)
    · intro w18 b
      replace B0 := Lib.hid (B0.out.trans (b.mono B0.out.size))
      replace HYa := Lib.hid (HYa.out.below b)
      replace HYb := Lib.hid (HYb.out.below b)
      replace Hr1i := Lib.hid (Hr1i.out.below b)
      replace Hr1s := Lib.hid (Hr1s.out.below b)
      replace Hr2i := Lib.hid (Hr2i.out.below b)
      replace Hr2s := Lib.hid (Hr2s.out.below b)
      replace Hr3i := Lib.hid (Hr3i.out.below b)
      replace Hr3s := Lib.hid (Hr3s.out.below b)
      replace Hr4i := Lib.hid (Hr4i.out.below b)
      replace Hr4s := Lib.hid (Hr4s.out.below b)
      clear b
      refine Sp.Cd.seq fun K68 hK68 => ?_
      clear Hr1i
      clear Hr1s
      clear Hr2i
      clear Hr2s
      clear Hr3i
      clear Hr3s
      clear Hr4i
      clear Hr4s
      refine Sp.Cd.region ?_
      refine Sp.L.pure (by kernel_rfl) (Sp.Runs.move rfl) ?_
      refine Sp.L.call (by kernel_rfl) (drawCountHollow_p w18 xb lb cb' h2 HYb.out) rfl rfl (by kernel_rfl) ?_
      rintro e w19 ⟨s, t, ws, wt, rfl, b9⟩
      replace B0 := Lib.hid (B0.out.trans (b9.mono B0.out.size))
      replace HYa := Lib.hid (HYa.out.below b9)
      replace HYb := Lib.hid (HYb.out.below b9)
      clear b9
      refine ⟨_, rfl, ?_⟩
      obtain ⟨b1, hb1⟩ : ∃ z, z = outCountHollow_1 s t := ⟨_, rfl⟩
      obtain ⟨hl, hhl⟩ : ∃ z, z = outCountHollow_0 s t := ⟨_, rfl⟩
      refine Sp.L.pure (by kernel_rfl) (Sp.Runs.move rfl) ?_
      refine Sp.L.pure (by kernel_rfl) (Sp.Runs.extract rfl rfl) ?_
      refine Sp.L.pure (by kernel_rfl) (Sp.Runs.extract rfl rfl) ?_
      refine Sp.L.pure (by kernel_rfl) (Sp.Runs.assign rfl) ?_
      refine Sp.L.pure (by kernel_rfl) (Sp.Runs.assign rfl) ?_
      refine Sp.L.nil ?_
      refine hK68 _ _ (Sp.Cd.sub (S' := [(1, _), (51, _), (52, _)]) ⟨rfl, rfl, rfl, trivial⟩ ?_)
      clear hK68 K68
      refine Sp.Cd.seq fun K69 hK69 => ?_
      refine Sp.Cd.region ?_
      refine Sp.L.pure (by kernel_rfl) (Sp.Runs.move rfl) ?_
      refine Sp.L.pure (by kernel_rfl) (Sp.Runs.move rfl) ?_
      have CC := implCountHollow_any w19 s t ws wt
      rw [← hb1, ← hhl] at CC
      refine Sp.L.call (by kernel_rfl) (CC) rfl rfl (by kernel_rfl) ?_
      clear CC
      rintro e w20 ⟨rfl, b⟩
      replace B0 := Lib.hid (B0.out.trans (b.mono B0.out.size))
      replace HYa := Lib.hid (HYa.out.below b)
      replace HYb := Lib.hid (HYb.out.below b)
      clear b
      refine ⟨_, rfl, ?_⟩
      refine Sp.L.pure (by kernel_rfl) (Sp.Runs.move rfl) ?_
      refine Sp.L.pure (by kernel_rfl) (Sp.Runs.extract rfl rfl) ?_
      refine Sp.L.pure (by kernel_rfl) (Sp.Runs.extract rfl rfl) ?_
      refine Sp.L.pure (by kernel_rfl) (Sp.Runs.assign rfl) ?_
      refine Sp.L.pure (by kernel_rfl) (Sp.Runs.assign rfl) ?_
      refine Sp.L.nil ?_
      refine hK69 _ _ (Sp.Cd.sub (S' := [(1, _), (51, _), (52, _), (53, _), (54, _)]) ⟨rfl, rfl, rfl, rfl, rfl, trivial⟩ ?_)
      clear hK69 K69
      refine Sp.Cd.seq fun K70 hK70 => ?_
      refine Sp.Cd.region ?_
      refine Sp.L.pure (by kernel_rfl) (Sp.Runs.move rfl) ?_
      refine Sp.L.pure (by kernel_rfl) (Sp.Runs.move rfl) ?_
      have CC := specCountHollow_any w20 s t ws wt
      rw [← hb1, ← hhl] at CC
      refine Sp.L.call (by kernel_rfl) (CC) rfl rfl (by kernel_rfl) ?_
      clear CC
      rintro e w21 ⟨rfl, b⟩
      replace B0 := Lib.hid (B0.out.trans (b.mono B0.out.size))
      replace HYa := Lib.hid (HYa.out.below b)
      replace HYb := Lib.hid (HYb.out.below b)
      clear b
      refine ⟨_, rfl, ?_⟩
      refine Sp.L.pure (by kernel_rfl) (Sp.Runs.move rfl) ?_
      refine Sp.L.pure (by kernel_rfl) (Sp.Runs.extract rfl rfl) ?_
      refine Sp.L.pure (by kernel_rfl) (Sp.Runs.extract rfl rfl) ?_
      refine Sp.L.pure (by kernel_rfl) (Sp.Runs.assign rfl) ?_
      refine Sp.L.pure (by kernel_rfl) (Sp.Runs.assign rfl) ?_
      refine Sp.L.nil ?_
      refine hK70 _ _ (Sp.Cd.sub (S' := [(1, _), (51, _), (52, _), (53, _), (54, _), (55, _), (56, _)]) ⟨rfl, rfl, rfl, rfl, rfl, rfl, rfl, trivial⟩ ?_)
      clear hK70 K70
      refine Sp.Cd.seq fun K71 hK71 => ?_
      refine Sp.Cd.region ?_
      refine Sp.L.pure (by kernel_rfl) (Sp.Runs.move rfl) ?_
      refine Sp.L.call (by kernel_rfl) (drawGreatestHollow_p w21 xb lb cb' h2 HYb.out) rfl rfl (by kernel_rfl) ?_
      rintro e w22 ⟨p, q, wp, wq, rfl, b9⟩
      replace B0 := Lib.hid (B0.out.trans (b9.mono B0.out.size))
      replace HYa := Lib.hid (HYa.out.below b9)
      replace HYb := Lib.hid (HYb.out.below b9)
      clear b9
      refine ⟨_, rfl, ?_⟩
      obtain ⟨b2, hb2⟩ : ∃ z, z = outGreatestHollow_2 p q := ⟨_, rfl⟩
      obtain ⟨gr, hgr⟩ : ∃ z, z = outGreatestHollow_0 p q := ⟨_, rfl⟩
      obtain ⟨re, hre⟩ : ∃ z, z = outGreatestHollow_1 p q := ⟨_, rfl⟩
      refine Sp.L.pure (by kernel_rfl) (Sp.Runs.move rfl) ?_
      refine Sp.L.pure (by kernel_rfl) (Sp.Runs.extract rfl rfl) ?_
      refine Sp.L.pure (by kernel_rfl) (Sp.Runs.extract rfl rfl) ?_
      refine Sp.L.pure (by kernel_rfl) (Sp.Runs.assign rfl) ?_
      refine Sp.L.pure (by kernel_rfl) (Sp.Runs.assign rfl) ?_
      refine Sp.L.nil ?_
      refine hK71 _ _ (Sp.Cd.sub (S' := [(1, _), (51, _), (52, _), (53, _), (54, _), (55, _), (56, _), (57, _), (58, _)]) ⟨rfl, rfl, rfl, rfl, rfl, rfl, rfl, rfl, rfl, trivial⟩ ?_)
      clear hK71 K71
      refine Sp.Cd.seq fun K72 hK72 => ?_
      refine Sp.Cd.region ?_
      refine Sp.L.pure (by kernel_rfl) (Sp.Runs.move rfl) ?_
      refine Sp.L.pure (by kernel_rfl) (Sp.Runs.move rfl) ?_
      have CC := implGreatestHollow_any w22 p q wp wq
      rw [← hb2, ← hgr, ← hre] at CC
      refine Sp.L.call (by kernel_rfl) (CC) rfl rfl (by kernel_rfl) ?_
      clear CC
      rintro e w23 ⟨rfl, b⟩
      replace B0 := Lib.hid (B0.out.trans (b.mono B0.out.size))
      replace HYa := Lib.hid (HYa.out.below b)
      replace HYb := Lib.hid (HYb.out.below b)
      clear b
      refine ⟨_, rfl, ?_⟩
      refine Sp.L.pure (by kernel_rfl) (Sp.Runs.move rfl) ?_
      refine Sp.L.pure (by kernel_rfl) (Sp.Runs.extract rfl rfl) ?_
      refine Sp.L.pure (by kernel_rfl) (Sp.Runs.extract rfl rfl) ?_
      refine Sp.L.pure (by kernel_rfl) (Sp.Runs.extract rfl rfl) ?_
      refine Sp.L.pure (by kernel_rfl) (Sp.Runs.assign rfl) ?_
      refine Sp.L.pure (by kernel_rfl) (Sp.Runs.assign rfl) ?_
      refine Sp.L.pure (by kernel_rfl) (Sp.Runs.assign rfl) ?_
      refine Sp.L.nil ?_
      refine hK72 _ _ (Sp.Cd.sub (S' := [(1, _), (51, _), (52, _), (53, _), (54, _), (55, _), (56, _), (57, _), (58, _), (59, _), (60, _), (61, _)]) ⟨rfl, rfl, rfl, rfl, rfl, rfl, rfl, rfl, rfl, rfl, rfl, rfl, trivial⟩ ?_)
      clear hK72 K72
      refine Sp.Cd.seq fun K73 hK73 => ?_
      refine Sp.Cd.region ?_
      refine Sp.L.pure (by kernel_rfl) (Sp.Runs.move rfl) ?_
      refine Sp.L.pure (by kernel_rfl) (Sp.Runs.move rfl) ?_
      have CC := specGreatestHollow_any w23 p q wp wq
      rw [← hb2, ← hgr, ← hre] at CC
      refine Sp.L.call (by kernel_rfl) (CC) rfl rfl (by kernel_rfl) ?_
      clear CC
      rintro e w24 ⟨rfl, b⟩
      replace B0 := Lib.hid (B0.out.trans (b.mono B0.out.size))
      replace HYa := Lib.hid (HYa.out.below b)
      replace HYb := Lib.hid (HYb.out.below b)
      clear b
      refine ⟨_, rfl, ?_⟩
      refine Sp.L.pure (by kernel_rfl) (Sp.Runs.move rfl) ?_
      refine Sp.L.pure (by kernel_rfl) (Sp.Runs.extract rfl rfl) ?_
      refine Sp.L.pure (by kernel_rfl) (Sp.Runs.extract rfl rfl) ?_
      refine Sp.L.pure (by kernel_rfl) (Sp.Runs.extract rfl rfl) ?_
      refine Sp.L.pure (by kernel_rfl) (Sp.Runs.assign rfl) ?_
      refine Sp.L.pure (by kernel_rfl) (Sp.Runs.assign rfl) ?_
      refine Sp.L.pure (by kernel_rfl) (Sp.Runs.assign rfl) ?_
      refine Sp.L.nil ?_
      refine hK73 _ _ (Sp.Cd.sub (S' := [(1, _), (51, _), (52, _), (53, _), (54, _), (55, _), (56, _), (57, _), (58, _), (59, _), (60, _), (61, _), (62, _), (63, _), (64, _)]) ⟨rfl, rfl, rfl, rfl, rfl, rfl, rfl, rfl, rfl, rfl, rfl, rfl, rfl, rfl, rfl, trivial⟩ ?_)
      clear hK73 K73
      refine Sp.Cd.seq fun K74 hK74 => ?_
      refine Sp.Cd.region ?_
      refine Sp.L.pure (by kernel_rfl) (Sp.Runs.move rfl) ?_
      refine Sp.L.call (by kernel_rfl) (drawPlaceIn_p w24 xb lb cb' h2 HYb.out) rfl rfl (by kernel_rfl) ?_
      rintro e w25 ⟨columns, soldier, wc, wso, rfl, b9⟩
      replace B0 := Lib.hid (B0.out.trans (b9.mono B0.out.size))
      replace HYa := Lib.hid (HYa.out.below b9)
      replace HYb := Lib.hid (HYb.out.below b9)
      clear b9
      refine ⟨_, rfl, ?_⟩
      obtain ⟨b3, hb3⟩ : ∃ z, z = outPlaceIn_2 columns soldier := ⟨_, rfl⟩
      obtain ⟨ro, hro⟩ : ∃ z, z = outPlaceIn_0 columns soldier := ⟨_, rfl⟩
      obtain ⟨cl, hcl⟩ : ∃ z, z = outPlaceIn_1 columns soldier := ⟨_, rfl⟩
      obtain ⟨sn, hsn⟩ : ∃ z, z = outSnakePlace_0 columns soldier := ⟨_, rfl⟩
      obtain ⟨at', hat'⟩ : ∃ z, z = outSnakePlace_1 columns soldier := ⟨_, rfl⟩
      refine Sp.L.pure (by kernel_rfl) (Sp.Runs.move rfl) ?_
      refine Sp.L.pure (by kernel_rfl) (Sp.Runs.extract rfl rfl) ?_
      refine Sp.L.pure (by kernel_rfl) (Sp.Runs.extract rfl rfl) ?_
      refine Sp.L.pure (by kernel_rfl) (Sp.Runs.assign rfl) ?_
      refine Sp.L.pure (by kernel_rfl) (Sp.Runs.assign rfl) ?_
      refine Sp.L.nil ?_
      refine hK74 _ _ (Sp.Cd.sub (S' := [(1, _), (51, _), (52, _), (53, _), (54, _), (55, _), (56, _), (57, _), (58, _), (59, _), (60, _), (61, _), (62, _), (63, _), (64, _), (65, _), (66, _)]) ⟨rfl, rfl, rfl, rfl, rfl, rfl, rfl, rfl, rfl, rfl, rfl, rfl, rfl, rfl, rfl, rfl, rfl, trivial⟩ ?_)
      clear hK74 K74
      refine Sp.Cd.seq fun K75 hK75 => ?_
      refine Sp.Cd.region ?_
      refine Sp.L.pure (by kernel_rfl) (Sp.Runs.move rfl) ?_
      refine Sp.L.pure (by kernel_rfl) (Sp.Runs.move rfl) ?_
      have CC := implPlaceIn_any w25 columns soldier wc wso
      rw [← hb3, ← hro, ← hcl] at CC
      refine Sp.L.call (by kernel_rfl) (CC) rfl rfl (by kernel_rfl) ?_
      clear CC
      rintro e w26 ⟨rfl, b⟩
      replace B0 := Lib.hid (B0.out.trans (b.mono B0.out.size))
      replace HYa := Lib.hid (HYa.out.below b)
      replace HYb := Lib.hid (HYb.out.below b)
      clear b
      refine ⟨_, rfl, ?_⟩
      refine Sp.L.pure (by kernel_rfl) (Sp.Runs.move rfl) ?_
      refine Sp.L.pure (by kernel_rfl) (Sp.Runs.extract rfl rfl) ?_
      refine Sp.L.pure (by kernel_rfl) (Sp.Runs.extract rfl rfl) ?_
      refine Sp.L.pure (by kernel_rfl) (Sp.Runs.extract rfl rfl) ?_
      refine Sp.L.pure (by kernel_rfl) (Sp.Runs.assign rfl) ?_
      refine Sp.L.pure (by kernel_rfl) (Sp.Runs.assign rfl) ?_
      refine Sp.L.pure (by kernel_rfl) (Sp.Runs.assign rfl) ?_
      refine Sp.L.nil ?_
      refine hK75 _ _ (Sp.Cd.sub (S' := [(1, _), (51, _), (52, _), (53, _), (54, _), (55, _), (56, _), (57, _), (58, _), (59, _), (60, _), (61, _), (62, _), (63, _), (64, _), (65, _), (66, _), (67, _), (68, _), (69, _)]) ⟨rfl, rfl, rfl, rfl, rfl, rfl, rfl, rfl, rfl, rfl, rfl, rfl, rfl, rfl, rfl, rfl, rfl, rfl, rfl, rfl, trivial⟩ ?_)
      clear hK75 K75
      refine Sp.Cd.seq fun K76 hK76 => ?_
      refine Sp.Cd.region ?_
      refine Sp.L.pure (by kernel_rfl) (Sp.Runs.move rfl) ?_
      refine Sp.L.pure (by kernel_rfl) (Sp.Runs.move rfl) ?_
      have CC := specPlaceIn_any w26 columns soldier wc wso
      rw [← hb3, ← hro, ← hcl] at CC
      refine Sp.L.call (by kernel_rfl) (CC) rfl rfl (by kernel_rfl) ?_
      clear CC
      rintro e w27 ⟨rfl, b⟩
      replace B0 := Lib.hid (B0.out.trans (b.mono B0.out.size))
      replace HYa := Lib.hid (HYa.out.below b)
      replace HYb := Lib.hid (HYb.out.below b)
      clear b
      refine ⟨_, rfl, ?_⟩
      refine Sp.L.pure (by kernel_rfl) (Sp.Runs.move rfl) ?_
      refine Sp.L.pure (by kernel_rfl) (Sp.Runs.extract rfl rfl) ?_
      refine Sp.L.pure (by kernel_rfl) (Sp.Runs.extract rfl rfl) ?_
      refine Sp.L.pure (by kernel_rfl) (Sp.Runs.extract rfl rfl) ?_
      refine Sp.L.pure (by kernel_rfl) (Sp.Runs.assign rfl) ?_
      refine Sp.L.pure (by kernel_rfl) (Sp.Runs.assign rfl) ?_
      refine Sp.L.pure (by kernel_rfl) (Sp.Runs.assign rfl) ?_
      refine Sp.L.nil ?_
      refine hK76 _ _ (Sp.Cd.sub (S' := [(1, _), (51, _), (52, _), (53, _), (54, _), (55, _), (56, _), (57, _), (58, _), (59, _), (60, _), (61, _), (62, _), (63, _), (64, _), (65, _), (66, _), (67, _), (68, _), (69, _), (70, _), (71, _), (72, _)]) ⟨rfl, rfl, rfl, rfl, rfl, rfl, rfl, rfl, rfl, rfl, rfl, rfl, rfl, rfl, rfl, rfl, rfl, rfl, rfl, rfl, rfl, rfl, rfl, trivial⟩ ?_)
      clear hK76 K76
      refine Sp.Cd.seq fun K77 hK77 => ?_
      refine Sp.Cd.region ?_
      refine Sp.L.pure (by kernel_rfl) (Sp.Runs.move rfl) ?_
      refine Sp.L.pure (by kernel_rfl) (Sp.Runs.move rfl) ?_
      have CC := implSnakePlace_any w27 columns soldier wc wso
      rw [show outSnakePlace_2 columns soldier = b3 from hb3.symm, ← hsn, ← hat'] at CC
      refine Sp.L.call (by kernel_rfl) (CC) rfl rfl (by kernel_rfl) ?_
      clear CC
      rintro e w28 ⟨rfl, b⟩
      replace B0 := Lib.hid (B0.out.trans (b.mono B0.out.size))
      replace HYa := Lib.hid (HYa.out.below b)
      replace HYb := Lib.hid (HYb.out.below b)
      clear b
      refine ⟨_, rfl, ?_⟩
      refine Sp.L.pure (by kernel_rfl) (Sp.Runs.move rfl) ?_
      refine Sp.L.pure (by kernel_rfl) (Sp.Runs.extract rfl rfl) ?_
      refine Sp.L.pure (by kernel_rfl) (Sp.Runs.extract rfl rfl) ?_
      refine Sp.L.pure (by kernel_rfl) (Sp.Runs.extract rfl rfl) ?_
      refine Sp.L.pure (by kernel_rfl) (Sp.Runs.assign rfl) ?_
      refine Sp.L.pure (by kernel_rfl) (Sp.Runs.assign rfl) ?_
      refine Sp.L.pure (by kernel_rfl) (Sp.Runs.assign rfl) ?_
      refine Sp.L.nil ?_
      refine hK77 _ _ (Sp.Cd.sub (S' := [(1, _), (51, _), (52, _), (53, _), (54, _), (55, _), (56, _), (57, _), (58, _), (59, _), (60, _), (61, _), (62, _), (63, _), (64, _), (65, _), (66, _), (67, _), (68, _), (69, _), (70, _), (71, _), (72, _), (73, _), (74, _), (75, _)]) ⟨rfl, rfl, rfl, rfl, rfl, rfl, rfl, rfl, rfl, rfl, rfl, rfl, rfl, rfl, rfl, rfl, rfl, rfl, rfl, rfl, rfl, rfl, rfl, rfl, rfl, rfl, trivial⟩ ?_)
      clear hK77 K77
      refine Sp.Cd.seq fun K78 hK78 => ?_
      refine Sp.Cd.region ?_
      refine Sp.L.pure (by kernel_rfl) (Sp.Runs.move rfl) ?_
      refine Sp.L.pure (by kernel_rfl) (Sp.Runs.move rfl) ?_
      have CC := specSnakePlace_any w28 columns soldier wc wso
      rw [show outSnakePlace_2 columns soldier = b3 from hb3.symm, ← hsn, ← hat'] at CC
      refine Sp.L.call (by kernel_rfl) (CC) rfl rfl (by kernel_rfl) ?_
      clear CC
      rintro e w29 ⟨rfl, b⟩
      replace B0 := Lib.hid (B0.out.trans (b.mono B0.out.size))
      replace HYa := Lib.hid (HYa.out.below b)
      replace HYb := Lib.hid (HYb.out.below b)
      clear b
      refine ⟨_, rfl, ?_⟩
      refine Sp.L.pure (by kernel_rfl) (Sp.Runs.move rfl) ?_
      refine Sp.L.pure (by kernel_rfl) (Sp.Runs.extract rfl rfl) ?_
      refine Sp.L.pure (by kernel_rfl) (Sp.Runs.extract rfl rfl) ?_
      refine Sp.L.pure (by kernel_rfl) (Sp.Runs.extract rfl rfl) ?_
      refine Sp.L.pure (by kernel_rfl) (Sp.Runs.assign rfl) ?_
      refine Sp.L.pure (by kernel_rfl) (Sp.Runs.assign rfl) ?_
      refine Sp.L.pure (by kernel_rfl) (Sp.Runs.assign rfl) ?_
      refine Sp.L.nil ?_
      refine hK78 _ _ (Sp.Cd.sub (S' := [(1, _), (51, _), (52, _), (53, _), (54, _), (55, _), (56, _), (57, _), (58, _), (59, _), (60, _), (61, _), (62, _), (63, _), (64, _), (65, _), (66, _), (67, _), (68, _), (69, _), (70, _), (71, _), (72, _), (73, _), (74, _), (75, _), (76, _), (77, _), (78, _)]) ⟨rfl, rfl, rfl, rfl, rfl, rfl, rfl, rfl, rfl, rfl, rfl, rfl, rfl, rfl, rfl, rfl, rfl, rfl, rfl, rfl, rfl, rfl, rfl, rfl, rfl, rfl, rfl, rfl, rfl, trivial⟩ ?_)
      clear hK78 K78
      refine Sp.Cd.seq fun K79 hK79 => ?_
      refine Sp.Cd.region ?_
      refine Sp.L.pure (by kernel_rfl) (Sp.Runs.move rfl) ?_
      refine Sp.L.call (by kernel_rfl) (drawSoldierAt_p w29 xb lb cb' h2 HYb.out) rfl rfl (by kernel_rfl) ?_
      rintro e w30 ⟨w, x, y, ww, wx, wy, rfl, b9⟩
      replace B0 := Lib.hid (B0.out.trans (b9.mono B0.out.size))
      replace HYa := Lib.hid (HYa.out.below b9)
      replace HYb := Lib.hid (HYb.out.below b9)
      clear b9
      refine ⟨_, rfl, ?_⟩
      obtain ⟨b4, hb4⟩ : ∃ z, z = outSoldierAt_1 w x y := ⟨_, rfl⟩
      refine Sp.L.pure (by kernel_rfl) (Sp.Runs.move rfl) ?_
      refine Sp.L.pure (by kernel_rfl) (Sp.Runs.extract rfl rfl) ?_
      refine Sp.L.pure (by kernel_rfl) (Sp.Runs.extract rfl rfl) ?_
      refine Sp.L.pure (by kernel_rfl) (Sp.Runs.extract rfl rfl) ?_
      refine Sp.L.pure (by kernel_rfl) (Sp.Runs.assign rfl) ?_
      refine Sp.L.pure (by kernel_rfl) (Sp.Runs.assign rfl) ?_
      refine Sp.L.pure (by kernel_rfl) (Sp.Runs.assign rfl) ?_
      refine Sp.L.nil ?_
      refine hK79 _ _ (Sp.Cd.sub (S' := [(51, _), (52, _), (53, _), (54, _), (55, _), (56, _), (57, _), (58, _), (59, _), (60, _), (61, _), (62, _), (63, _), (64, _), (65, _), (66, _), (67, _), (68, _), (69, _), (70, _), (71, _), (72, _), (73, _), (74, _), (75, _), (76, _), (77, _), (78, _), (79, _), (80, _), (81, _)]) ⟨rfl, rfl, rfl, rfl, rfl, rfl, rfl, rfl, rfl, rfl, rfl, rfl, rfl, rfl, rfl, rfl, rfl, rfl, rfl, rfl, rfl, rfl, rfl, rfl, rfl, rfl, rfl, rfl, rfl, rfl, rfl, trivial⟩ ?_)
      clear hK79 K79
      refine Sp.Cd.seq fun K80 hK80 => ?_
      refine Sp.Cd.region ?_
      refine Sp.L.pure (by kernel_rfl) (Sp.Runs.move rfl) ?_
      refine Sp.L.pure (by kernel_rfl) (Sp.Runs.move rfl) ?_
      refine Sp.L.pure (by kernel_rfl) (Sp.Runs.move rfl) ?_
      have CC := implSoldierAt_any w30 w x y ww wx wy
      rw [← hb4] at CC
      refine Sp.L.call (by kernel_rfl) (CC) rfl rfl (by kernel_rfl) ?_
      clear CC
      rintro e w31 ⟨rfl, b⟩
      replace B0 := Lib.hid (B0.out.trans (b.mono B0.out.size))
      replace HYa := Lib.hid (HYa.out.below b)
      replace HYb := Lib.hid (HYb.out.below b)
      clear b
      refine ⟨_, rfl, ?_⟩
      refine Sp.L.pure (by kernel_rfl) (Sp.Runs.move rfl) ?_
      refine Sp.L.pure (by kernel_rfl) (Sp.Runs.extract rfl rfl) ?_
      refine Sp.L.pure (by kernel_rfl) (Sp.Runs.extract rfl rfl) ?_
      refine Sp.L.pure (by kernel_rfl) (Sp.Runs.assign rfl) ?_
      refine Sp.L.pure (by kernel_rfl) (Sp.Runs.assign rfl) ?_
      refine Sp.L.nil ?_
      refine hK80 _ _ (Sp.Cd.sub (S' := [(51, _), (52, _), (53, _), (54, _), (55, _), (56, _), (57, _), (58, _), (59, _), (60, _), (61, _), (62, _), (63, _), (64, _), (65, _), (66, _), (67, _), (68, _), (69, _), (70, _), (71, _), (72, _), (73, _), (74, _), (75, _), (76, _), (77, _), (78, _), (79, _), (80, _), (81, _), (82, _), (83, _)]) ⟨rfl, rfl, rfl, rfl, rfl, rfl, rfl, rfl, rfl, rfl, rfl, rfl, rfl, rfl, rfl, rfl, rfl, rfl, rfl, rfl, rfl, rfl, rfl, rfl, rfl, rfl, rfl, rfl, rfl, rfl, rfl, rfl, rfl, trivial⟩ ?_)
      clear hK80 K80
      refine Sp.Cd.seq fun K81 hK81 => ?_
      refine Sp.Cd.region ?_
      refine Sp.L.pure (by kernel_rfl) (Sp.Runs.move rfl) ?_
      refine Sp.L.pure (by kernel_rfl) (Sp.Runs.move rfl) ?_
      refine Sp.L.pure (by kernel_rfl) (Sp.Runs.move rfl) ?_
      have CC := specSoldierAt_any w31 w x y ww wx wy
      rw [← hb4] at CC
      refine Sp.L.call (by kernel_rfl) (CC) rfl rfl (by kernel_rfl) ?_
      clear CC
      rintro e w32 ⟨rfl, b⟩
      replace B0 := Lib.hid (B0.out.trans (b.mono B0.out.size))
      replace HYa := Lib.hid (HYa.out.below b)
      replace HYb := Lib.hid (HYb.out.below b)
      clear b
      refine ⟨_, rfl, ?_⟩
      refine Sp.L.pure (by kernel_rfl) (Sp.Runs.move rfl) ?_
      refine Sp.L.pure (by kernel_rfl) (Sp.Runs.extract rfl rfl) ?_
      refine Sp.L.pure (by kernel_rfl) (Sp.Runs.extract rfl rfl) ?_
      refine Sp.L.pure (by kernel_rfl) (Sp.Runs.assign rfl) ?_
      refine Sp.L.pure (by kernel_rfl) (Sp.Runs.assign rfl) ?_
      refine Sp.L.nil ?_
      refine hK81 _ _ (Sp.Cd.sub (S' := [(51, _), (52, _), (53, _), (54, _), (55, _), (56, _), (57, _), (58, _), (59, _), (60, _), (61, _), (62, _), (63, _), (64, _), (65, _), (66, _), (67, _), (68, _), (69, _), (70, _), (71, _), (72, _), (73, _), (74, _), (75, _), (76, _), (77, _), (78, _), (79, _), (80, _), (81, _), (82, _), (83, _), (84, _), (85, _)]) ⟨rfl, rfl, rfl, rfl, rfl, rfl, rfl, rfl, rfl, rfl, rfl, rfl, rfl, rfl, rfl, rfl, rfl, rfl, rfl, rfl, rfl, rfl, rfl, rfl, rfl, rfl, rfl, rfl, rfl, rfl, rfl, rfl, rfl, rfl, rfl, trivial⟩ ?_)
      clear hK81 K81
      refine Sp.Cd.seq fun K82 hK82 => ?_
      refine Sp.Cd.region ?_
      refine Sp.L.pure (by kernel_rfl) (Sp.Runs.move rfl) ?_
      refine Sp.L.pure (by kernel_rfl) (Sp.Runs.move rfl) ?_
      refine Sp.L.pure (by kernel_rfl) (Sp.Runs.move rfl) ?_
      have CC := implSoldierOfSnake_any w32 w x y ww wx wy
      rw [show outSoldierOfSnake_1 w x y = b4 from hb4.symm] at CC
      refine Sp.L.call (by kernel_rfl) (CC) rfl rfl (by kernel_rfl) ?_
      clear CC
      rintro e w33 ⟨rfl, b⟩
      replace B0 := Lib.hid (B0.out.trans (b.mono B0.out.size))
      replace HYa := Lib.hid (HYa.out.below b)
      replace HYb := Lib.hid (HYb.out.below b)
      clear b
      refine ⟨_, rfl, ?_⟩
      refine Sp.L.pure (by kernel_rfl) (Sp.Runs.move rfl) ?_
      refine Sp.L.pure (by kernel_rfl) (Sp.Runs.extract rfl rfl) ?_
      refine Sp.L.pure (by kernel_rfl) (Sp.Runs.extract rfl rfl) ?_
      refine Sp.L.pure (by kernel_rfl) (Sp.Runs.assign rfl) ?_
      refine Sp.L.pure (by kernel_rfl) (Sp.Runs.assign rfl) ?_
      refine Sp.L.nil ?_
      refine hK82 _ _ (Sp.Cd.sub (S' := [(51, _), (52, _), (53, _), (54, _), (55, _), (56, _), (57, _), (58, _), (59, _), (60, _), (61, _), (62, _), (63, _), (64, _), (65, _), (66, _), (67, _), (68, _), (69, _), (70, _), (71, _), (72, _), (73, _), (74, _), (75, _), (76, _), (77, _), (78, _), (79, _), (80, _), (81, _), (82, _), (83, _), (84, _), (85, _), (86, _), (87, _)]) ⟨rfl, rfl, rfl, rfl, rfl, rfl, rfl, rfl, rfl, rfl, rfl, rfl, rfl, rfl, rfl, rfl, rfl, rfl, rfl, rfl, rfl, rfl, rfl, rfl, rfl, rfl, rfl, rfl, rfl, rfl, rfl, rfl, rfl, rfl, rfl, rfl, rfl, trivial⟩ ?_)
      clear hK82 K82
      refine Sp.Cd.seq fun K83 hK83 => ?_
      refine Sp.Cd.region ?_
      refine Sp.L.pure (by kernel_rfl) (Sp.Runs.move rfl) ?_
      refine Sp.L.pure (by kernel_rfl) (Sp.Runs.move rfl) ?_
      refine Sp.L.pure (by kernel_rfl) (Sp.Runs.move rfl) ?_
      have CC := specSoldierOfSnake_any w33 w x y ww wx wy
      rw [show outSoldierOfSnake_1 w x y = b4 from hb4.symm] at CC
      refine Sp.L.call (by kernel_rfl) (CC) rfl rfl (by kernel_rfl) ?_
      clear CC
      rintro e w34 ⟨rfl, b⟩
      replace B0 := Lib.hid (B0.out.trans (b.mono B0.out.size))
      replace HYa := Lib.hid (HYa.out.below b)
      replace HYb := Lib.hid (HYb.out.below b)
      clear b
      refine ⟨_, rfl, ?_⟩
      refine Sp.L.pure (by kernel_rfl) (Sp.Runs.move rfl) ?_
      refine Sp.L.pure (by kernel_rfl) (Sp.Runs.extract rfl rfl) ?_
      refine Sp.L.pure (by kernel_rfl) (Sp.Runs.extract rfl rfl) ?_
      refine Sp.L.pure (by kernel_rfl) (Sp.Runs.assign rfl) ?_
      refine Sp.L.pure (by kernel_rfl) (Sp.Runs.assign rfl) ?_
      refine Sp.L.nil ?_
      refine hK83 _ _ (Sp.Cd.sub (S' := [(51, _), (52, _), (53, _), (54, _), (55, _), (56, _), (57, _), (58, _), (59, _), (60, _), (61, _), (62, _), (63, _), (64, _), (65, _), (66, _), (67, _), (68, _), (69, _), (70, _), (71, _), (72, _), (73, _), (74, _), (75, _), (76, _), (77, _), (78, _), (82, _), (83, _), (84, _), (85, _), (86, _), (87, _), (88, _), (89, _)]) ⟨rfl, rfl, rfl, rfl, rfl, rfl, rfl, rfl, rfl, rfl, rfl, rfl, rfl, rfl, rfl, rfl, rfl, rfl, rfl, rfl, rfl, rfl, rfl, rfl, rfl, rfl, rfl, rfl, rfl, rfl, rfl, rfl, rfl, rfl, rfl, rfl, trivial⟩ ?_)
      clear hK83 K83
      refine Sp.Cd.seq fun K84 hK84 => ?_
      refine Sp.Cd.seq fun K85 hK85 => ?_
      refine Sp.Cd.region ?_
      refine Sp.L.pure (by kernel_rfl) (Sp.Runs.move rfl) ?_
      refine Sp.L.pure (by kernel_rfl) (Sp.Runs.move rfl) ?_
      refine Sp.L.pure (by kernel_rfl) (Sp.Runs.neBF Try.underlying4 rfl rfl (by first | rfl | assumption)) ?_
      refine Sp.L.pure (by kernel_rfl) (Sp.Runs.move rfl) ?_
      refine Sp.L.pure (by kernel_rfl) (Sp.Runs.move rfl) ?_
      refine Sp.L.pure (by kernel_rfl) (Sp.Runs.move rfl) ?_
      refine Sp.L.pure (by kernel_rfl) (Sp.Runs.neIF rfl rfl (by first | rfl | assumption | omega)) ?_
      refine Sp.L.pure (by kernel_rfl) (Sp.Runs.pickF rfl rfl) ?_
      refine Sp.L.pure (by kernel_rfl) (Sp.Runs.move rfl) ?_
      refine Sp.L.pure (by kernel_rfl) (Sp.Runs.move rfl) ?_
      refine Sp.L.pure (by kernel_rfl) (Sp.Runs.move rfl) ?_
      refine Sp.L.pure (by kernel_rfl) (Sp.Runs.neBF Try.underlying4 rfl rfl (by first | rfl | assumption)) ?_
      refine Sp.L.pure (by kernel_rfl) (Sp.Runs.pickF rfl rfl) ?_
      refine Sp.L.pure (by kernel_rfl) (Sp.Runs.move rfl) ?_
      refine Sp.L.pure (by kernel_rfl) (Sp.Runs.move rfl) ?_
      refine Sp.L.pure (by kernel_rfl) (Sp.Runs.move rfl) ?_
      refine Sp.L.pure (by kernel_rfl) (Sp.Runs.neIF rfl rfl (by first | rfl | assumption | omega)) ?_
      refine Sp.L.pure (by kernel_rfl) (Sp.Runs.pickF rfl rfl) ?_
      refine Sp.L.pure (by kernel_rfl) (Sp.Runs.move rfl) ?_
      refine Sp.L.pure (by kernel_rfl) (Sp.Runs.move rfl) ?_
      refine Sp.L.pure (by kernel_rfl) (Sp.Runs.move rfl) ?_
      refine Sp.L.pure (by kernel_rfl) (Sp.Runs.neIF rfl rfl (by first | rfl | assumption | omega)) ?_
      refine Sp.L.pure (by kernel_rfl) (Sp.Runs.pickF rfl rfl) ?_
      refine Sp.L.pure (by kernel_rfl) (Sp.Runs.move rfl) ?_
      refine Sp.L.pure (by kernel_rfl) (Sp.Runs.move rfl) ?_
      refine Sp.L.pure (by kernel_rfl) (Sp.Runs.move rfl) ?_
      refine Sp.L.pure (by kernel_rfl) (Sp.Runs.neBF Try.underlying4 rfl rfl (by first | rfl | assumption)) ?_
      refine Sp.L.pure (by kernel_rfl) (Sp.Runs.pickF rfl rfl) ?_
      refine Sp.L.pure (by kernel_rfl) (Sp.Runs.move rfl) ?_
      refine Sp.L.pure (by kernel_rfl) (Sp.Runs.move rfl) ?_
      refine Sp.L.pure (by kernel_rfl) (Sp.Runs.move rfl) ?_
      refine Sp.L.pure (by kernel_rfl) (Sp.Runs.neIF rfl rfl (by first | rfl | assumption | omega)) ?_
      refine Sp.L.pure (by kernel_rfl) (Sp.Runs.pickF rfl rfl) ?_
      refine Sp.L.pure (by kernel_rfl) (Sp.Runs.move rfl) ?_
      refine Sp.L.pure (by kernel_rfl) (Sp.Runs.move rfl) ?_
      refine Sp.L.pure (by kernel_rfl) (Sp.Runs.move rfl) ?_
      refine Sp.L.pure (by kernel_rfl) (Sp.Runs.neIF rfl rfl (by first | rfl | assumption | omega)) ?_
      refine Sp.L.pure (by kernel_rfl) (Sp.Runs.pickF rfl rfl) ?_
      refine Sp.L.pure (by kernel_rfl) (Sp.Runs.move rfl) ?_
      refine Sp.L.pure (by kernel_rfl) (Sp.Runs.move rfl) ?_
      refine Sp.L.pure (by kernel_rfl) (Sp.Runs.move rfl) ?_
      refine Sp.L.pure (by kernel_rfl) (Sp.Runs.neBF Try.underlying4 rfl rfl (by first | rfl | assumption)) ?_
      refine Sp.L.pure (by kernel_rfl) (Sp.Runs.pickF rfl rfl) ?_
      refine Sp.L.pure (by kernel_rfl) (Sp.Runs.move rfl) ?_
      refine Sp.L.pure (by kernel_rfl) (Sp.Runs.move rfl) ?_
      refine Sp.L.pure (by kernel_rfl) (Sp.Runs.move rfl) ?_
      refine Sp.L.pure (by kernel_rfl) (Sp.Runs.neIF rfl rfl (by first | rfl | assumption | omega)) ?_
      refine Sp.L.pure (by kernel_rfl) (Sp.Runs.pickF rfl rfl) ?_
      refine Sp.L.pure (by kernel_rfl) (Sp.Runs.move rfl) ?_
      refine Sp.L.pure (by kernel_rfl) (Sp.Runs.move rfl) ?_
      refine Sp.L.pure (by kernel_rfl) (Sp.Runs.move rfl) ?_
      refine Sp.L.pure (by kernel_rfl) (Sp.Runs.neIF rfl rfl (by first | rfl | assumption | omega)) ?_
      refine Sp.L.pure (by kernel_rfl) (Sp.Runs.pickF rfl rfl) ?_
      refine Sp.L.pure (by kernel_rfl) (Sp.Runs.move rfl) ?_
      refine Sp.L.pure (by kernel_rfl) (Sp.Runs.move rfl) ?_
      refine Sp.L.pure (by kernel_rfl) (Sp.Runs.move rfl) ?_
      refine Sp.L.pure (by kernel_rfl) (Sp.Runs.neBF Try.underlying4 rfl rfl (by first | rfl | assumption)) ?_
      refine Sp.L.pure (by kernel_rfl) (Sp.Runs.pickF rfl rfl) ?_
      refine Sp.L.pure (by kernel_rfl) (Sp.Runs.move rfl) ?_
      refine Sp.L.pure (by kernel_rfl) (Sp.Runs.move rfl) ?_
      refine Sp.L.pure (by kernel_rfl) (Sp.Runs.move rfl) ?_
      refine Sp.L.pure (by kernel_rfl) (Sp.Runs.neBF Try.underlying4 rfl rfl (by first | rfl | assumption)) ?_
      refine Sp.L.pure (by kernel_rfl) (Sp.Runs.pickF rfl rfl) ?_
      refine Sp.L.pure (by kernel_rfl) (Sp.Runs.move rfl) ?_
      refine Sp.L.pure (by kernel_rfl) (Sp.Runs.move rfl) ?_
      refine Sp.L.pure (by kernel_rfl) (Sp.Runs.move rfl) ?_
      refine Sp.L.pure (by kernel_rfl) (Sp.Runs.neIF rfl rfl (by first | rfl | assumption | omega)) ?_
      refine Sp.L.pure (by kernel_rfl) (Sp.Runs.pickF rfl rfl) ?_
      refine Sp.L.pure (by kernel_rfl) (Sp.Runs.move rfl) ?_
      refine Sp.L.pure (by kernel_rfl) (Sp.Runs.move rfl) ?_
      refine Sp.L.pure (by kernel_rfl) (Sp.Runs.move rfl) ?_
      refine Sp.L.pure (by kernel_rfl) (Sp.Runs.neBF Try.underlying4 rfl rfl (by first | rfl | assumption)) ?_
      refine Sp.L.pure (by kernel_rfl) (Sp.Runs.pickF rfl rfl) ?_
      refine Sp.L.pure (by kernel_rfl) (Sp.Runs.move rfl) ?_
      refine Sp.L.pure (by kernel_rfl) (Sp.Runs.move rfl) ?_
      refine Sp.L.pure (by kernel_rfl) (Sp.Runs.move rfl) ?_
      refine Sp.L.pure (by kernel_rfl) (Sp.Runs.neIF rfl rfl (by first | rfl | assumption | omega)) ?_
      refine Sp.L.pure (by kernel_rfl) (Sp.Runs.pickF rfl rfl) ?_
      refine Sp.L.pure (by kernel_rfl) (Sp.Runs.move rfl) ?_
      refine Sp.L.pure (by kernel_rfl) (Sp.Runs.move rfl) ?_
      refine Sp.L.pure (by kernel_rfl) (Sp.Runs.move rfl) ?_
      refine Sp.L.pure (by kernel_rfl) (Sp.Runs.neBF Try.underlying4 rfl rfl (by first | rfl | assumption)) ?_
      refine Sp.L.pure (by kernel_rfl) (Sp.Runs.pickF rfl rfl) ?_
      refine Sp.L.nil ?_
      refine hK85 _ _ (Sp.Cd.sub (S' := [(51, _), (52, _), (53, _), (54, _), (57, _), (58, _), (59, _), (60, _), (61, _), (65, _), (66, _), (67, _), (68, _), (69, _), (73, _), (74, _), (748, _)]) ⟨rfl, rfl, rfl, rfl, rfl, rfl, rfl, rfl, rfl, rfl, rfl, rfl, rfl, rfl, rfl, rfl, rfl, trivial⟩ ?_)
      clear hK85 K85
      refine Sp.Cd.condF rfl ?_
      refine Sp.Cd.skip ?_
      refine hK84 _ _ (Sp.Cd.sub (S' := [(51, _), (52, _), (53, _), (54, _), (57, _), (58, _), (59, _), (60, _), (61, _), (65, _), (66, _), (67, _), (68, _), (69, _), (73, _), (74, _)]) ⟨rfl, rfl, rfl, rfl, rfl, rfl, rfl, rfl, rfl, rfl, rfl, rfl, rfl, rfl, rfl, rfl, trivial⟩ ?_)
      clear hK84 K84
      refine Sp.Cd.cutK [(57, _), (58, _), (59, _), (60, _), (61, _), (65, _), (66, _), (67, _), (68, _), (69, _), (73, _), (74, _)] ⟨rfl, rfl, rfl, rfl, rfl, rfl, rfl, rfl, rfl, rfl, rfl, rfl, trivial⟩ ?_ ?_
      · have B1 : Hid (Below w34.heap.size w34 w34) := Lib.hid (Below.refl _ _)
        rcases b1 with _ | _
        · refine Sp.Cd.seq fun K86 hK86 => ?_
          refine Sp.Cd.region ?_
          refine Sp.L.pure (by kernel_rfl) (Sp.Runs.move rfl) ?_
          refine Sp.L.pure (by kernel_rfl) (Sp.Runs.move rfl) ?_
          refine Sp.L.skip (by kernel_rfl) ?_
          refine Sp.L.skip (by kernel_rfl) ?_
          refine Sp.L.skip (by kernel_rfl) ?_
          refine Sp.L.skip (by kernel_rfl) ?_
          refine Sp.L.skip (by kernel_rfl) ?_
          refine Sp.L.skip (by kernel_rfl) ?_
          refine Sp.L.skip (by kernel_rfl) ?_
          refine Sp.L.skip (by kernel_rfl) ?_
          refine Sp.L.skip (by kernel_rfl) ?_
          refine Sp.L.skip (by kernel_rfl) ?_
          refine Sp.L.skip (by kernel_rfl) ?_
          refine Sp.L.skip (by kernel_rfl) ?_
          refine Sp.L.skip (by kernel_rfl) ?_
          refine Sp.L.skip (by kernel_rfl) ?_
          refine Sp.L.skip (by kernel_rfl) ?_
          refine Sp.L.pure (by kernel_rfl) (Sp.Runs.pickF rfl rfl) ?_
          refine Sp.L.nil ?_
          refine hK86 _ _ (Sp.Cd.sub (S' := [(57, _), (58, _), (59, _), (60, _), (61, _), (65, _), (66, _), (67, _), (68, _), (69, _), (73, _), (74, _), (766, _)]) ⟨rfl, rfl, rfl, rfl, rfl, rfl, rfl, rfl, rfl, rfl, rfl, rfl, rfl, trivial⟩ ?_)
          clear hK86 K86
          refine Sp.Cd.condF rfl ?_
          refine Sp.Cd.skip ?_
          refine Sp.Nx.post () ⟨rfl, rfl, rfl, rfl, rfl, rfl, rfl, rfl, rfl, rfl, rfl, rfl, trivial⟩ (B1.out)
        · obtain ⟨k1, k2, k3, k4, k5⟩ := count_hollow hb1.symm
          have k6 : 3 ≤ s - 2 * t + 1000 := by omega
          have pr1 := Sp.mulbd (a := s) (b := s) (A := 1000) (B := 1000) (by omega) (by omega) (by omega) (by omega)
          have pr2 : -1000000 ≤ (s - 2 * t) * (s - 2 * t) ∧ (s - 2 * t) * (s - 2 * t) ≤ 1000000 := by have := Sp.sq_bd (a := s - 2 * t) (A := 1000) (by omega) (by omega) (by omega); omega
          rw [← hhl] at k5
          refine Sp.Cd.seq fun K87 hK87 => ?_
          refine Sp.Cd.region ?_
          refine Sp.L.pure (by kernel_rfl) (Sp.Runs.move rfl) ?_
          refine Sp.L.pure (by kernel_rfl) (Sp.Runs.move rfl) ?_
          refine Sp.L.pure (by kernel_rfl) (Sp.Runs.move rfl) ?_
          refine Sp.L.pure (by kernel_rfl) (Sp.Runs.move rfl) ?_
          refine Sp.L.pure (by kernel_rfl) (Sp.Runs.move rfl) ?_
          refine Sp.L.pure (by kernel_rfl) (Sp.Runs.mulI rfl rfl (Sp.wrapI (by omega) (by omega))) ?_
          refine Sp.L.pure (by kernel_rfl) (Sp.Runs.move rfl) ?_
          refine Sp.L.pure (by kernel_rfl) (Sp.Runs.move rfl) ?_
          refine Sp.L.pure (by kernel_rfl) (Sp.Runs.mulI rfl rfl (Sp.wrapI (by omega) (by omega))) ?_
          refine Sp.L.pure (by kernel_rfl) (Sp.Runs.subI rfl rfl (Sp.wrapI (by omega) (by omega))) ?_
          refine Sp.L.pure (by kernel_rfl) (Sp.Runs.move rfl) ?_
          refine Sp.L.pure (by kernel_rfl) (Sp.Runs.move rfl) ?_
          refine Sp.L.pure (by kernel_rfl) (Sp.Runs.mulI rfl rfl (Sp.wrapI (by omega) (by omega))) ?_
          refine Sp.L.pure (by kernel_rfl) (Sp.Runs.subI rfl rfl (Sp.wrapI (by omega) (by omega))) ?_
          refine Sp.L.pure (by kernel_rfl) (Sp.Runs.mulI rfl rfl (Sp.wrapI (by omega) (by omega))) ?_
          refine Sp.L.pure (by kernel_rfl) (Sp.Runs.subI rfl rfl (Sp.wrapI (by omega) (by omega))) ?_
          refine Sp.L.pure (by kernel_rfl) (Sp.Runs.neIF rfl rfl (by first | rfl | assumption | omega)) ?_
          refine Sp.L.pure (by kernel_rfl) (Sp.Runs.pickT rfl rfl) ?_
          refine Sp.L.nil ?_
          refine hK87 _ _ (Sp.Cd.sub (S' := [(57, _), (58, _), (59, _), (60, _), (61, _), (65, _), (66, _), (67, _), (68, _), (69, _), (73, _), (74, _), (766, _)]) ⟨rfl, rfl, rfl, rfl, rfl, rfl, rfl, rfl, rfl, rfl, rfl, rfl, rfl, trivial⟩ ?_)
          clear hK87 K87
          refine Sp.Cd.condF rfl ?_
          refine Sp.Cd.skip ?_
          refine Sp.Nx.post () ⟨rfl, rfl, rfl, rfl, rfl, rfl, rfl, rfl, rfl, rfl, rfl, rfl, trivial⟩ (B1.out)
      · intro w35 b
        replace B0 := Lib.hid (B0.out.trans (b.mono B0.out.size))
        replace HYa := Lib.hid (HYa.out.below b)
        replace HYb := Lib.hid (HYb.out.below b)
        clear b
        refine Sp.Cd.cutK [(65, _), (66, _), (67, _), (68, _), (69, _), (73, _), (74, _)] ⟨rfl, rfl, rfl, rfl, rfl, rfl, rfl, trivial⟩ ?_ ?_
        · have B1 : Hid (Below w35.heap.size w35 w35) := Lib.hid (Below.refl _ _)
          rcases b2 with _ | _
          · refine Sp.Cd.seq fun K88 hK88 => ?_
            refine Sp.Cd.region ?_
            refine Sp.L.pure (by kernel_rfl) (Sp.Runs.move rfl) ?_
            refine Sp.L.pure (by kernel_rfl) (Sp.Runs.move rfl) ?_
            refine Sp.L.skip (by kernel_rfl) ?_
            refine Sp.L.skip (by kernel_rfl) ?_
            refine Sp.L.skip (by kernel_rfl) ?_
            refine Sp.L.skip (by kernel_rfl) ?_
            refine Sp.L.skip (by kernel_rfl) ?_
            refine Sp.L.skip (by kernel_rfl) ?_
            refine Sp.L.skip (by kernel_rfl) ?_
            refine Sp.L.skip (by kernel_rfl) ?_
            refine Sp.L.skip (by kernel_rfl) ?_
            refine Sp.L.skip (by kernel_rfl) ?_
            refine Sp.L.skip (by kernel_rfl) ?_
            refine Sp.L.skip (by kernel_rfl) ?_
            refine Sp.L.skip (by kernel_rfl) ?_
            refine Sp.L.skip (by kernel_rfl) ?_
            refine Sp.L.skip (by kernel_rfl) ?_
            refine Sp.L.skip (by kernel_rfl) ?_
            refine Sp.L.skip (by kernel_rfl) ?_
            refine Sp.L.skip (by kernel_rfl) ?_
            refine Sp.L.skip (by kernel_rfl) ?_
            refine Sp.L.skip (by kernel_rfl) ?_
            refine Sp.L.skip (by kernel_rfl) ?_
            refine Sp.L.skip (by kernel_rfl) ?_
            refine Sp.L.skip (by kernel_rfl) ?_
            refine Sp.L.skip (by kernel_rfl) ?_
            refine Sp.L.skip (by kernel_rfl) ?_
            refine Sp.L.skip (by kernel_rfl) ?_
            refine Sp.L.pure (by kernel_rfl) (Sp.Runs.pickF rfl rfl) ?_
            refine Sp.L.nil ?_
            refine hK88 _ _ (Sp.Cd.sub (S' := [(65, _), (66, _), (67, _), (68, _), (69, _), (73, _), (74, _), (795, _)]) ⟨rfl, rfl, rfl, rfl, rfl, rfl, rfl, rfl, trivial⟩ ?_)
            clear hK88 K88
            refine Sp.Cd.condF rfl ?_
            refine Sp.Cd.skip ?_
            refine Sp.Nx.post () ⟨rfl, rfl, rfl, rfl, rfl, rfl, rfl, trivial⟩ (B1.out)
          · obtain ⟨k1, k2, k3, k4, k5, k6, k7, k8, k9⟩ := great_hollow hb2.symm
            rw [← hgr] at k5 k6 k7
            rw [← hre] at k7 k8 k9
            have pr1 := Sp.mulbd (a := 4 * q) (b := gr - q) (A := 4000) (B := 251000) (by omega) (by omega) (by omega) (by omega)
            refine Sp.Cd.seq fun K89 hK89 => ?_
            refine Sp.Cd.region ?_
            refine Sp.L.pure (by kernel_rfl) (Sp.Runs.move rfl) ?_
            refine Sp.L.pure (by kernel_rfl) (Sp.Runs.move rfl) ?_
            refine Sp.L.pure (by kernel_rfl) (Sp.Runs.move rfl) ?_
            refine Sp.L.pure (by kernel_rfl) (Sp.Runs.move rfl) ?_
            refine Sp.L.pure (by kernel_rfl) (Sp.Runs.mulI rfl rfl (Sp.wrapI (by omega) (by omega))) ?_
            refine Sp.L.pure (by kernel_rfl) (Sp.Runs.leIF rfl rfl (by first | rfl | assumption | omega)) ?_
            refine Sp.L.pure (by kernel_rfl) (Sp.Runs.move rfl) ?_
            refine Sp.L.pure (by kernel_rfl) (Sp.Runs.move rfl) ?_
            refine Sp.L.pure (by kernel_rfl) (Sp.Runs.mulI rfl rfl (Sp.wrapI (by omega) (by omega))) ?_
            refine Sp.L.pure (by kernel_rfl) (Sp.Runs.move rfl) ?_
            refine Sp.L.pure (by kernel_rfl) (Sp.Runs.move rfl) ?_
            refine Sp.L.pure (by kernel_rfl) (Sp.Runs.subI rfl rfl (Sp.wrapI (by omega) (by omega))) ?_
            refine Sp.L.pure (by kernel_rfl) (Sp.Runs.mulI rfl rfl (Sp.wrapI (by omega) (by omega))) ?_
            refine Sp.L.pure (by kernel_rfl) (Sp.Runs.move rfl) ?_
            refine Sp.L.pure (by kernel_rfl) (Sp.Runs.addI rfl rfl (Sp.wrapI (by omega) (by omega))) ?_
            refine Sp.L.pure (by kernel_rfl) (Sp.Runs.move rfl) ?_
            refine Sp.L.pure (by kernel_rfl) (Sp.Runs.neIF rfl rfl (by first | rfl | assumption | omega)) ?_
            refine Sp.L.pure (by kernel_rfl) (Sp.Runs.pickF rfl rfl) ?_
            refine Sp.L.pure (by kernel_rfl) (Sp.Runs.move rfl) ?_
            refine Sp.L.pure (by kernel_rfl) (Sp.Runs.move rfl) ?_
            refine Sp.L.pure (by kernel_rfl) (Sp.Runs.ltIF rfl rfl (by first | rfl | assumption | omega)) ?_
            refine Sp.L.pure (by kernel_rfl) (Sp.Runs.pickF rfl rfl) ?_
            refine Sp.L.pure (by kernel_rfl) (Sp.Runs.move rfl) ?_
            refine Sp.L.pure (by kernel_rfl) (Sp.Runs.move rfl) ?_
            refine Sp.L.pure (by kernel_rfl) (Sp.Runs.move rfl) ?_
            refine Sp.L.pure (by kernel_rfl) (Sp.Runs.mulI rfl rfl (Sp.wrapI (by omega) (by omega))) ?_
            refine Sp.L.pure (by kernel_rfl) (Sp.Runs.geIF rfl rfl (by first | rfl | assumption | omega)) ?_
            refine Sp.L.pure (by kernel_rfl) (Sp.Runs.pickF rfl rfl) ?_
            refine Sp.L.pure (by kernel_rfl) (Sp.Runs.pickT rfl rfl) ?_
            refine Sp.L.nil ?_
            refine hK89 _ _ (Sp.Cd.sub (S' := [(65, _), (66, _), (67, _), (68, _), (69, _), (73, _), (74, _), (795, _)]) ⟨rfl, rfl, rfl, rfl, rfl, rfl, rfl, rfl, trivial⟩ ?_)
            clear hK89 K89
            refine Sp.Cd.condF rfl ?_
            refine Sp.Cd.skip ?_
            refine Sp.Nx.post () ⟨rfl, rfl, rfl, rfl, rfl, rfl, rfl, trivial⟩ (B1.out)
        · intro w36 b
          replace B0 := Lib.hid (B0.out.trans (b.mono B0.out.size))
          replace HYa := Lib.hid (HYa.out.below b)
          replace HYb := Lib.hid (HYb.out.below b)
          clear b
          refine Sp.Cd.cutK [] trivial ?_ ?_
          · have B1 : Hid (Below w36.heap.size w36 w36) := Lib.hid (Below.refl _ _)
            rcases b3 with _ | _
            · refine Sp.Cd.seq fun K90 hK90 => ?_
              refine Sp.Cd.region ?_
              refine Sp.L.pure (by kernel_rfl) (Sp.Runs.move rfl) ?_
              refine Sp.L.nil ?_
              refine hK90 _ _ (Sp.Cd.sub (S' := [(65, _), (66, _), (67, _), (68, _), (73, _), (74, _), (796, _)]) ⟨rfl, rfl, rfl, rfl, rfl, rfl, rfl, trivial⟩ ?_)
              clear hK90 K90
              refine Sp.Cd.condF rfl ?_
              refine Sp.Cd.skip ?_
              refine Sp.Nx.post () trivial (B1.out)
            · obtain ⟨k1, k2, k3, k4, k5, k6, k7, k8, k9, k10, k11, k12⟩ := place_in hb3.symm
              rw [← hsn, ← hro] at k5
              rw [← hro] at k6 k7 k8 k11 k12
              rw [← hcl] at k6 k9 k10 k11 k12
              rw [← hat'] at k11 k12
              have pr1 := Sp.mulbd (a := ro) (b := columns) (A := 999999) (B := 1000) (by omega) (by omega) (by omega) (by omega)
              refine Sp.Cd.seq fun K91 hK91 => ?_
              refine Sp.Cd.region ?_
              refine Sp.L.pure (by kernel_rfl) (Sp.Runs.move rfl) ?_
              refine Sp.L.nil ?_
              refine hK91 _ _ (Sp.Cd.sub (S' := [(65, _), (66, _), (67, _), (68, _), (73, _), (74, _), (796, _)]) ⟨rfl, rfl, rfl, rfl, rfl, rfl, rfl, trivial⟩ ?_)
              clear hK91 K91
              refine Sp.Cd.condT rfl ?_
              refine Sp.Cd.cutK [(65, _), (66, _), (67, _), (68, _), (73, _), (74, _)] ⟨rfl, rfl, rfl, rfl, rfl, rfl, trivial⟩ ?_ ?_
              · have B2 : Hid (Below w36.heap.size w36 w36) := Lib.hid (Below.refl _ _)
                by_cases hodd : ro % 2 = 1
                · rw [if_pos hodd] at k11
                  refine Sp.Cd.seq fun K92 hK92 => ?_
                  refine Sp.Cd.region ?_
                  refine Sp.L.pure (by kernel_rfl) (Sp.Runs.move rfl) ?_
                  refine Sp.L.pure (by kernel_rfl) (Sp.Runs.move rfl) ?_
                  refine Sp.L.pure (by kernel_rfl) (Sp.Runs.neIF rfl rfl (by first | rfl | assumption | omega)) ?_
                  refine Sp.L.pure (by kernel_rfl) (Sp.Runs.move rfl) ?_
                  refine Sp.L.pure (by kernel_rfl) (Sp.Runs.move rfl) ?_
                  refine Sp.L.pure (by kernel_rfl) (Sp.Runs.move rfl) ?_
                  refine Sp.L.pure (by kernel_rfl) (Sp.Runs.mulI rfl rfl (Sp.wrapI (by omega) (by omega))) ?_
                  refine Sp.L.pure (by kernel_rfl) (Sp.Runs.move rfl) ?_
                  refine Sp.L.pure (by kernel_rfl) (Sp.Runs.addI rfl rfl (Sp.wrapI (by omega) (by omega))) ?_
                  refine Sp.L.pure (by kernel_rfl) (Sp.Runs.move rfl) ?_
                  refine Sp.L.pure (by kernel_rfl) (Sp.Runs.neIF rfl rfl (by first | rfl | assumption | omega)) ?_
                  refine Sp.L.pure (by kernel_rfl) (Sp.Runs.pickF rfl rfl) ?_
                  refine Sp.L.pure (by kernel_rfl) (Sp.Runs.move rfl) ?_
                  refine Sp.L.pure (by kernel_rfl) (Sp.Runs.move rfl) ?_
                  refine Sp.L.pure (by kernel_rfl) (Sp.Runs.remI rfl rfl (by decide) (Sp.tmod_nn (by omega))) ?_
                  refine Sp.L.pure (by kernel_rfl) (Sp.Runs.eqIF rfl rfl (by omega)) ?_
                  refine Sp.L.pure (by kernel_rfl) (Sp.Runs.move rfl) ?_
                  refine Sp.L.skip (by kernel_rfl) ?_
                  refine Sp.L.skip (by kernel_rfl) ?_
                  refine Sp.L.skip (by kernel_rfl) ?_
                  refine Sp.L.pure (by kernel_rfl) (Sp.Runs.pickF rfl rfl) ?_
                  refine Sp.L.pure (by kernel_rfl) (Sp.Runs.pickF rfl rfl) ?_
                  refine Sp.L.pure (by kernel_rfl) (Sp.Runs.move rfl) ?_
                  refine Sp.L.pure (by kernel_rfl) (Sp.Runs.move rfl) ?_
                  refine Sp.L.pure (by kernel_rfl) (Sp.Runs.remI rfl rfl (by decide) (Sp.tmod_nn (by omega))) ?_
                  refine Sp.L.pure (by kernel_rfl) (Sp.Runs.eqIT rfl rfl (by omega)) ?_
                  refine Sp.L.pure (by kernel_rfl) (Sp.Runs.move rfl) ?_
                  refine Sp.L.pure (by kernel_rfl) (Sp.Runs.move rfl) ?_
                  refine Sp.L.pure (by kernel_rfl) (Sp.Runs.move rfl) ?_
                  refine Sp.L.pure (by kernel_rfl) (Sp.Runs.addI rfl rfl (Sp.wrapI (by omega) (by omega))) ?_
                  refine Sp.L.pure (by kernel_rfl) (Sp.Runs.move rfl) ?_
                  refine Sp.L.pure (by kernel_rfl) (Sp.Runs.subI rfl rfl (Sp.wrapI (by omega) (by omega))) ?_
                  refine Sp.L.pure (by kernel_rfl) (Sp.Runs.neIF rfl rfl (by omega)) ?_
                  refine Sp.L.pure (by kernel_rfl) (Sp.Runs.pickT rfl rfl) ?_
                  refine Sp.L.pure (by kernel_rfl) (Sp.Runs.pickF rfl rfl) ?_
                  refine Sp.L.nil ?_
                  refine hK92 _ _ (Sp.Cd.sub (S' := [(65, _), (66, _), (67, _), (68, _), (73, _), (74, _), (831, _)]) ⟨rfl, rfl, rfl, rfl, rfl, rfl, rfl, trivial⟩ ?_)
                  clear hK92 K92
                  refine Sp.Cd.condF rfl ?_
                  refine Sp.Cd.skip ?_
                  refine Sp.Nx.post () ⟨rfl, rfl, rfl, rfl, rfl, rfl, trivial⟩ (B2.out)
                · rw [if_neg hodd] at k11
                  refine Sp.Cd.seq fun K93 hK93 => ?_
                  refine Sp.Cd.region ?_
                  refine Sp.L.pure (by kernel_rfl) (Sp.Runs.move rfl) ?_
                  refine Sp.L.pure (by kernel_rfl) (Sp.Runs.move rfl) ?_
                  refine Sp.L.pure (by kernel_rfl) (Sp.Runs.neIF rfl rfl (by first | rfl | assumption | omega)) ?_
                  refine Sp.L.pure (by kernel_rfl) (Sp.Runs.move rfl) ?_
                  refine Sp.L.pure (by kernel_rfl) (Sp.Runs.move rfl) ?_
                  refine Sp.L.pure (by kernel_rfl) (Sp.Runs.move rfl) ?_
                  refine Sp.L.pure (by kernel_rfl) (Sp.Runs.mulI rfl rfl (Sp.wrapI (by omega) (by omega))) ?_
                  refine Sp.L.pure (by kernel_rfl) (Sp.Runs.move rfl) ?_
                  refine Sp.L.pure (by kernel_rfl) (Sp.Runs.addI rfl rfl (Sp.wrapI (by omega) (by omega))) ?_
                  refine Sp.L.pure (by kernel_rfl) (Sp.Runs.move rfl) ?_
                  refine Sp.L.pure (by kernel_rfl) (Sp.Runs.neIF rfl rfl (by first | rfl | assumption | omega)) ?_
                  refine Sp.L.pure (by kernel_rfl) (Sp.Runs.pickF rfl rfl) ?_
                  refine Sp.L.pure (by kernel_rfl) (Sp.Runs.move rfl) ?_
                  refine Sp.L.pure (by kernel_rfl) (Sp.Runs.move rfl) ?_
                  refine Sp.L.pure (by kernel_rfl) (Sp.Runs.remI rfl rfl (by decide) (Sp.tmod_nn (by omega))) ?_
                  refine Sp.L.pure (by kernel_rfl) (Sp.Runs.eqIT rfl rfl (by omega)) ?_
                  refine Sp.L.pure (by kernel_rfl) (Sp.Runs.move rfl) ?_
                  refine Sp.L.pure (by kernel_rfl) (Sp.Runs.move rfl) ?_
                  refine Sp.L.pure (by kernel_rfl) (Sp.Runs.move rfl) ?_
                  refine Sp.L.pure (by kernel_rfl) (Sp.Runs.neIF rfl rfl (by omega)) ?_
                  refine Sp.L.pure (by kernel_rfl) (Sp.Runs.pickT rfl rfl) ?_
                  refine Sp.L.pure (by kernel_rfl) (Sp.Runs.pickF rfl rfl) ?_
                  refine Sp.L.pure (by kernel_rfl) (Sp.Runs.move rfl) ?_
                  refine Sp.L.pure (by kernel_rfl) (Sp.Runs.move rfl) ?_
                  refine Sp.L.pure (by kernel_rfl) (Sp.Runs.remI rfl rfl (by decide) (Sp.tmod_nn (by omega))) ?_
                  refine Sp.L.pure (by kernel_rfl) (Sp.Runs.eqIF rfl rfl (by omega)) ?_
                  refine Sp.L.pure (by kernel_rfl) (Sp.Runs.move rfl) ?_
                  refine Sp.L.skip (by kernel_rfl) ?_
                  refine Sp.L.skip (by kernel_rfl) ?_
                  refine Sp.L.skip (by kernel_rfl) ?_
                  refine Sp.L.skip (by kernel_rfl) ?_
                  refine Sp.L.skip (by kernel_rfl) ?_
                  refine Sp.L.skip (by kernel_rfl) ?_
                  refine Sp.L.pure (by kernel_rfl) (Sp.Runs.pickF rfl rfl) ?_
                  refine Sp.L.pure (by kernel_rfl) (Sp.Runs.pickF rfl rfl) ?_
                  refine Sp.L.nil ?_
                  refine hK93 _ _ (Sp.Cd.sub (S' := [(65, _), (66, _), (67, _), (68, _), (73, _), (74, _), (831, _)]) ⟨rfl, rfl, rfl, rfl, rfl, rfl, rfl, trivial⟩ ?_)
                  clear hK93 K93
                  refine Sp.Cd.condF rfl ?_
                  refine Sp.Cd.skip ?_
                  refine Sp.Nx.post () ⟨rfl, rfl, rfl, rfl, rfl, rfl, trivial⟩ (B2.out)
              · intro w37 b
                replace B0 := Lib.hid (B0.out.trans (b.mono B0.out.size))
                replace B1 := Lib.hid (B1.out.trans (b.mono B1.out.size))
                replace HYa := Lib.hid (HYa.out.below b)
                replace HYb := Lib.hid (HYb.out.below b)
                clear b
                refine Sp.Cd.viaK [] trivial ?_ ?_
                · have B2 : Hid (Below w37.heap.size w37 w37) := Lib.hid (Below.refl _ _)
                  by_cases hk : ro ≤ 1000
                  · obtain ⟨j1, j2, j3, j4⟩ := k12 hk
                    have wr : (Lit.int .i64 ro).wf = true := WalkArith.wf_i64 ⟨by omega, by omega⟩
                    have wl : (Lit.int .i64 cl).wf = true := WalkArith.wf_i64 ⟨by omega, by omega⟩
                    have hab : 0 ≤ at' ∧ at' ≤ 1000 := by split at k11 <;> omega
                    have wa : (Lit.int .i64 at').wf = true := WalkArith.wf_i64 ⟨by omega, by omega⟩
                    obtain rfl : ro = sn := k5.symm
                    refine Sp.Cd.seq fun K94 hK94 => ?_
                    refine Sp.Cd.region ?_
                    refine Sp.L.pure (by kernel_rfl) (Sp.Runs.move rfl) ?_
                    refine Sp.L.pure (by kernel_rfl) (Sp.Runs.leIT rfl rfl hk) ?_
                    refine Sp.L.nil ?_
                    refine hK94 _ _ (Sp.Cd.sub (S' := [(65, _), (66, _), (67, _), (68, _), (73, _), (74, _), (833, _)]) ⟨rfl, rfl, rfl, rfl, rfl, rfl, rfl, trivial⟩ ?_)
                    clear hK94 K94
                    refine Sp.Cd.condT rfl ?_
                    refine Sp.Cd.seq fun K95 hK95 => ?_
                    refine Sp.Cd.region ?_
                    refine Sp.L.pure (by kernel_rfl) (Sp.Runs.move rfl) ?_
                    refine Sp.L.pure (by kernel_rfl) (Sp.Runs.move rfl) ?_
                    refine Sp.L.pure (by kernel_rfl) (Sp.Runs.move rfl) ?_
                    have CC := implSoldierAt_any w37 columns ro cl wc wr wl
                    rw [j1, j2] at CC
                    refine Sp.L.call (by kernel_rfl) (CC) rfl rfl (by kernel_rfl) ?_
                    clear CC
                    rintro e w38 ⟨rfl, b⟩
                    replace B0 := Lib.hid (B0.out.trans (b.mono B0.out.size))
                    replace B1 := Lib.hid (B1.out.trans (b.mono B1.out.size))
                    replace B2 := Lib.hid (B2.out.trans (b.mono B2.out.size))
                    replace HYa := Lib.hid (HYa.out.below b)
                    replace HYb := Lib.hid (HYb.out.below b)
                    clear b
                    refine ⟨_, rfl, ?_⟩
                    refine Sp.L.pure (by kernel_rfl) (Sp.Runs.move rfl) ?_
                    refine Sp.L.pure (by kernel_rfl) (Sp.Runs.extract rfl rfl) ?_
                    refine Sp.L.pure (by kernel_rfl) (Sp.Runs.extract rfl rfl) ?_
                    refine Sp.L.pure (by kernel_rfl) (Sp.Runs.assign rfl) ?_
                    refine Sp.L.pure (by kernel_rfl) (Sp.Runs.assign rfl) ?_
                    refine Sp.L.nil ?_
                    refine hK95 _ _ (Sp.Cd.sub (S' := [(65, _), (66, _), (73, _), (74, _), (90, _), (91, _)]) ⟨rfl, rfl, rfl, rfl, rfl, rfl, trivial⟩ ?_)
                    clear hK95 K95
                    refine Sp.Cd.seq fun K96 hK96 => ?_
                    refine Sp.Cd.region ?_
                    refine Sp.L.pure (by kernel_rfl) (Sp.Runs.move rfl) ?_
                    refine Sp.L.pure (by kernel_rfl) (Sp.Runs.move rfl) ?_
                    refine Sp.L.pure (by kernel_rfl) (Sp.Runs.move rfl) ?_
                    have CC := implSoldierOfSnake_any w38 columns ro at' wc wr wa
                    rw [j3, j4] at CC
                    refine Sp.L.call (by kernel_rfl) (CC) rfl rfl (by kernel_rfl) ?_
                    clear CC
                    rintro e w39 ⟨rfl, b⟩
                    replace B0 := Lib.hid (B0.out.trans (b.mono B0.out.size))
                    replace B1 := Lib.hid (B1.out.trans (b.mono B1.out.size))
                    replace B2 := Lib.hid (B2.out.trans (b.mono B2.out.size))
                    replace HYa := Lib.hid (HYa.out.below b)
                    replace HYb := Lib.hid (HYb.out.below b)
                    clear b
                    refine ⟨_, rfl, ?_⟩
                    refine Sp.L.pure (by kernel_rfl) (Sp.Runs.move rfl) ?_
                    refine Sp.L.pure (by kernel_rfl) (Sp.Runs.extract rfl rfl) ?_
                    refine Sp.L.pure (by kernel_rfl) (Sp.Runs.extract rfl rfl) ?_
                    refine Sp.L.pure (by kernel_rfl) (Sp.Runs.assign rfl) ?_
                    refine Sp.L.pure (by kernel_rfl) (Sp.Runs.assign rfl) ?_
                    refine Sp.L.nil ?_
                    refine hK96 _ _ (Sp.Cd.sub (S' := [(66, _), (90, _), (91, _), (92, _), (93, _)]) ⟨rfl, rfl, rfl, rfl, rfl, trivial⟩ ?_)
                    clear hK96 K96
                    refine Sp.Cd.seq fun K97 hK97 => ?_
                    refine Sp.Cd.region ?_
                    refine Sp.L.pure (by kernel_rfl) (Sp.Runs.move rfl) ?_
                    refine Sp.L.pure (by kernel_rfl) (Sp.Runs.notF rfl) ?_
                    refine Sp.L.pure (by kernel_rfl) (Sp.Runs.move rfl) ?_
                    refine Sp.L.pure (by kernel_rfl) (Sp.Runs.move rfl) ?_
                    refine Sp.L.pure (by kernel_rfl) (Sp.Runs.move rfl) ?_
                    refine Sp.L.pure (by kernel_rfl) (Sp.Runs.neIF rfl rfl (by first | rfl | assumption | omega)) ?_
                    refine Sp.L.pure (by kernel_rfl) (Sp.Runs.pickF rfl rfl) ?_
                    refine Sp.L.pure (by kernel_rfl) (Sp.Runs.move rfl) ?_
                    refine Sp.L.pure (by kernel_rfl) (Sp.Runs.move rfl) ?_
                    refine Sp.L.pure (by kernel_rfl) (Sp.Runs.notF rfl) ?_
                    refine Sp.L.pure (by kernel_rfl) (Sp.Runs.pickF rfl rfl) ?_
                    refine Sp.L.pure (by kernel_rfl) (Sp.Runs.move rfl) ?_
                    refine Sp.L.pure (by kernel_rfl) (Sp.Runs.move rfl) ?_
                    refine Sp.L.pure (by kernel_rfl) (Sp.Runs.move rfl) ?_
                    refine Sp.L.pure (by kernel_rfl) (Sp.Runs.neIF rfl rfl (by first | rfl | assumption | omega)) ?_
                    refine Sp.L.pure (by kernel_rfl) (Sp.Runs.pickF rfl rfl) ?_
                    refine Sp.L.nil ?_
                    refine hK97 _ _ (Sp.Cd.sub (S' := [(863, _)]) ⟨rfl, trivial⟩ ?_)
                    clear hK97 K97
                    refine Sp.Cd.condF rfl ?_
                    refine Sp.Cd.skip ?_
                    refine Sp.Nx.post () trivial (B2.out)
                  · refine Sp.Cd.seq fun K98 hK98 => ?_
                    refine Sp.Cd.region ?_
                    refine Sp.L.pure (by kernel_rfl) (Sp.Runs.move rfl) ?_
                    refine Sp.L.pure (by kernel_rfl) (Sp.Runs.leIF rfl rfl hk) ?_
                    refine Sp.L.nil ?_
                    refine hK98 _ _ (Sp.Cd.sub (S' := [(65, _), (66, _), (67, _), (68, _), (73, _), (74, _), (833, _)]) ⟨rfl, rfl, rfl, rfl, rfl, rfl, rfl, trivial⟩ ?_)
                    clear hK98 K98
                    refine Sp.Cd.condF rfl ?_
                    refine Sp.Cd.skip ?_
                    refine Sp.Nx.post () trivial (B2.out)
                · intro w38 b
                  replace B0 := Lib.hid (B0.out.trans (b.mono B0.out.size))
                  replace B1 := Lib.hid (B1.out.trans (b.mono B1.out.size))
                  replace HYa := Lib.hid (HYa.out.below b)
                  replace HYb := Lib.hid (HYb.out.below b)
                  clear b
                  refine Sp.Nx.post () trivial (B1.out)
          · intro w37 b
            replace B0 := Lib.hid (B0.out.trans (b.mono B0.out.size))
            replace HYa := Lib.hid (HYa.out.below b)
            replace HYb := Lib.hid (HYb.out.below b)
            clear b
            refine Sp.Cd.seq fun K99 hK99 => ?_
            refine Sp.Cd.region ?_
            refine Sp.L.pure (by kernel_rfl) (Sp.Runs.assign rfl) ?_
            refine Sp.L.nil ?_
            refine hK99 _ _ (Sp.Cd.sub (S' := [(4, _)]) ⟨rfl, trivial⟩ ?_)
            clear hK99 K99
            refine Sp.Cd.ret ?_
            refine Sp.Rt.body rfl rfl ?_
            exact ⟨rfl, B0.out⟩
  · refine Sp.Cd.condT rfl ?_
    refine Sp.Cd.seq fun K100 hK100 => ?_
    refine Sp.Cd.region ?_
    refine Sp.L.pure (by kernel_rfl) (Sp.Runs.assign rfl) ?_
    refine Sp.L.nil ?_
    refine hK100 _ _ (Sp.Cd.sub (S' := [(4, _)]) ⟨rfl, trivial⟩ ?_)
    clear hK100 K100
    refine Sp.Cd.ret ?_
    refine Sp.Rt.then ?_
    refine Sp.Rt.body rfl rfl ?_
    exact ⟨rfl, B0.out⟩
end Go.Proofs.Ytjdbmkphakpmbaa
