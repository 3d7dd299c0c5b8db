/- The walk of the composite law FnRowsRest. Written by a program of mine (tools/sp/w_rr.py). -/
import Derived.Test.YtacchefmblfobaaRb
import Derived.Test.YtacchefmblfobaaSs
import Derived.Test.YtacchefmblfobaaCuR
namespace Go.Proofs.Ytacchefmblfobaa
open Go.ChangeShapes Go.WideShapes Go.ChangeAt Go.RowKit
open Qs Cu
set_option maxRecDepth 20000 in
set_option maxHeartbeats 40000000 in
theorem walkFnRowsRest (xa : Option Addr) (la ca : Nat) (xb : Option Addr) (lb cb : Nat) (w0 : World) (hx : Bytes w0 xa la) (h1 : la ≤ 9223372036854775807) (hy : Bytes w0 xb lb) (h2 : lb ≤ 9223372036854775807) :
    Calls Try.prog 3 #[.slice xa la ca, .slice xb lb cb] w0 fun e w' => e = .returned (.bool true) ∧ Below w0.heap.size w0 w' := by
  have B0 : Hid (Below w0.heap.size w0 w0) := Lib.hid (Below.refl _ _)
  have HYa := Lib.hid hx
  have HYb := Lib.hid hy
  clear hx hy
  obtain ⟨tb, htb⟩ : ∃ x, x = bigB la lb := ⟨_, rfl⟩
  refine Sp.enter (N := 674) (args := [.slice xa la ca, .slice xb lb cb]) Try.func3 rfl rfl (by kernel_rfl) ?_
  refine Sp.Cd.seq fun K1 hK1 => ?_
  refine Sp.Cd.region ?_
  refine Sp.L.pure (by kernel_rfl) (Sp.Runs.assign rfl) ?_
  refine Sp.L.nil ?_
  refine hK1 _ _ (Sp.Cd.sub (S' := [(0, _), (1, _)]) ⟨rfl, rfl, trivial⟩ ?_)
  clear hK1 K1
  refine Sp.Cd.seq fun K2 hK2 => ?_
  refine Sp.Cd.seq fun K3 hK3 => ?_
  refine Sp.Cd.region ?_
  refine Sp.L.pure (by kernel_rfl) (Sp.Runs.move rfl) ?_
  refine Sp.L.pure (by kernel_rfl) (Sp.Runs.move rfl) ?_
  have CC := big_p w0 xa xb la ca lb cb h1 h2
  rw [← htb] at CC
  refine Sp.L.call (by kernel_rfl) (CC) rfl rfl (by kernel_rfl) ?_
  clear CC
  rintro e w' ⟨rfl, rfl⟩
  refine ⟨_, rfl, ?_⟩
  refine Sp.L.nil ?_
  refine hK3 _ _ (Sp.Cd.sub (S' := [(0, _), (1, _), (85, _)]) ⟨rfl, rfl, rfl, trivial⟩ ?_)
  clear hK3 K3
  rcases tb with _ | _
  · refine Sp.Cd.condF rfl ?_
    refine Sp.Cd.skip ?_
    refine hK2 _ _ (Sp.Cd.sub (S' := [(0, _), (1, _)]) ⟨rfl, rfl, trivial⟩ ?_)
    clear hK2 K2
    refine Sp.Cd.seq fun K4 hK4 => ?_
    refine Sp.Cd.region ?_
    refine Sp.L.pure (by kernel_rfl) (Sp.Runs.move rfl) ?_
    refine Sp.L.call (by kernel_rfl) (drawTicksToRest_p w0 xa la ca h1 HYa.out) rfl rfl (by kernel_rfl) ?_
    rintro e w1 ⟨row, hrow, rfl, b⟩
    replace B0 := Lib.hid (B0.out.trans (b.mono B0.out.size))
    replace HYa := Lib.hid (HYa.out.below b)
    replace HYb := Lib.hid (HYb.out.below b)
    clear b
    refine ⟨_, rfl, ?_⟩
    have hml : maxLen = 9223372036854775807 := rfl
    have HR : Hid (row.size ≤ maxLen) := Lib.hid (by omega)
    have z1 : row.size ≤ 1048576 := by omega
    have FX0 : C1.goodB row = true → RestF row (bits row) (rowI Rw.ticksOf row) (rowI Rw.countOf row) (rowS Rw.restOf row) (rowS Rw.tick row) (rowS Rw.mir row) (rowS (fun l => l.map (!·)) row) (rowL turnsL row) (rowL Rw.pairs row) (rowB C1.restB row) := rest_facts
    have ST0 := lenTe row
    have SP0 := lenPr row
    obtain ⟨ok, hok⟩ : ∃ x, x = C1.goodB row := ⟨_, rfl⟩
    have Qok : Hid (C1.goodB row = ok) := Lib.hid hok.symm
    rw [← hok] at FX0
    clear hok
    obtain ⟨tk, htk⟩ : ∃ x, x = rowI Rw.ticksOf row := ⟨_, rfl⟩
    have Qtk : Hid (rowI Rw.ticksOf row = tk) := Lib.hid htk.symm
    rw [← htk] at FX0
    clear htk
    obtain ⟨rs, hrs⟩ : ∃ x, x = rowS Rw.restOf row := ⟨_, rfl⟩
    have Qrs : Hid (rowS Rw.restOf row = rs) := Lib.hid hrs.symm
    rw [← hrs] at FX0
    clear hrs
    obtain ⟨tn, htn⟩ : ∃ x, x = rowI Rw.countOf row := ⟨_, rfl⟩
    have Qtn : Hid (rowI Rw.countOf row = tn) := Lib.hid htn.symm
    rw [← htn] at FX0
    clear htn
    obtain ⟨te, hte⟩ : ∃ x, x = rowL turnsL row := ⟨_, rfl⟩
    have Qte : Hid (rowL turnsL row = te) := Lib.hid hte.symm
    rw [← hte] at FX0 ST0
    clear hte
    obtain ⟨pr, hpr⟩ : ∃ x, x = rowL Rw.pairs row := ⟨_, rfl⟩
    have Qpr : Hid (rowL Rw.pairs row = pr) := Lib.hid hpr.symm
    rw [← hpr] at FX0 SP0
    clear hpr
    obtain ⟨nx, hnx⟩ : ∃ x, x = rowS Rw.tick row := ⟨_, rfl⟩
    have Qnx : Hid (rowS Rw.tick row = nx) := Lib.hid hnx.symm
    rw [← hnx] at FX0
    clear hnx
    obtain ⟨st, hst⟩ : ∃ x, x = rowB C1.restB row := ⟨_, rfl⟩
    have Qst : Hid (rowB C1.restB row = st) := Lib.hid hst.symm
    rw [← hst] at FX0
    clear hst
    obtain ⟨mr, hmr⟩ : ∃ x, x = rowS Rw.mir row := ⟨_, rfl⟩
    have Qmr : Hid (rowS Rw.mir row = mr) := Lib.hid hmr.symm
    rw [← hmr] at FX0
    clear hmr
    obtain ⟨tu, htu⟩ : ∃ x, x = rowS (fun l => l.map (!·)) row := ⟨_, rfl⟩
    have Qtu : Hid (rowS (fun l => l.map (!·)) row = tu) := Lib.hid htu.symm
    rw [← htu] at FX0
    clear htu
    have FX := Lib.hid FX0
    have ST := Lib.hid ST0
    have SP := Lib.hid SP0
    clear FX0 ST0 SP0
    refine Sp.L.pure (by kernel_rfl) (Sp.Runs.assign rfl) ?_
    refine Sp.L.nil ?_
    refine hK4 _ _ (Sp.Cd.sub (S' := [(1, _), (5, _)]) ⟨rfl, rfl, trivial⟩ ?_)
    clear hK4 K4
    refine Sp.Cd.seq fun K5 hK5 => ?_
    refine Sp.Cd.region ?_
    refine Sp.L.pure (by kernel_rfl) (Sp.Runs.move rfl) ?_
    have CC := implTicksToRest_any row HR.out w1
    rw [Qtk.out, Qok.out] at CC
    refine Sp.L.call (by kernel_rfl) (CC) rfl rfl (by kernel_rfl) ?_
    clear CC
    rintro e w2 ⟨rfl, b⟩
    replace B0 := Lib.hid (B0.out.trans (b.mono B0.out.size))
    replace HYa := Lib.hid (HYa.out.below b)
    replace HYb := Lib.hid (HYb.out.below b)
    clear b
    refine ⟨_, rfl, ?_⟩
    refine Sp.L.pure (by kernel_rfl) (Sp.Runs.move rfl) ?_
    refine Sp.L.pure (by kernel_rfl) (Sp.Runs.extract rfl rfl) ?_
    refine Sp.L.pure (by kernel_rfl) (Sp.Runs.extract rfl rfl) ?_
    refine Sp.L.pure (by kernel_rfl) (Sp.Runs.assign rfl) ?_
    refine Sp.L.pure (by kernel_rfl) (Sp.Runs.assign rfl) ?_
    refine Sp.L.nil ?_
    refine hK5 _ _ (Sp.Cd.sub (S' := [(1, _), (5, _), (6, _), (7, _)]) ⟨rfl, rfl, rfl, rfl, trivial⟩ ?_)
    clear hK5 K5
    refine Sp.Cd.seq fun K6 hK6 => ?_
    refine Sp.Cd.region ?_
    refine Sp.L.pure (by kernel_rfl) (Sp.Runs.move rfl) ?_
    have CC := specTicksToRest_any row HR.out w2
    rw [Qtk.out, Qok.out] at CC
    refine Sp.L.call (by kernel_rfl) (CC) rfl rfl (by kernel_rfl) ?_
    clear CC
    rintro e w3 ⟨rfl, b⟩
    replace B0 := Lib.hid (B0.out.trans (b.mono B0.out.size))
    replace HYa := Lib.hid (HYa.out.below b)
    replace HYb := Lib.hid (HYb.out.below b)
    clear b
    refine ⟨_, rfl, ?_⟩
    refine Sp.L.pure (by kernel_rfl) (Sp.Runs.move rfl) ?_
    refine Sp.L.pure (by kernel_rfl) (Sp.Runs.extract rfl rfl) ?_
    refine Sp.L.pure (by kernel_rfl) (Sp.Runs.extract rfl rfl) ?_
    refine Sp.L.pure (by kernel_rfl) (Sp.Runs.assign rfl) ?_
    refine Sp.L.pure (by kernel_rfl) (Sp.Runs.assign rfl) ?_
    refine Sp.L.nil ?_
    refine hK6 _ _ (Sp.Cd.sub (S' := [(1, _), (5, _), (6, _), (7, _), (8, _), (9, _)]) ⟨rfl, rfl, rfl, rfl, rfl, rfl, trivial⟩ ?_)
    clear hK6 K6
    refine Sp.Cd.seq fun K7 hK7 => ?_
    refine Sp.Cd.region ?_
    refine Sp.L.pure (by kernel_rfl) (Sp.Runs.move rfl) ?_
    have CC := implRestOf_any row HR.out w3
    rw [Qrs.out, Qok.out] at CC
    refine Sp.L.call (by kernel_rfl) (CC) rfl rfl (by kernel_rfl) ?_
    clear CC
    rintro e w4 ⟨rfl, b⟩
    replace B0 := Lib.hid (B0.out.trans (b.mono B0.out.size))
    replace HYa := Lib.hid (HYa.out.below b)
    replace HYb := Lib.hid (HYb.out.below b)
    clear b
    refine ⟨_, rfl, ?_⟩
    refine Sp.L.pure (by kernel_rfl) (Sp.Runs.move rfl) ?_
    refine Sp.L.pure (by kernel_rfl) (Sp.Runs.extract rfl rfl) ?_
    refine Sp.L.pure (by kernel_rfl) (Sp.Runs.extract rfl rfl) ?_
    refine Sp.L.pure (by kernel_rfl) (Sp.Runs.assign rfl) ?_
    refine Sp.L.pure (by kernel_rfl) (Sp.Runs.assign rfl) ?_
    refine Sp.L.nil ?_
    refine hK7 _ _ (Sp.Cd.sub (S' := [(1, _), (5, _), (6, _), (7, _), (8, _), (9, _), (10, _), (11, _)]) ⟨rfl, rfl, rfl, rfl, rfl, rfl, rfl, rfl, trivial⟩ ?_)
    clear hK7 K7
    refine Sp.Cd.seq fun K8 hK8 => ?_
    refine Sp.Cd.region ?_
    refine Sp.L.pure (by kernel_rfl) (Sp.Runs.move rfl) ?_
    have CC := specRestOf_any row HR.out w4
    rw [Qrs.out, Qok.out] at CC
    refine Sp.L.call (by kernel_rfl) (CC) rfl rfl (by kernel_rfl) ?_
    clear CC
    rintro e w5 ⟨rfl, b⟩
    replace B0 := Lib.hid (B0.out.trans (b.mono B0.out.size))
    replace HYa := Lib.hid (HYa.out.below b)
    replace HYb := Lib.hid (HYb.out.below b)
    clear b
    refine ⟨_, rfl, ?_⟩
    refine Sp.L.pure (by kernel_rfl) (Sp.Runs.move rfl) ?_
    refine Sp.L.pure (by kernel_rfl) (Sp.Runs.extract rfl rfl) ?_
    refine Sp.L.pure (by kernel_rfl) (Sp.Runs.extract rfl rfl) ?_
    refine Sp.L.pure (by kernel_rfl) (Sp.Runs.assign rfl) ?_
    refine Sp.L.pure (by kernel_rfl) (Sp.Runs.assign rfl) ?_
    refine Sp.L.nil ?_
    refine hK8 _ _ (Sp.Cd.sub (S' := [(1, _), (5, _), (6, _), (7, _), (8, _), (9, _), (10, _), (11, _), (12, _), (13, _)]) ⟨rfl, rfl, rfl, rfl, rfl, rfl, rfl, rfl, rfl, rfl, trivial⟩ ?_)
    clear hK8 K8
    refine Sp.Cd.seq fun K9 hK9 => ?_
    refine Sp.Cd.region ?_
    refine Sp.L.pure (by kernel_rfl) (Sp.Runs.move rfl) ?_
    have CC := implCountTurns_any row HR.out w5
    rw [Qtn.out, Qok.out] at CC
    refine Sp.L.call (by kernel_rfl) (CC) rfl rfl (by kernel_rfl) ?_
    clear CC
    rintro e w6 ⟨rfl, b⟩
    replace B0 := Lib.hid (B0.out.trans (b.mono B0.out.size))
    replace HYa := Lib.hid (HYa.out.below b)
    replace HYb := Lib.hid (HYb.out.below b)
    clear b
    refine ⟨_, rfl, ?_⟩
    refine Sp.L.pure (by kernel_rfl) (Sp.Runs.move rfl) ?_
    refine Sp.L.pure (by kernel_rfl) (Sp.Runs.extract rfl rfl) ?_
    refine Sp.L.pure (by kernel_rfl) (Sp.Runs.extract rfl rfl) ?_
    refine Sp.L.pure (by kernel_rfl) (Sp.Runs.assign rfl) ?_
    refine Sp.L.pure (by kernel_rfl) (Sp.Runs.assign rfl) ?_
    refine Sp.L.nil ?_
    refine hK9 _ _ (Sp.Cd.sub (S' := [(1, _), (5, _), (6, _), (7, _), (8, _), (9, _), (10, _), (11, _), (12, _), (13, _), (14, _), (15, _)]) ⟨rfl, rfl, rfl, rfl, rfl, rfl, rfl, rfl, rfl, rfl, rfl, rfl, trivial⟩ ?_)
    clear hK9 K9
    refine Sp.Cd.seq fun K10 hK10 => ?_
    refine Sp.Cd.region ?_
    refine Sp.L.pure (by kernel_rfl) (Sp.Runs.move rfl) ?_
    have CC := specCountTurns_any row HR.out w6
    rw [Qtn.out, Qok.out] at CC
    refine Sp.L.call (by kernel_rfl) (CC) rfl rfl (by kernel_rfl) ?_
    clear CC
    rintro e w7 ⟨rfl, b⟩
    replace B0 := Lib.hid (B0.out.trans (b.mono B0.out.size))
    replace HYa := Lib.hid (HYa.out.below b)
    replace HYb := Lib.hid (HYb.out.below b)
    clear b
    refine ⟨_, rfl, ?_⟩
    refine Sp.L.pure (by kernel_rfl) (Sp.Runs.move rfl) ?_
    refine Sp.L.pure (by kernel_rfl) (Sp.Runs.extract rfl rfl) ?_
    refine Sp.L.pure (by kernel_rfl) (Sp.Runs.extract rfl rfl) ?_
    refine Sp.L.pure (by kernel_rfl) (Sp.Runs.assign rfl) ?_
    refine Sp.L.pure (by kernel_rfl) (Sp.Runs.assign rfl) ?_
    refine Sp.L.nil ?_
    refine hK10 _ _ (Sp.Cd.sub (S' := [(1, _), (5, _), (6, _), (7, _), (8, _), (9, _), (10, _), (11, _), (12, _), (13, _), (14, _), (15, _), (16, _), (17, _)]) ⟨rfl, rfl, rfl, rfl, rfl, rfl, rfl, rfl, rfl, rfl, rfl, rfl, rfl, rfl, trivial⟩ ?_)
    clear hK10 K10
    refine Sp.Cd.seq fun K11 hK11 => ?_
    refine Sp.Cd.region ?_
    refine Sp.L.pure (by kernel_rfl) (Sp.Runs.move rfl) ?_
    have CC := implTurnsOfEach_any row HR.out w7
    rw [Qte.out, Qok.out] at CC
    refine Sp.L.call (by kernel_rfl) (CC) rfl rfl (by kernel_rfl) ?_
    clear CC
    rintro e w8 ⟨vtei, rfl, otei, b⟩
    replace B0 := Lib.hid (B0.out.trans (b.mono B0.out.size))
    replace HYa := Lib.hid (HYa.out.below b)
    replace HYb := Lib.hid (HYb.out.below b)
    clear b
    obtain ⟨atei, ctei, etei, htei, ptei, qtei⟩ := otei.cameC
    obtain ⟨ltei, hltei⟩ : ∃ n, n = (te).length := ⟨_, rfl⟩
    rw [← hltei] at etei htei ptei
    have Htei := Lib.hid htei
    have Ltei := Lib.hid hltei
    have Ptei := Lib.hid (And.intro ptei qtei)
    clear htei hltei ptei qtei otei
    subst etei
    refine ⟨_, rfl, ?_⟩
    refine Sp.L.pure (by kernel_rfl) (Sp.Runs.move rfl) ?_
    refine Sp.L.pure (by kernel_rfl) (Sp.Runs.extract rfl rfl) ?_
    refine Sp.L.pure (by kernel_rfl) (Sp.Runs.extract rfl rfl) ?_
    refine Sp.L.pure (by kernel_rfl) (Sp.Runs.assign rfl) ?_
    refine Sp.L.pure (by kernel_rfl) (Sp.Runs.assign rfl) ?_
    refine Sp.L.nil ?_
    refine hK11 _ _ (Sp.Cd.sub (S' := [(1, _), (5, _), (6, _), (7, _), (8, _), (9, _), (10, _), (11, _), (12, _), (13, _), (14, _), (15, _), (16, _), (17, _), (18, _), (19, _)]) ⟨rfl, rfl, rfl, rfl, rfl, rfl, rfl, rfl, rfl, rfl, rfl, rfl, rfl, rfl, rfl, rfl, trivial⟩ ?_)
    clear hK11 K11
    refine Sp.Cd.seq fun K12 hK12 => ?_
    refine Sp.Cd.region ?_
    refine Sp.L.pure (by kernel_rfl) (Sp.Runs.move rfl) ?_
    have CC := specTurnsOfEach_any row HR.out w8
    rw [Qte.out, Qok.out] at CC
    refine Sp.L.call (by kernel_rfl) (CC) rfl rfl (by kernel_rfl) ?_
    clear CC
    rintro e w9 ⟨vtes, rfl, otes, b⟩
    replace B0 := Lib.hid (B0.out.trans (b.mono B0.out.size))
    replace HYa := Lib.hid (HYa.out.below b)
    replace HYb := Lib.hid (HYb.out.below b)
    replace Htei := Lib.hid (Htei.out.below b)
    clear b
    obtain ⟨ates, ctes, etes, htes, ptes, qtes⟩ := otes.cameC
    obtain ⟨ltes, hltes⟩ : ∃ n, n = (te).length := ⟨_, rfl⟩
    rw [← hltes] at etes htes ptes
    have Htes := Lib.hid htes
    have Ltes := Lib.hid hltes
    have Ptes := Lib.hid (And.intro ptes qtes)
    clear htes hltes ptes qtes otes
    subst etes
    refine ⟨_, rfl, ?_⟩
    refine Sp.L.pure (by kernel_rfl) (Sp.Runs.move rfl) ?_
    refine Sp.L.pure (by kernel_rfl) (Sp.Runs.extract rfl rfl) ?_
    refine Sp.L.pure (by kernel_rfl) (Sp.Runs.extract rfl rfl) ?_
    refine Sp.L.pure (by kernel_rfl) (Sp.Runs.assign rfl) ?_
    refine Sp.L.pure (by kernel_rfl) (Sp.Runs.assign rfl) ?_
    refine Sp.L.nil ?_
    refine hK12 _ _ (Sp.Cd.sub (S' := [(1, _), (5, _), (6, _), (7, _), (8, _), (9, _), (10, _), (11, _), (12, _), (13, _), (14, _), (15, _), (16, _), (17, _), (18, _), (19, _), (20, _), (21, _)]) ⟨rfl, rfl, rfl, rfl, rfl, rfl, rfl, rfl, rfl, rfl, rfl, rfl, rfl, rfl, rfl, rfl, rfl, rfl, trivial⟩ ?_)
    clear hK12 K12
    refine Sp.Cd.seq fun K13 hK13 => ?_
    refine Sp.Cd.region ?_
    refine Sp.L.pure (by kernel_rfl) (Sp.Runs.move rfl) ?_
    have CC := implFacingPairs_any row HR.out w9
    rw [Qpr.out, Qok.out] at CC
    refine Sp.L.call (by kernel_rfl) (CC) rfl rfl (by kernel_rfl) ?_
    clear CC
    rintro e w10 ⟨vpri, rfl, opri, b⟩
    replace B0 := Lib.hid (B0.out.trans (b.mono B0.out.size))
    replace HYa := Lib.hid (HYa.out.below b)
    replace HYb := Lib.hid (HYb.out.below b)
    replace Htei := Lib.hid (Htei.out.below b)
    replace Htes := Lib.hid (Htes.out.below b)
    clear b
    obtain ⟨apri, cpri, epri, hpri, ppri, qpri⟩ := opri.cameC
    obtain ⟨lpri, hlpri⟩ : ∃ n, n = (pr).length := ⟨_, rfl⟩
    rw [← hlpri] at epri hpri ppri
    have Hpri := Lib.hid hpri
    have Lpri := Lib.hid hlpri
    have Ppri := Lib.hid (And.intro ppri qpri)
    clear hpri hlpri ppri qpri opri
    subst epri
    refine ⟨_, rfl, ?_⟩
    refine Sp.L.pure (by kernel_rfl) (Sp.Runs.move rfl) ?_
    refine Sp.L.pure (by kernel_rfl) (Sp.Runs.extract rfl rfl) ?_
    refine Sp.L.pure (by kernel_rfl) (Sp.Runs.extract rfl rfl) ?_
    refine Sp.L.pure (by kernel_rfl) (Sp.Runs.assign rfl) ?_
    refine Sp.L.pure (by kernel_rfl) (Sp.Runs.assign rfl) ?_
    refine Sp.L.nil ?_
    refine hK13 _ _ (Sp.Cd.sub (S' := [(1, _), (5, _), (6, _), (7, _), (8, _), (9, _), (10, _), (11, _), (12, _), (13, _), (14, _), (15, _), (16, _), (17, _), (18, _), (19, _), (20, _), (21, _), (22, _), (23, _)]) ⟨rfl, rfl, rfl, rfl, rfl, rfl, rfl, rfl, rfl, rfl, rfl, rfl, rfl, rfl, rfl, rfl, rfl, rfl, rfl, rfl, trivial⟩ ?_)
    clear hK13 K13
    refine Sp.Cd.seq fun K14 hK14 => ?_
    refine Sp.Cd.region ?_
    refine Sp.L.pure (by kernel_rfl) (Sp.Runs.move rfl) ?_
    have CC := specFacingPairs_any row HR.out w10
    rw [Qpr.out, Qok.out] at CC
    refine Sp.L.call (by kernel_rfl) (CC) rfl rfl (by kernel_rfl) ?_
    clear CC
    rintro e w11 ⟨vprs, rfl, oprs, b⟩
    replace B0 := Lib.hid (B0.out.trans (b.mono B0.out.size))
    replace HYa := Lib.hid (HYa.out.below b)
    replace HYb := Lib.hid (HYb.out.below b)
    replace Htei := Lib.hid (Htei.out.below b)
    replace Htes := Lib.hid (Htes.out.below b)
    replace Hpri := Lib.hid (Hpri.out.below b)
    clear b
    obtain ⟨aprs, cprs, eprs, hprs, pprs, qprs⟩ := oprs.cameC
    obtain ⟨lprs, hlprs⟩ : ∃ n, n = (pr).length := ⟨_, rfl⟩
    rw [← hlprs] at eprs hprs pprs
    have Hprs := Lib.hid hprs
    have Lprs := Lib.hid hlprs
    have Pprs := Lib.hid (And.intro pprs qprs)
    clear hprs hlprs pprs qprs oprs
    subst eprs
    refine ⟨_, rfl, ?_⟩
    refine Sp.L.pure (by kernel_rfl) (Sp.Runs.move rfl) ?_
    refine Sp.L.pure (by kernel_rfl) (Sp.Runs.extract rfl rfl) ?_
    refine Sp.L.pure (by kernel_rfl) (Sp.Runs.extract rfl rfl) ?_
    refine Sp.L.pure (by kernel_rfl) (Sp.Runs.assign rfl) ?_
    refine Sp.L.pure (by kernel_rfl) (Sp.Runs.assign rfl) ?_
    refine Sp.L.nil ?_
    refine hK14 _ _ (Sp.Cd.sub (S' := [(1, _), (5, _), (6, _), (7, _), (8, _), (9, _), (10, _), (11, _), (12, _), (13, _), (14, _), (15, _), (16, _), (17, _), (18, _), (19, _), (20, _), (21, _), (22, _), (23, _), (24, _), (25, _)]) ⟨rfl, rfl, rfl, rfl, rfl, rfl, rfl, rfl, rfl, rfl, rfl, rfl, rfl, rfl, rfl, rfl, rfl, rfl, rfl, rfl, rfl, rfl, trivial⟩ ?_)
    clear hK14 K14
    refine Sp.Cd.seq fun K15 hK15 => ?_
    refine Sp.Cd.region ?_
    refine Sp.L.pure (by kernel_rfl) (Sp.Runs.move rfl) ?_
    have CC := implTickRow_any row HR.out w11
    rw [Qnx.out, Qok.out] at CC
    refine Sp.L.call (by kernel_rfl) (CC) rfl rfl (by kernel_rfl) ?_
    clear CC
    rintro e w12 ⟨rfl, b⟩
    replace B0 := Lib.hid (B0.out.trans (b.mono B0.out.size))
    replace HYa := Lib.hid (HYa.out.below b)
    replace HYb := Lib.hid (HYb.out.below b)
    replace Htei := Lib.hid (Htei.out.below b)
    replace Htes := Lib.hid (Htes.out.below b)
    replace Hpri := Lib.hid (Hpri.out.below b)
    replace Hprs := Lib.hid (Hprs.out.below b)
    clear b
    refine ⟨_, rfl, ?_⟩
    refine Sp.L.pure (by kernel_rfl) (Sp.Runs.move rfl) ?_
    refine Sp.L.pure (by kernel_rfl) (Sp.Runs.extract rfl rfl) ?_
    refine Sp.L.pure (by kernel_rfl) (Sp.Runs.extract rfl rfl) ?_
    refine Sp.L.pure (by kernel_rfl) (Sp.Runs.assign rfl) ?_
    refine Sp.L.pure (by kernel_rfl) (Sp.Runs.assign rfl) ?_
    refine Sp.L.nil ?_
    refine hK15 _ _ (Sp.Cd.sub (S' := [(1, _), (5, _), (6, _), (7, _), (8, _), (9, _), (10, _), (11, _), (12, _), (13, _), (14, _), (15, _), (16, _), (17, _), (18, _), (19, _), (20, _), (21, _), (22, _), (23, _), (24, _), (25, _), (26, _), (27, _)]) ⟨rfl, rfl, rfl, rfl, rfl, rfl, rfl, rfl, rfl, rfl, rfl, rfl, rfl, rfl, rfl, rfl, rfl, rfl, rfl, rfl, rfl, rfl, rfl, rfl, trivial⟩ ?_)
    clear hK15 K15
    refine Sp.Cd.seq fun K16 hK16 => ?_
    refine Sp.Cd.region ?_
    refine Sp.L.pure (by kernel_rfl) (Sp.Runs.move rfl) ?_
    have CC := specTickRow_any row HR.out w12
    rw [Qnx.out, Qok.out] at CC
    refine Sp.L.call (by kernel_rfl) (CC) rfl rfl (by kernel_rfl) ?_
    clear CC
    rintro e w13 ⟨rfl, b⟩
    replace B0 := Lib.hid (B0.out.trans (b.mono B0.out.size))
    replace HYa := Lib.hid (HYa.out.below b)
    replace HYb := Lib.hid (HYb.out.below b)
    replace Htei := Lib.hid (Htei.out.below b)
    replace Htes := Lib.hid (Htes.out.below b)
    replace Hpri := Lib.hid (Hpri.out.below b)
    replace Hprs := Lib.hid (Hprs.out.below b)
    clear b
    refine ⟨_, rfl, ?_⟩
    refine Sp.L.pure (by kernel_rfl) (Sp.Runs.move rfl) ?_
    refine Sp.L.pure (by kernel_rfl) (Sp.Runs.extract rfl rfl) ?_
    refine Sp.L.pure (by kernel_rfl) (Sp.Runs.extract rfl rfl) ?_
    refine Sp.L.pure (by kernel_rfl) (Sp.Runs.assign rfl) ?_
    refine Sp.L.pure (by kernel_rfl) (Sp.Runs.assign rfl) ?_
    refine Sp.L.nil ?_
    refine hK16 _ _ (Sp.Cd.sub (S' := [(1, _), (5, _), (6, _), (7, _), (8, _), (9, _), (10, _), (11, _), (12, _), (13, _), (14, _), (15, _), (16, _), (17, _), (18, _), (19, _), (20, _), (21, _), (22, _), (23, _), (24, _), (25, _), (26, _), (27, _), (28, _), (29, _)]) ⟨rfl, rfl, rfl, rfl, rfl, rfl, rfl, rfl, rfl, rfl, rfl, rfl, rfl, rfl, rfl, rfl, rfl, rfl, rfl, rfl, rfl, rfl, rfl, rfl, rfl, rfl, trivial⟩ ?_)
    clear hK16 K16
    refine Sp.Cd.seq fun K17 hK17 => ?_
    refine Sp.Cd.region ?_
    refine Sp.L.pure (by kernel_rfl) (Sp.Runs.move rfl) ?_
    have CC := implIsAtRest_any row HR.out w13
    rw [Qst.out, Qok.out] at CC
    refine Sp.L.call (by kernel_rfl) (CC) rfl rfl (by kernel_rfl) ?_
    clear CC
    rintro e w14 ⟨rfl, b⟩
    replace B0 := Lib.hid (B0.out.trans (b.mono B0.out.size))
    replace HYa := Lib.hid (HYa.out.below b)
    replace HYb := Lib.hid (HYb.out.below b)
    replace Htei := Lib.hid (Htei.out.below b)
    replace Htes := Lib.hid (Htes.out.below b)
    replace Hpri := Lib.hid (Hpri.out.below b)
    replace Hprs := Lib.hid (Hprs.out.below b)
    clear b
    refine ⟨_, rfl, ?_⟩
    refine Sp.L.pure (by kernel_rfl) (Sp.Runs.move rfl) ?_
    refine Sp.L.pure (by kernel_rfl) (Sp.Runs.extract rfl rfl) ?_
    refine Sp.L.pure (by kernel_rfl) (Sp.Runs.extract rfl rfl) ?_
    refine Sp.L.pure (by kernel_rfl) (Sp.Runs.assign rfl) ?_
    refine Sp.L.pure (by kernel_rfl) (Sp.Runs.assign rfl) ?_
    refine Sp.L.nil ?_
    refine hK17 _ _ (Sp.Cd.sub (S' := [(1, _), (5, _), (6, _), (7, _), (8, _), (9, _), (10, _), (11, _), (12, _), (13, _), (14, _), (15, _), (16, _), (17, _), (18, _), (19, _), (20, _), (21, _), (22, _), (23, _), (24, _), (25, _), (26, _), (27, _), (28, _), (29, _), (30, _), (31, _)]) ⟨rfl, rfl, rfl, rfl, rfl, rfl, rfl, rfl, rfl, rfl, rfl, rfl, rfl, rfl, rfl, rfl, rfl, rfl, rfl, rfl, rfl, rfl, rfl, rfl, rfl, rfl, rfl, rfl, trivial⟩ ?_)
    clear hK17 K17
    refine Sp.Cd.seq fun K18 hK18 => ?_
    refine Sp.Cd.region ?_
    refine Sp.L.pure (by kernel_rfl) (Sp.Runs.move rfl) ?_
    have CC := specIsAtRest_any row HR.out w14
    rw [Qst.out, Qok.out] at CC
    refine Sp.L.call (by kernel_rfl) (CC) rfl rfl (by kernel_rfl) ?_
    clear CC
    rintro e w15 ⟨rfl, b⟩
    replace B0 := Lib.hid (B0.out.trans (b.mono B0.out.size))
    replace HYa := Lib.hid (HYa.out.below b)
    replace HYb := Lib.hid (HYb.out.below b)
    replace Htei := Lib.hid (Htei.out.below b)
    replace Htes := Lib.hid (Htes.out.below b)
    replace Hpri := Lib.hid (Hpri.out.below b)
    replace Hprs := Lib.hid (Hprs.out.below b)
    clear b
    refine ⟨_, rfl, ?_⟩
    refine Sp.L.pure (by kernel_rfl) (Sp.Runs.move rfl) ?_
    refine Sp.L.pure (by kernel_rfl) (Sp.Runs.extract rfl rfl) ?_
    refine Sp.L.pure (by kernel_rfl) (Sp.Runs.extract rfl rfl) ?_
    refine Sp.L.pure (by kernel_rfl) (Sp.Runs.assign rfl) ?_
    refine Sp.L.pure (by kernel_rfl) (Sp.Runs.assign rfl) ?_
    refine Sp.L.nil ?_
    refine hK18 _ _ (Sp.Cd.sub (S' := [(1, _), (5, _), (6, _), (7, _), (8, _), (9, _), (10, _), (11, _), (12, _), (13, _), (14, _), (15, _), (16, _), (17, _), (18, _), (19, _), (20, _), (21, _), (22, _), (23, _), (24, _), (25, _), (26, _), (27, _), (28, _), (29, _), (30, _), (31, _), (32, _), (33, _)]) ⟨rfl, rfl, rfl, rfl, rfl, rfl, rfl, rfl, rfl, rfl, rfl, rfl, rfl, rfl, rfl, rfl, rfl, rfl, rfl, rfl, rfl, rfl, rfl, rfl, rfl, rfl, rfl, rfl, rfl, rfl, trivial⟩ ?_)
    clear hK18 K18
    refine Sp.Cd.seq fun K19 hK19 => ?_
    refine Sp.Cd.region ?_
    refine Sp.L.pure (by kernel_rfl) (Sp.Runs.move rfl) ?_
    have CC := implMirrorRow_any row HR.out w15
    rw [Qmr.out, Qok.out] at CC
    refine Sp.L.call (by kernel_rfl) (CC) rfl rfl (by kernel_rfl) ?_
    clear CC
    rintro e w16 ⟨rfl, b⟩
    replace B0 := Lib.hid (B0.out.trans (b.mono B0.out.size))
    replace HYa := Lib.hid (HYa.out.below b)
    replace HYb := Lib.hid (HYb.out.below b)
    replace Htei := Lib.hid (Htei.out.below b)
    replace Htes := Lib.hid (Htes.out.below b)
    replace Hpri := Lib.hid (Hpri.out.below b)
    replace Hprs := Lib.hid (Hprs.out.below b)
    clear b
    refine ⟨_, rfl, ?_⟩
    refine Sp.L.pure (by kernel_rfl) (Sp.Runs.move rfl) ?_
    refine Sp.L.pure (by kernel_rfl) (Sp.Runs.extract rfl rfl) ?_
    refine Sp.L.pure (by kernel_rfl) (Sp.Runs.extract rfl rfl) ?_
    refine Sp.L.pure (by kernel_rfl) (Sp.Runs.assign rfl) ?_
    refine Sp.L.pure (by kernel_rfl) (Sp.Runs.assign rfl) ?_
    refine Sp.L.nil ?_
    refine hK19 _ _ (Sp.Cd.sub (S' := [(1, _), (5, _), (6, _), (7, _), (8, _), (9, _), (10, _), (11, _), (12, _), (13, _), (14, _), (15, _), (16, _), (17, _), (18, _), (19, _), (20, _), (21, _), (22, _), (23, _), (24, _), (25, _), (26, _), (27, _), (28, _), (29, _), (30, _), (31, _), (32, _), (33, _), (34, _), (35, _)]) ⟨rfl, rfl, rfl, rfl, rfl, rfl, rfl, rfl, rfl, rfl, rfl, rfl, rfl, rfl, rfl, rfl, rfl, rfl, rfl, rfl, rfl, rfl, rfl, rfl, rfl, rfl, rfl, rfl, rfl, rfl, rfl, rfl, trivial⟩ ?_)
    clear hK19 K19
    refine Sp.Cd.seq fun K20 hK20 => ?_
    refine Sp.Cd.region ?_
    refine Sp.L.pure (by kernel_rfl) (Sp.Runs.move rfl) ?_
    have CC := specMirrorRow_any row HR.out w16
    rw [Qmr.out, Qok.out] at CC
    refine Sp.L.call (by kernel_rfl) (CC) rfl rfl (by kernel_rfl) ?_
    clear CC
    rintro e w17 ⟨rfl, b⟩
    replace B0 := Lib.hid (B0.out.trans (b.mono B0.out.size))
    replace HYa := Lib.hid (HYa.out.below b)
    replace HYb := Lib.hid (HYb.out.below b)
    replace Htei := Lib.hid (Htei.out.below b)
    replace Htes := Lib.hid (Htes.out.below b)
    replace Hpri := Lib.hid (Hpri.out.below b)
    replace Hprs := Lib.hid (Hprs.out.below b)
    clear b
    refine ⟨_, rfl, ?_⟩
    refine Sp.L.pure (by kernel_rfl) (Sp.Runs.move rfl) ?_
    refine Sp.L.pure (by kernel_rfl) (Sp.Runs.extract rfl rfl) ?_
    refine Sp.L.pure (by kernel_rfl) (Sp.Runs.extract rfl rfl) ?_
    refine Sp.L.pure (by kernel_rfl) (Sp.Runs.assign rfl) ?_
    refine Sp.L.pure (by kernel_rfl) (Sp.Runs.assign rfl) ?_
    refine Sp.L.nil ?_
    refine hK20 _ _ (Sp.Cd.sub (S' := [(1, _), (5, _), (6, _), (7, _), (8, _), (9, _), (10, _), (11, _), (12, _), (13, _), (14, _), (15, _), (16, _), (17, _), (18, _), (19, _), (20, _), (21, _), (22, _), (23, _), (24, _), (25, _), (26, _), (27, _), (28, _), (29, _), (30, _), (31, _), (32, _), (33, _), (34, _), (35, _), (36, _), (37, _)]) ⟨rfl, rfl, rfl, rfl, rfl, rfl, rfl, rfl, rfl, rfl, rfl, rfl, rfl, rfl, rfl, rfl, rfl, rfl, rfl, rfl, rfl, rfl, rfl, rfl, rfl, rfl, rfl, rfl, rfl, rfl, rfl, rfl, rfl, rfl, trivial⟩ ?_)
    clear hK20 K20
    refine Sp.Cd.seq fun K21 hK21 => ?_
    refine Sp.Cd.region ?_
    refine Sp.L.pure (by kernel_rfl) (Sp.Runs.move rfl) ?_
    have CC := implTurnedRow_any row HR.out w17
    rw [Qtu.out, Qok.out] at CC
    refine Sp.L.call (by kernel_rfl) (CC) rfl rfl (by kernel_rfl) ?_
    clear CC
    rintro e w18 ⟨rfl, b⟩
    replace B0 := Lib.hid (B0.out.trans (b.mono B0.out.size))
    replace HYa := Lib.hid (HYa.out.below b)
    replace HYb := Lib.hid (HYb.out.below b)
    replace Htei := Lib.hid (Htei.out.below b)
    replace Htes := Lib.hid (Htes.out.below b)
    replace Hpri := Lib.hid (Hpri.out.below b)
    replace Hprs := Lib.hid (Hprs.out.below b)
    clear b
    refine ⟨_, rfl, ?_⟩
    refine Sp.L.pure (by kernel_rfl) (Sp.Runs.move rfl) ?_
    refine Sp.L.pure (by kernel_rfl) (Sp.Runs.extract rfl rfl) ?_
    refine Sp.L.pure (by kernel_rfl) (Sp.Runs.extract rfl rfl) ?_
    refine Sp.L.pure (by kernel_rfl) (Sp.Runs.assign rfl) ?_
    refine Sp.L.pure (by kernel_rfl) (Sp.Runs.assign rfl) ?_
    refine Sp.L.nil ?_
    refine hK21 _ _ (Sp.Cd.sub (S' := [(1, _), (5, _), (6, _), (7, _), (8, _), (9, _), (10, _), (11, _), (12, _), (13, _), (14, _), (15, _), (16, _), (17, _), (18, _), (19, _), (20, _), (21, _), (22, _), (23, _), (24, _), (25, _), (26, _), (27, _), (28, _), (29, _), (30, _), (31, _), (32, _), (33, _), (34, _), (35, _), (36, _), (37, _), (38, _), (39, _)]) ⟨rfl, rfl, rfl, rfl, rfl, rfl, rfl, rfl, rfl, rfl, rfl, rfl, rfl, rfl, rfl, rfl, rfl, rfl, rfl, rfl, rfl, rfl, rfl, rfl, rfl, rfl, rfl, rfl, rfl, rfl, rfl, rfl, rfl, rfl, rfl, rfl, trivial⟩ ?_)
    clear hK21 K21
    refine Sp.Cd.seq fun K22 hK22 => ?_
    refine Sp.Cd.region ?_
    refine Sp.L.pure (by kernel_rfl) (Sp.Runs.move rfl) ?_
    have CC := specTurnedRow_any row HR.out w18
    rw [Qtu.out, Qok.out] at CC
    refine Sp.L.call (by kernel_rfl) (CC) rfl rfl (by kernel_rfl) ?_
    clear CC
    rintro e w19 ⟨rfl, b⟩
    replace B0 := Lib.hid (B0.out.trans (b.mono B0.out.size))
    replace HYa := Lib.hid (HYa.out.below b)
    replace HYb := Lib.hid (HYb.out.below b)
    replace Htei := Lib.hid (Htei.out.below b)
    replace Htes := Lib.hid (Htes.out.below b)
    replace Hpri := Lib.hid (Hpri.out.below b)
    replace Hprs := Lib.hid (Hprs.out.below b)
    clear b
    refine ⟨_, rfl, ?_⟩
    refine Sp.L.pure (by kernel_rfl) (Sp.Runs.move rfl) ?_
    refine Sp.L.pure (by kernel_rfl) (Sp.Runs.extract rfl rfl) ?_
    refine Sp.L.pure (by kernel_rfl) (Sp.Runs.extract rfl rfl) ?_
    refine Sp.L.pure (by kernel_rfl) (Sp.Runs.assign rfl) ?_
    refine Sp.L.pure (by kernel_rfl) (Sp.Runs.assign rfl) ?_
    refine Sp.L.nil ?_
    refine hK22 _ _ (Sp.Cd.sub (S' := [(1, _), (5, _), (6, _), (7, _), (8, _), (9, _), (10, _), (11, _), (12, _), (13, _), (14, _), (15, _), (16, _), (17, _), (18, _), (19, _), (20, _), (21, _), (22, _), (23, _), (24, _), (25, _), (26, _), (27, _), (28, _), (29, _), (30, _), (31, _), (32, _), (33, _), (34, _), (35, _), (36, _), (37, _), (38, _), (39, _), (40, _), (41, _)]) ⟨rfl, rfl, rfl, rfl, rfl, rfl, rfl, rfl, rfl, rfl, rfl, rfl, rfl, rfl, rfl, rfl, rfl, rfl, rfl, rfl, rfl, rfl, rfl, rfl, rfl, rfl, rfl, rfl, rfl, rfl, rfl, rfl, rfl, rfl, rfl, rfl, rfl, rfl, trivial⟩ ?_)
    clear hK22 K22
    refine Sp.Cd.seq fun K23 hK23 => ?_
    refine Sp.Cd.seq fun K24 hK24 => ?_
    refine Sp.Cd.region ?_
    refine Sp.L.pure (by kernel_rfl) (Sp.Runs.move rfl) ?_
    refine Sp.L.pure (by kernel_rfl) (Sp.Runs.move rfl) ?_
    refine Sp.L.pure (by kernel_rfl) (Sp.Runs.neBF Try.underlying4 rfl rfl (by first | rfl | assumption)) ?_
    refine Sp.L.pure (by kernel_rfl) (Sp.Runs.move rfl) ?_
    refine Sp.L.pure (by kernel_rfl) (Sp.Runs.move rfl) ?_
    refine Sp.L.pure (by kernel_rfl) (Sp.Runs.move rfl) ?_
    refine Sp.L.pure (by kernel_rfl) (Sp.Runs.neIF rfl rfl (by first | rfl | assumption | omega)) ?_
    refine Sp.L.pure (by kernel_rfl) (Sp.Runs.pickF rfl rfl) ?_
    refine Sp.L.pure (by kernel_rfl) (Sp.Runs.move rfl) ?_
    refine Sp.L.pure (by kernel_rfl) (Sp.Runs.move rfl) ?_
    refine Sp.L.pure (by kernel_rfl) (Sp.Runs.move rfl) ?_
    refine Sp.L.pure (by kernel_rfl) (Sp.Runs.neBF Try.underlying4 rfl rfl (by first | rfl | assumption)) ?_
    refine Sp.L.pure (by kernel_rfl) (Sp.Runs.pickF rfl rfl) ?_
    refine Sp.L.pure (by kernel_rfl) (Sp.Runs.move rfl) ?_
    refine Sp.L.pure (by kernel_rfl) (Sp.Runs.move rfl) ?_
    refine Sp.L.pure (by kernel_rfl) (Sp.Runs.move rfl) ?_
    refine Sp.L.pure (by kernel_rfl) (Sp.Runs.neSF rfl rfl (by first | rfl | assumption)) ?_
    refine Sp.L.pure (by kernel_rfl) (Sp.Runs.pickF rfl rfl) ?_
    refine Sp.L.pure (by kernel_rfl) (Sp.Runs.move rfl) ?_
    refine Sp.L.pure (by kernel_rfl) (Sp.Runs.move rfl) ?_
    refine Sp.L.pure (by kernel_rfl) (Sp.Runs.move rfl) ?_
    refine Sp.L.pure (by kernel_rfl) (Sp.Runs.neBF Try.underlying4 rfl rfl (by first | rfl | assumption)) ?_
    refine Sp.L.pure (by kernel_rfl) (Sp.Runs.pickF rfl rfl) ?_
    refine Sp.L.pure (by kernel_rfl) (Sp.Runs.move rfl) ?_
    refine Sp.L.pure (by kernel_rfl) (Sp.Runs.move rfl) ?_
    refine Sp.L.pure (by kernel_rfl) (Sp.Runs.move rfl) ?_
    refine Sp.L.pure (by kernel_rfl) (Sp.Runs.neIF rfl rfl (by first | rfl | assumption | omega)) ?_
    refine Sp.L.pure (by kernel_rfl) (Sp.Runs.pickF rfl rfl) ?_
    refine Sp.L.pure (by kernel_rfl) (Sp.Runs.move rfl) ?_
    refine Sp.L.pure (by kernel_rfl) (Sp.Runs.move rfl) ?_
    refine Sp.L.pure (by kernel_rfl) (Sp.Runs.move rfl) ?_
    refine Sp.L.pure (by kernel_rfl) (Sp.Runs.neBF Try.underlying4 rfl rfl (by first | rfl | assumption)) ?_
    refine Sp.L.pure (by kernel_rfl) (Sp.Runs.pickF rfl rfl) ?_
    refine Sp.L.pure (by kernel_rfl) (Sp.Runs.move rfl) ?_
    refine Sp.L.pure (by kernel_rfl) (Sp.Runs.move rfl) ?_
    refine Sp.L.pure (by kernel_rfl) (Sp.Runs.move rfl) ?_
    have CC := mSame_small w19 atei ates ltei ctei ltes ctes te te (by rw [Ltei.out]; exact ST.out) Htei.out Htes.out
    rw [sameL_refl] at CC
    refine Sp.L.call (by kernel_rfl) (CC) rfl rfl (by kernel_rfl) ?_
    clear CC
    rintro e w20 ⟨rfl, b⟩
    replace B0 := Lib.hid (B0.out.trans (b.mono B0.out.size))
    replace HYa := Lib.hid (HYa.out.below b)
    replace HYb := Lib.hid (HYb.out.below b)
    replace Htei := Lib.hid (Htei.out.below b)
    replace Htes := Lib.hid (Htes.out.below b)
    replace Hpri := Lib.hid (Hpri.out.below b)
    replace Hprs := Lib.hid (Hprs.out.below b)
    clear b
    refine ⟨_, rfl, ?_⟩
    refine Sp.L.pure (by kernel_rfl) (Sp.Runs.notF rfl) ?_
    refine Sp.L.pure (by kernel_rfl) (Sp.Runs.pickF rfl rfl) ?_
    refine Sp.L.pure (by kernel_rfl) (Sp.Runs.move rfl) ?_
    refine Sp.L.pure (by kernel_rfl) (Sp.Runs.move rfl) ?_
    refine Sp.L.pure (by kernel_rfl) (Sp.Runs.move rfl) ?_
    refine Sp.L.pure (by kernel_rfl) (Sp.Runs.neBF Try.underlying4 rfl rfl (by first | rfl | assumption)) ?_
    refine Sp.L.pure (by kernel_rfl) (Sp.Runs.pickF rfl rfl) ?_
    refine Sp.L.pure (by kernel_rfl) (Sp.Runs.move rfl) ?_
    refine Sp.L.pure (by kernel_rfl) (Sp.Runs.move rfl) ?_
    refine Sp.L.pure (by kernel_rfl) (Sp.Runs.move rfl) ?_
    have CC := mSame_small w20 apri aprs lpri cpri lprs cprs pr pr (by rw [Lpri.out]; exact SP.out) Hpri.out Hprs.out
    rw [sameL_refl] at CC
    refine Sp.L.call (by kernel_rfl) (CC) rfl rfl (by kernel_rfl) ?_
    clear CC
    rintro e w21 ⟨rfl, b⟩
    replace B0 := Lib.hid (B0.out.trans (b.mono B0.out.size))
    replace HYa := Lib.hid (HYa.out.below b)
    replace HYb := Lib.hid (HYb.out.below b)
    replace Htei := Lib.hid (Htei.out.below b)
    replace Htes := Lib.hid (Htes.out.below b)
    replace Hpri := Lib.hid (Hpri.out.below b)
    replace Hprs := Lib.hid (Hprs.out.below b)
    clear b
    refine ⟨_, rfl, ?_⟩
    refine Sp.L.pure (by kernel_rfl) (Sp.Runs.notF rfl) ?_
    refine Sp.L.pure (by kernel_rfl) (Sp.Runs.pickF rfl rfl) ?_
    refine Sp.L.pure (by kernel_rfl) (Sp.Runs.move rfl) ?_
    refine Sp.L.pure (by kernel_rfl) (Sp.Runs.move rfl) ?_
    refine Sp.L.pure (by kernel_rfl) (Sp.Runs.move rfl) ?_
    refine Sp.L.pure (by kernel_rfl) (Sp.Runs.neBF Try.underlying4 rfl rfl (by first | rfl | assumption)) ?_
    refine Sp.L.pure (by kernel_rfl) (Sp.Runs.pickF rfl rfl) ?_
    refine Sp.L.pure (by kernel_rfl) (Sp.Runs.move rfl) ?_
    refine Sp.L.pure (by kernel_rfl) (Sp.Runs.move rfl) ?_
    refine Sp.L.pure (by kernel_rfl) (Sp.Runs.move rfl) ?_
    refine Sp.L.pure (by kernel_rfl) (Sp.Runs.neSF rfl rfl (by first | rfl | assumption)) ?_
    refine Sp.L.pure (by kernel_rfl) (Sp.Runs.pickF rfl rfl) ?_
    refine Sp.L.pure (by kernel_rfl) (Sp.Runs.move rfl) ?_
    refine Sp.L.pure (by kernel_rfl) (Sp.Runs.move rfl) ?_
    refine Sp.L.pure (by kernel_rfl) (Sp.Runs.move rfl) ?_
    refine Sp.L.pure (by kernel_rfl) (Sp.Runs.neBF Try.underlying4 rfl rfl (by first | rfl | assumption)) ?_
    refine Sp.L.pure (by kernel_rfl) (Sp.Runs.pickF rfl rfl) ?_
    refine Sp.L.pure (by kernel_rfl) (Sp.Runs.move rfl) ?_
    refine Sp.L.pure (by kernel_rfl) (Sp.Runs.move rfl) ?_
    refine Sp.L.pure (by kernel_rfl) (Sp.Runs.move rfl) ?_
    refine Sp.L.pure (by kernel_rfl) (Sp.Runs.neBF Try.underlying4 rfl rfl (by first | rfl | assumption)) ?_
    refine Sp.L.pure (by kernel_rfl) (Sp.Runs.pickF rfl rfl) ?_
    refine Sp.L.pure (by kernel_rfl) (Sp.Runs.move rfl) ?_
    refine Sp.L.pure (by kernel_rfl) (Sp.Runs.move rfl) ?_
    refine Sp.L.pure (by kernel_rfl) (Sp.Runs.move rfl) ?_
    refine Sp.L.pure (by kernel_rfl) (Sp.Runs.neBF Try.underlying4 rfl rfl (by first | rfl | assumption)) ?_
    refine Sp.L.pure (by kernel_rfl) (Sp.Runs.pickF rfl rfl) ?_
    refine Sp.L.pure (by kernel_rfl) (Sp.Runs.move rfl) ?_
    refine Sp.L.pure (by kernel_rfl) (Sp.Runs.move rfl) ?_
    refine Sp.L.pure (by kernel_rfl) (Sp.Runs.move rfl) ?_
    refine Sp.L.pure (by kernel_rfl) (Sp.Runs.neSF rfl rfl (by first | rfl | assumption)) ?_
    refine Sp.L.pure (by kernel_rfl) (Sp.Runs.pickF rfl rfl) ?_
    refine Sp.L.pure (by kernel_rfl) (Sp.Runs.move rfl) ?_
    refine Sp.L.pure (by kernel_rfl) (Sp.Runs.move rfl) ?_
    refine Sp.L.pure (by kernel_rfl) (Sp.Runs.move rfl) ?_
    refine Sp.L.pure (by kernel_rfl) (Sp.Runs.neBF Try.underlying4 rfl rfl (by first | rfl | assumption)) ?_
    refine Sp.L.pure (by kernel_rfl) (Sp.Runs.pickF rfl rfl) ?_
    refine Sp.L.pure (by kernel_rfl) (Sp.Runs.move rfl) ?_
    refine Sp.L.pure (by kernel_rfl) (Sp.Runs.move rfl) ?_
    refine Sp.L.pure (by kernel_rfl) (Sp.Runs.move rfl) ?_
    refine Sp.L.pure (by kernel_rfl) (Sp.Runs.neSF rfl rfl (by first | rfl | assumption)) ?_
    refine Sp.L.pure (by kernel_rfl) (Sp.Runs.pickF rfl rfl) ?_
    refine Sp.L.pure (by kernel_rfl) (Sp.Runs.move rfl) ?_
    refine Sp.L.pure (by kernel_rfl) (Sp.Runs.move rfl) ?_
    refine Sp.L.pure (by kernel_rfl) (Sp.Runs.move rfl) ?_
    have CC := implIsRow_any row HR.out w21
    rw [Qok.out] at CC
    refine Sp.L.call (by kernel_rfl) (CC) rfl rfl (by kernel_rfl) ?_
    clear CC
    rintro e w22 ⟨rfl, b⟩
    replace B0 := Lib.hid (B0.out.trans (b.mono B0.out.size))
    replace HYa := Lib.hid (HYa.out.below b)
    replace HYb := Lib.hid (HYb.out.below b)
    replace Htei := Lib.hid (Htei.out.below b)
    replace Htes := Lib.hid (Htes.out.below b)
    replace Hpri := Lib.hid (Hpri.out.below b)
    replace Hprs := Lib.hid (Hprs.out.below b)
    clear b
    refine ⟨_, rfl, ?_⟩
    refine Sp.L.pure (by kernel_rfl) (Sp.Runs.neBF Try.underlying4 rfl rfl (by first | rfl | assumption)) ?_
    refine Sp.L.pure (by kernel_rfl) (Sp.Runs.pickF rfl rfl) ?_
    refine Sp.L.pure (by kernel_rfl) (Sp.Runs.move rfl) ?_
    refine Sp.L.pure (by kernel_rfl) (Sp.Runs.move rfl) ?_
    have CC := implIsRow_any row HR.out w22
    rw [Qok.out] at CC
    refine Sp.L.call (by kernel_rfl) (CC) rfl rfl (by kernel_rfl) ?_
    clear CC
    rintro e w23 ⟨rfl, b⟩
    replace B0 := Lib.hid (B0.out.trans (b.mono B0.out.size))
    replace HYa := Lib.hid (HYa.out.below b)
    replace HYb := Lib.hid (HYb.out.below b)
    replace Htei := Lib.hid (Htei.out.below b)
    replace Htes := Lib.hid (Htes.out.below b)
    replace Hpri := Lib.hid (Hpri.out.below b)
    replace Hprs := Lib.hid (Hprs.out.below b)
    clear b
    refine ⟨_, rfl, ?_⟩
    refine Sp.L.pure (by kernel_rfl) (Sp.Runs.move rfl) ?_
    have CC := specIsRow_any row HR.out w23
    rw [Qok.out] at CC
    refine Sp.L.call (by kernel_rfl) (CC) rfl rfl (by kernel_rfl) ?_
    clear CC
    rintro e w24 ⟨rfl, b⟩
    replace B0 := Lib.hid (B0.out.trans (b.mono B0.out.size))
    replace HYa := Lib.hid (HYa.out.below b)
    replace HYb := Lib.hid (HYb.out.below b)
    replace Htei := Lib.hid (Htei.out.below b)
    replace Htes := Lib.hid (Htes.out.below b)
    replace Hpri := Lib.hid (Hpri.out.below b)
    replace Hprs := Lib.hid (Hprs.out.below b)
    clear b
    refine ⟨_, rfl, ?_⟩
    refine Sp.L.pure (by kernel_rfl) (Sp.Runs.neBF Try.underlying4 rfl rfl (by first | rfl | assumption)) ?_
    refine Sp.L.pure (by kernel_rfl) (Sp.Runs.pickF rfl rfl) ?_
    refine Sp.L.pure (by kernel_rfl) (Sp.Runs.move rfl) ?_
    refine Sp.L.pure (by kernel_rfl) (Sp.Runs.move rfl) ?_
    refine Sp.L.pure (by kernel_rfl) (Sp.Runs.move rfl) ?_
    refine Sp.L.pure (by kernel_rfl) (Sp.Runs.neBF Try.underlying4 rfl rfl (by first | rfl | assumption)) ?_
    refine Sp.L.pure (by kernel_rfl) (Sp.Runs.pickF rfl rfl) ?_
    refine Sp.L.pure (by kernel_rfl) (Sp.Runs.move rfl) ?_
    refine Sp.L.pure (by kernel_rfl) (Sp.Runs.move rfl) ?_
    refine Sp.L.pure (by kernel_rfl) (Sp.Runs.move rfl) ?_
    refine Sp.L.pure (by kernel_rfl) (Sp.Runs.neBF Try.underlying4 rfl rfl (by first | rfl | assumption)) ?_
    refine Sp.L.pure (by kernel_rfl) (Sp.Runs.pickF rfl rfl) ?_
    refine Sp.L.pure (by kernel_rfl) (Sp.Runs.move rfl) ?_
    refine Sp.L.pure (by kernel_rfl) (Sp.Runs.move rfl) ?_
    refine Sp.L.pure (by kernel_rfl) (Sp.Runs.move rfl) ?_
    refine Sp.L.pure (by kernel_rfl) (Sp.Runs.neBF Try.underlying4 rfl rfl (by first | rfl | assumption)) ?_
    refine Sp.L.pure (by kernel_rfl) (Sp.Runs.pickF rfl rfl) ?_
    refine Sp.L.pure (by kernel_rfl) (Sp.Runs.move rfl) ?_
    refine Sp.L.pure (by kernel_rfl) (Sp.Runs.move rfl) ?_
    refine Sp.L.pure (by kernel_rfl) (Sp.Runs.move rfl) ?_
    refine Sp.L.pure (by kernel_rfl) (Sp.Runs.neBF Try.underlying4 rfl rfl (by first | rfl | assumption)) ?_
    refine Sp.L.pure (by kernel_rfl) (Sp.Runs.pickF rfl rfl) ?_
    refine Sp.L.pure (by kernel_rfl) (Sp.Runs.move rfl) ?_
    refine Sp.L.pure (by kernel_rfl) (Sp.Runs.move rfl) ?_
    refine Sp.L.pure (by kernel_rfl) (Sp.Runs.move rfl) ?_
    refine Sp.L.pure (by kernel_rfl) (Sp.Runs.neBF Try.underlying4 rfl rfl (by first | rfl | assumption)) ?_
    refine Sp.L.pure (by kernel_rfl) (Sp.Runs.pickF rfl rfl) ?_
    refine Sp.L.pure (by kernel_rfl) (Sp.Runs.move rfl) ?_
    refine Sp.L.pure (by kernel_rfl) (Sp.Runs.move rfl) ?_
    refine Sp.L.pure (by kernel_rfl) (Sp.Runs.move rfl) ?_
    refine Sp.L.pure (by kernel_rfl) (Sp.Runs.neBF Try.underlying4 rfl rfl (by first | rfl | assumption)) ?_
    refine Sp.L.pure (by kernel_rfl) (Sp.Runs.pickF rfl rfl) ?_
    refine Sp.L.pure (by kernel_rfl) (Sp.Runs.move rfl) ?_
    refine Sp.L.pure (by kernel_rfl) (Sp.Runs.move rfl) ?_
    refine Sp.L.pure (by kernel_rfl) (Sp.Runs.move rfl) ?_
    refine Sp.L.pure (by kernel_rfl) (Sp.Runs.neBF Try.underlying4 rfl rfl (by first | rfl | assumption)) ?_
    refine Sp.L.pure (by kernel_rfl) (Sp.Runs.pickF rfl rfl) ?_
    refine Sp.L.pure (by kernel_rfl) (Sp.Runs.move rfl) ?_
    refine Sp.L.pure (by kernel_rfl) (Sp.Runs.move rfl) ?_
    refine Sp.L.pure (by kernel_rfl) (Sp.Runs.move rfl) ?_
    refine Sp.L.pure (by kernel_rfl) (Sp.Runs.neBF Try.underlying4 rfl rfl (by first | rfl | assumption)) ?_
    refine Sp.L.pure (by kernel_rfl) (Sp.Runs.pickF rfl rfl) ?_
    refine Sp.L.nil ?_
    refine hK24 _ _ (Sp.Cd.sub (S' := [(1, _), (5, _), (6, _), (7, _), (10, _), (14, _), (18, _), (22, _), (26, _), (30, _), (34, _), (38, _), (320, _)]) ⟨rfl, rfl, rfl, rfl, rfl, rfl, rfl, rfl, rfl, rfl, rfl, rfl, rfl, trivial⟩ ?_)
    clear hK24 K24
    refine Sp.Cd.condF rfl ?_
    refine Sp.Cd.skip ?_
    refine hK23 _ _ (Sp.Cd.sub (S' := [(1, _), (5, _), (6, _), (7, _), (10, _), (14, _), (18, _), (22, _), (26, _), (30, _), (34, _), (38, _)]) ⟨rfl, rfl, rfl, rfl, rfl, rfl, rfl, rfl, rfl, rfl, rfl, rfl, trivial⟩ ?_)
    clear hK23 K23
    refine Sp.Cd.cutK [(1, _)] ⟨rfl, trivial⟩ ?_ ?_
    · have B1 : Hid (Below w24.heap.size w24 w24) := Lib.hid (Below.refl _ _)
      clear Htes
      clear Hprs
      rcases ok with _ | _
      · refine Sp.Cd.seq fun K25 hK25 => ?_
        refine Sp.Cd.region ?_
        refine Sp.L.pure (by kernel_rfl) (Sp.Runs.move rfl) ?_
        refine Sp.L.nil ?_
        refine hK25 _ _ (Sp.Cd.sub (S' := [(1, _), (5, _), (6, _), (10, _), (14, _), (18, _), (22, _), (26, _), (30, _), (34, _), (38, _), (321, _)]) ⟨rfl, rfl, rfl, rfl, rfl, rfl, rfl, rfl, rfl, rfl, rfl, rfl, trivial⟩ ?_)
        clear hK25 K25
        refine Sp.Cd.condF rfl ?_
        refine Sp.Cd.skip ?_
        refine Sp.Nx.post () ⟨rfl, trivial⟩ (B1.out)
      · obtain ⟨l, hl⟩ : ∃ x, x = bits row := ⟨_, rfl⟩
        have HX0 := FX.out rfl
        rw [← hl] at HX0
        have HX := Lib.hid HX0
        clear hl HX0 FX
        have hsz := strSz HX.out.row
        have n1 := HX.out.n1
        have n2 := HX.out.n2
        rw [← hsz] at n1 n2
        have HZ := Lib.hid hsz
        clear hsz z1
        have TNB := HX.out.small.2.2.1
        have TNC := HX.out.small.2.2.2.1
        have TKB := HX.out.small.1
        refine Sp.Cd.seq fun K26 hK26 => ?_
        refine Sp.Cd.region ?_
        refine Sp.L.pure (by kernel_rfl) (Sp.Runs.move rfl) ?_
        refine Sp.L.nil ?_
        refine hK26 _ _ (Sp.Cd.sub (S' := [(1, _), (5, _), (6, _), (10, _), (14, _), (18, _), (22, _), (26, _), (30, _), (34, _), (38, _), (321, _)]) ⟨rfl, rfl, rfl, rfl, rfl, rfl, rfl, rfl, rfl, rfl, rfl, rfl, trivial⟩ ?_)
        clear hK26 K26
        refine Sp.Cd.condT rfl ?_
        refine Sp.Cd.seq fun K27 hK27 => ?_
        refine Sp.Cd.region ?_
        refine Sp.L.pure (by kernel_rfl) (Sp.Runs.assign rfl) ?_
        refine Sp.L.pure (by kernel_rfl) (Sp.Runs.assign rfl) ?_
        refine Sp.L.nil ?_
        refine hK27 _ _ (Sp.Cd.sub (S' := [(1, _), (5, _), (6, _), (10, _), (14, _), (18, _), (22, _), (26, _), (30, _), (34, _), (38, _), (42, _), (43, _)]) ⟨rfl, rfl, rfl, rfl, rfl, rfl, rfl, rfl, rfl, rfl, rfl, rfl, rfl, trivial⟩ ?_)
        clear hK27 K27
        refine Sp.Cd.seq fun K28 hK28 => ?_
        refine Sp.Cd.seq fun K29 hK29 => ?_
        refine Sp.Cd.region ?_
        refine Sp.L.pure (by kernel_rfl) (Sp.Runs.move rfl) ?_
        have B2 : Hid (Below w24.heap.size w24 w24) := Lib.hid (Below.refl _ _)
        refine Sp.L.rangeS Try.underlying9 rfl (by kernel_rfl) ?_
        obtain ⟨w25, hw⟩ : ∃ x, x = w24.iter row 0 := ⟨_, rfl⟩
        rw [← hw]
        have HI : Hid (w25.heap[w24.heap.size]? = some (.stringIter row 0)) := Lib.hid (by rw [hw]; exact World.iter_heap w24 row 0)
        replace B2 : Hid (Below w24.heap.size w24 w25) := Lib.hid (by rw [hw]; exact (Below.refl _ w24).alloc (Nat.le_refl _) _)
        clear hw
        refine Sp.L.nil ?_
        refine hK29 _ _ (Sp.Cd.sub (S' := [(1, _), (5, _), (6, _), (10, _), (14, _), (18, _), (22, _), (26, _), (30, _), (34, _), (38, _), (42, _), (43, _), (323, _)]) ⟨rfl, rfl, rfl, rfl, rfl, rfl, rfl, rfl, rfl, rfl, rfl, rfl, rfl, rfl, trivial⟩ ?_)
        clear hK29 K29
        refine Sp.Cd.block ?_
        refine Sp.Cd.loop (ι := Nat) [(1, _), (5, _), (6, _), (10, _), (14, _), (18, _), (22, _), (26, _), (30, _), (34, _), (38, _), (323, _)] (fun i1 => [(42, .int .i64 (Rw.crTo l i1 : Nat)), (43, .int .i64 (Rw.rtTo l i1 : Nat))]) (fun i1 w' => Hid (Below w24.heap.size w24 w') ∧ Hid (w'.heap[w24.heap.size]? = some (.stringIter row i1)) ∧ (i1 ≤ row.size)) (fun i1 => row.size - i1) 0 ⟨rfl, rfl, rfl, rfl, rfl, rfl, rfl, rfl, rfl, rfl, rfl, rfl, rfl, rfl, trivial⟩ ⟨B2, HI, Nat.zero_le _⟩ ?_
        clear B2 HI
        rintro i1 w26 ⟨B2, HI, hrel⟩
        refine Sp.Cd.sub (S' := [(42, _), (43, _), (1, _), (5, _), (6, _), (10, _), (14, _), (18, _), (22, _), (26, _), (30, _), (34, _), (38, _), (323, _)]) ⟨rfl, rfl, rfl, rfl, rfl, rfl, rfl, rfl, rfl, rfl, rfl, rfl, rfl, rfl, trivial⟩ ?_
        by_cases hlt : i1 < row.size
        · have e1 := byteI HX.out.row i1 hlt
          have hil : i1 < l.length := by rw [← HZ.out]; exact hlt
          have t1 := Rw.rtTo_le l i1
          have t2 := Rw.crTo_le l i1 (by omega)
          have t3 : i1 * i1 ≤ 60 * 60 := Nat.mul_le_mul (by omega) (by omega)
          rcases hb : l.getD i1 false with _ | _
          · obtain ⟨s1, s2⟩ := Rw.rtTo_no l i1 hil hb
            rw [hb] at e1
            refine Sp.Cd.seq fun K30 hK30 => ?_
            refine Sp.Cd.region ?_
            refine Sp.L.next rfl (Lib.run_next_ascii_at w26 w24.heap.size row i1 _ HI.out hlt (byteA HX.out.row i1 hlt)) (by kernel_rfl) ?_
            obtain ⟨w27, hw⟩ : ∃ x, x = w26.iterAt w24.heap.size row (i1 + 1) := ⟨_, rfl⟩
            rw [← hw]
            replace HI : Hid (w27.heap[w24.heap.size]? = some (.stringIter row (i1 + 1))) := Lib.hid (by rw [hw]; exact Lib.iterAt_heap w26 w24.heap.size row i1 (i1 + 1) HI.out)
            replace B2 : Hid (Below w24.heap.size w24 w27) := Lib.hid (by rw [hw]; exact Lib.below_iterAt B2.out (Nat.le_refl _) row (i1 + 1))
            clear hw
            refine Sp.L.pure (by kernel_rfl) (Sp.Runs.extract rfl rfl) ?_
            refine Sp.L.nil ?_
            refine hK30 _ _ (Sp.Cd.sub (S' := [(1, _), (5, _), (6, _), (10, _), (14, _), (18, _), (22, _), (26, _), (30, _), (34, _), (38, _), (42, _), (43, _), (323, _), (324, _), (325, _)]) ⟨rfl, rfl, rfl, rfl, rfl, rfl, rfl, rfl, rfl, rfl, rfl, rfl, rfl, rfl, rfl, rfl, trivial⟩ ?_)
            clear hK30 K30
            refine Sp.Cd.seq fun K31 hK31 => ?_
            refine Sp.Cd.condT rfl ?_
            refine Sp.Cd.skip ?_
            refine hK31 _ _ (Sp.Cd.sub (S' := [(1, _), (5, _), (6, _), (10, _), (14, _), (18, _), (22, _), (26, _), (30, _), (34, _), (38, _), (42, _), (43, _), (323, _), (324, _)]) ⟨rfl, rfl, rfl, rfl, rfl, rfl, rfl, rfl, rfl, rfl, rfl, rfl, rfl, rfl, rfl, trivial⟩ ?_)
            clear hK31 K31
            refine Sp.Cd.block ?_
            refine Sp.Cd.seq fun K32 hK32 => ?_
            refine Sp.Cd.region ?_
            refine Sp.L.pure (by kernel_rfl) (Sp.Runs.extract rfl rfl) ?_
            refine Sp.L.pure (by kernel_rfl) (Sp.Runs.assign rfl) ?_
            refine Sp.L.nil ?_
            refine hK32 _ _ (Sp.Cd.sub (S' := [(1, _), (5, _), (6, _), (10, _), (14, _), (18, _), (22, _), (26, _), (30, _), (34, _), (38, _), (42, _), (43, _), (44, _), (323, _)]) ⟨rfl, rfl, rfl, rfl, rfl, rfl, rfl, rfl, rfl, rfl, rfl, rfl, rfl, rfl, rfl, trivial⟩ ?_)
            clear hK32 K32
            refine Sp.Cd.seq fun K33 hK33 => ?_
            refine Sp.Cd.region ?_
            refine Sp.L.pure (by kernel_rfl) (Sp.Runs.move rfl) ?_
            refine Sp.L.pure (by kernel_rfl) (Sp.Runs.move rfl) ?_
            refine Sp.L.pure (by kernel_rfl) (Sp.Runs.indexS Try.underlying9 rfl rfl i1 rfl hlt (e1.trans (rfl : sgI false = 60))) ?_
            refine Sp.L.pure (by kernel_rfl) (Sp.Runs.eqIF rfl rfl (by decide)) ?_
            refine Sp.L.nil ?_
            refine hK33 _ _ (Sp.Cd.sub (S' := [(1, _), (5, _), (6, _), (10, _), (14, _), (18, _), (22, _), (26, _), (30, _), (34, _), (38, _), (42, _), (43, _), (323, _), (330, _)]) ⟨rfl, rfl, rfl, rfl, rfl, rfl, rfl, rfl, rfl, rfl, rfl, rfl, rfl, rfl, rfl, trivial⟩ ?_)
            clear hK33 K33
            refine Sp.Cd.condF rfl ?_
            refine Sp.Cd.region ?_
            refine Sp.L.pure (by kernel_rfl) (Sp.Runs.move rfl) ?_
            refine Sp.L.pure (by kernel_rfl) (Sp.Runs.move rfl) ?_
            refine Sp.L.pure (by kernel_rfl) (Sp.Runs.addI rfl rfl (Sp.wrapI (by omega) (by omega))) ?_
            refine Sp.L.pure (by kernel_rfl) (Sp.Runs.assign rfl) ?_
            refine Sp.L.nil ?_
            refine Sp.Nx.block ?_
            refine Sp.Nx.again (i1 + 1) ⟨(Sp.lkI rfl (by omega)), (Sp.lkI rfl (by omega)), rfl, rfl, rfl, rfl, rfl, rfl, rfl, rfl, rfl, rfl, rfl, rfl, trivial⟩ ⟨B2, HI, hlt⟩ (by omega)
          · obtain ⟨s1, s2⟩ := Rw.rtTo_yes l i1 hil hb
            rw [hb] at e1
            refine Sp.Cd.seq fun K34 hK34 => ?_
            refine Sp.Cd.region ?_
            refine Sp.L.next rfl (Lib.run_next_ascii_at w26 w24.heap.size row i1 _ HI.out hlt (byteA HX.out.row i1 hlt)) (by kernel_rfl) ?_
            obtain ⟨w27, hw⟩ : ∃ x, x = w26.iterAt w24.heap.size row (i1 + 1) := ⟨_, rfl⟩
            rw [← hw]
            replace HI : Hid (w27.heap[w24.heap.size]? = some (.stringIter row (i1 + 1))) := Lib.hid (by rw [hw]; exact Lib.iterAt_heap w26 w24.heap.size row i1 (i1 + 1) HI.out)
            replace B2 : Hid (Below w24.heap.size w24 w27) := Lib.hid (by rw [hw]; exact Lib.below_iterAt B2.out (Nat.le_refl _) row (i1 + 1))
            clear hw
            refine Sp.L.pure (by kernel_rfl) (Sp.Runs.extract rfl rfl) ?_
            refine Sp.L.nil ?_
            refine hK34 _ _ (Sp.Cd.sub (S' := [(1, _), (5, _), (6, _), (10, _), (14, _), (18, _), (22, _), (26, _), (30, _), (34, _), (38, _), (42, _), (43, _), (323, _), (324, _), (325, _)]) ⟨rfl, rfl, rfl, rfl, rfl, rfl, rfl, rfl, rfl, rfl, rfl, rfl, rfl, rfl, rfl, rfl, trivial⟩ ?_)
            clear hK34 K34
            refine Sp.Cd.seq fun K35 hK35 => ?_
            refine Sp.Cd.condT rfl ?_
            refine Sp.Cd.skip ?_
            refine hK35 _ _ (Sp.Cd.sub (S' := [(1, _), (5, _), (6, _), (10, _), (14, _), (18, _), (22, _), (26, _), (30, _), (34, _), (38, _), (42, _), (43, _), (323, _), (324, _)]) ⟨rfl, rfl, rfl, rfl, rfl, rfl, rfl, rfl, rfl, rfl, rfl, rfl, rfl, rfl, rfl, trivial⟩ ?_)
            clear hK35 K35
            refine Sp.Cd.block ?_
            refine Sp.Cd.seq fun K36 hK36 => ?_
            refine Sp.Cd.region ?_
            refine Sp.L.pure (by kernel_rfl) (Sp.Runs.extract rfl rfl) ?_
            refine Sp.L.pure (by kernel_rfl) (Sp.Runs.assign rfl) ?_
            refine Sp.L.nil ?_
            refine hK36 _ _ (Sp.Cd.sub (S' := [(1, _), (5, _), (6, _), (10, _), (14, _), (18, _), (22, _), (26, _), (30, _), (34, _), (38, _), (42, _), (43, _), (44, _), (323, _)]) ⟨rfl, rfl, rfl, rfl, rfl, rfl, rfl, rfl, rfl, rfl, rfl, rfl, rfl, rfl, rfl, trivial⟩ ?_)
            clear hK36 K36
            refine Sp.Cd.seq fun K37 hK37 => ?_
            refine Sp.Cd.region ?_
            refine Sp.L.pure (by kernel_rfl) (Sp.Runs.move rfl) ?_
            refine Sp.L.pure (by kernel_rfl) (Sp.Runs.move rfl) ?_
            refine Sp.L.pure (by kernel_rfl) (Sp.Runs.indexS Try.underlying9 rfl rfl i1 rfl hlt (e1.trans (rfl : sgI true = 62))) ?_
            refine Sp.L.pure (by kernel_rfl) (Sp.Runs.eqIT rfl rfl (by decide)) ?_
            refine Sp.L.nil ?_
            refine hK37 _ _ (Sp.Cd.sub (S' := [(1, _), (5, _), (6, _), (10, _), (14, _), (18, _), (22, _), (26, _), (30, _), (34, _), (38, _), (42, _), (43, _), (323, _), (330, _)]) ⟨rfl, rfl, rfl, rfl, rfl, rfl, rfl, rfl, rfl, rfl, rfl, rfl, rfl, rfl, rfl, trivial⟩ ?_)
            clear hK37 K37
            refine Sp.Cd.condT rfl ?_
            refine Sp.Cd.region ?_
            refine Sp.L.pure (by kernel_rfl) (Sp.Runs.move rfl) ?_
            refine Sp.L.pure (by kernel_rfl) (Sp.Runs.addI rfl rfl (Sp.wrapI (by omega) (by omega))) ?_
            refine Sp.L.pure (by kernel_rfl) (Sp.Runs.assign rfl) ?_
            refine Sp.L.nil ?_
            refine Sp.Nx.block ?_
            refine Sp.Nx.again (i1 + 1) ⟨(Sp.lkI rfl (by omega)), (Sp.lkI rfl (by omega)), rfl, rfl, rfl, rfl, rfl, rfl, rfl, rfl, rfl, rfl, rfl, rfl, trivial⟩ ⟨B2, HI, hlt⟩ (by omega)
        · refine Sp.Cd.seq fun K38 hK38 => ?_
          refine Sp.Cd.region ?_
          refine Sp.L.next rfl (Lib.run_next_end_at w26 w24.heap.size row i1 _ HI.out hlt) (by kernel_rfl) ?_
          refine Sp.L.pure (by kernel_rfl) (Sp.Runs.extract rfl rfl) ?_
          refine Sp.L.nil ?_
          refine hK38 _ _ (Sp.Cd.sub (S' := [(1, _), (5, _), (6, _), (10, _), (14, _), (18, _), (22, _), (26, _), (30, _), (34, _), (38, _), (42, _), (43, _), (323, _), (324, _), (325, _)]) ⟨rfl, rfl, rfl, rfl, rfl, rfl, rfl, rfl, rfl, rfl, rfl, rfl, rfl, rfl, rfl, rfl, trivial⟩ ?_)
          clear hK38 K38
          refine Sp.Cd.seq fun K39 hK39 => ?_
          refine Sp.Cd.condF rfl ?_
          refine Sp.Cd.exit ?_
          refine Sp.Ex.then ?_
          clear hK39 K39
          refine Sp.Ex.then ?_
          have b := B2.out
          replace B0 := Lib.hid (B0.out.trans (b.mono B0.out.size))
          replace B1 := Lib.hid (B1.out.trans (b.mono B1.out.size))
          replace HYa := Lib.hid (HYa.out.below b)
          replace HYb := Lib.hid (HYb.out.below b)
          replace Htei := Lib.hid (Htei.out.below b)
          replace Hpri := Lib.hid (Hpri.out.below b)
          clear b HI
          clear B2
          refine Sp.Ex.hit ?_
          refine hK28 _ _ (Sp.Cd.sub (S' := [(1, _), (5, _), (6, _), (10, _), (14, _), (18, _), (22, _), (26, _), (30, _), (34, _), (38, _), (42, _), (43, _)]) ⟨rfl, rfl, rfl, rfl, rfl, rfl, rfl, rfl, rfl, rfl, rfl, rfl, rfl, trivial⟩ ?_)
          clear hK28 K28
          refine Sp.Cd.seq fun K40 hK40 => ?_
          have hi1 : i1 = l.length := by rw [← HZ.out]; omega
          have hcr : (Rw.crTo l i1 : Nat) = (Rw.countOf l : Nat) := by rw [hi1, Rw.crTo_all]
          have htn := HX.out.tn
          obtain ⟨c0, hc0⟩ : ∃ c0 : Nat, c0 + Rw.rtTo l i1 = row.size := ⟨row.size - Rw.rtTo l i1, by have := Rw.rtTo_le l i1; omega⟩
          have HG : Hid (Rw.goTo c0 l.length = Rw.restOf l) := Lib.hid (by rw [← Rw.goTo_rest]; congr 1; have := HZ.out; rw [hi1] at hc0; omega)
          refine Sp.Cd.region ?_
          refine Sp.L.pure (by kernel_rfl) (Sp.Runs.assign rfl) ?_
          refine Sp.L.nil ?_
          refine hK40 _ _ (Sp.Cd.sub (S' := [(1, _), (5, _), (6, _), (10, _), (14, _), (18, _), (22, _), (26, _), (30, _), (34, _), (38, _), (42, _), (43, _), (45, _)]) ⟨rfl, rfl, rfl, rfl, rfl, rfl, rfl, rfl, rfl, rfl, rfl, rfl, rfl, rfl, trivial⟩ ?_)
          clear hK40 K40
          refine Sp.Cd.seq fun K41 hK41 => ?_
          refine Sp.Cd.seq fun K42 hK42 => ?_
          refine Sp.Cd.region ?_
          refine Sp.L.pure (by kernel_rfl) (Sp.Runs.move rfl) ?_
          have B2 : Hid (Below w26.heap.size w26 w26) := Lib.hid (Below.refl _ _)
          refine Sp.L.rangeS Try.underlying9 rfl (by kernel_rfl) ?_
          obtain ⟨w27, hw⟩ : ∃ x, x = w26.iter row 0 := ⟨_, rfl⟩
          rw [← hw]
          have HI : Hid (w27.heap[w26.heap.size]? = some (.stringIter row 0)) := Lib.hid (by rw [hw]; exact World.iter_heap w26 row 0)
          replace B2 : Hid (Below w26.heap.size w26 w27) := Lib.hid (by rw [hw]; exact (Below.refl _ w26).alloc (Nat.le_refl _) _)
          clear hw
          refine Sp.L.nil ?_
          refine hK42 _ _ (Sp.Cd.sub (S' := [(1, _), (5, _), (6, _), (10, _), (14, _), (18, _), (22, _), (26, _), (30, _), (34, _), (38, _), (42, _), (43, _), (45, _), (337, _)]) ⟨rfl, rfl, rfl, rfl, rfl, rfl, rfl, rfl, rfl, rfl, rfl, rfl, rfl, rfl, rfl, trivial⟩ ?_)
          clear hK42 K42
          refine Sp.Cd.block ?_
          refine Sp.Cd.loop (ι := Nat) [(1, _), (5, _), (6, _), (10, _), (14, _), (18, _), (22, _), (26, _), (30, _), (34, _), (38, _), (42, _), (43, _), (337, _)] (fun i2 => [(45, .string (Rw.str (Rw.goTo c0 i2)))]) (fun i2 w' => Hid (Below w26.heap.size w26 w') ∧ Hid (w'.heap[w26.heap.size]? = some (.stringIter row i2)) ∧ (i2 ≤ row.size)) (fun i2 => row.size - i2) 0 ⟨rfl, rfl, rfl, rfl, rfl, rfl, rfl, rfl, rfl, rfl, rfl, rfl, rfl, rfl, rfl, trivial⟩ ⟨B2, HI, Nat.zero_le _⟩ ?_
          clear B2 HI
          rintro i2 w28 ⟨B2, HI, hrel⟩
          refine Sp.Cd.sub (S' := [(45, _), (1, _), (5, _), (6, _), (10, _), (14, _), (18, _), (22, _), (26, _), (30, _), (34, _), (38, _), (42, _), (43, _), (337, _)]) ⟨rfl, rfl, rfl, rfl, rfl, rfl, rfl, rfl, rfl, rfl, rfl, rfl, rfl, rfl, rfl, trivial⟩ ?_
          by_cases hlt2 : i2 < row.size
          · have HN := Lib.hid (go_next c0 i2)
            have hps : (Rw.str (Rw.goTo c0 i2)).size = i2 := by rw [Rw.size_str, Rw.length_goTo]
            by_cases hc : i2 < c0
            · have HN2 : Rw.str (Rw.goTo c0 i2) ++ ⟨#[60]⟩ = Rw.str (Rw.goTo c0 (i2 + 1)) := by rw [HN.out, if_neg (by omega)]
              refine Sp.Cd.seq fun K43 hK43 => ?_
              refine Sp.Cd.region ?_
              refine Sp.L.next rfl (Lib.run_next_ascii_at w28 w26.heap.size row i2 _ HI.out hlt2 (byteA HX.out.row i2 hlt2)) (by kernel_rfl) ?_
              obtain ⟨w29, hw⟩ : ∃ x, x = w28.iterAt w26.heap.size row (i2 + 1) := ⟨_, rfl⟩
              rw [← hw]
              replace HI : Hid (w29.heap[w26.heap.size]? = some (.stringIter row (i2 + 1))) := Lib.hid (by rw [hw]; exact Lib.iterAt_heap w28 w26.heap.size row i2 (i2 + 1) HI.out)
              replace B2 : Hid (Below w26.heap.size w26 w29) := Lib.hid (by rw [hw]; exact Lib.below_iterAt B2.out (Nat.le_refl _) row (i2 + 1))
              clear hw
              refine Sp.L.pure (by kernel_rfl) (Sp.Runs.extract rfl rfl) ?_
              refine Sp.L.nil ?_
              refine hK43 _ _ (Sp.Cd.sub (S' := [(1, _), (5, _), (6, _), (10, _), (14, _), (18, _), (22, _), (26, _), (30, _), (34, _), (38, _), (42, _), (43, _), (45, _), (337, _), (338, _), (339, _)]) ⟨rfl, rfl, rfl, rfl, rfl, rfl, rfl, rfl, rfl, rfl, rfl, rfl, rfl, rfl, rfl, rfl, rfl, trivial⟩ ?_)
              clear hK43 K43
              refine Sp.Cd.seq fun K44 hK44 => ?_
              refine Sp.Cd.condT rfl ?_
              refine Sp.Cd.skip ?_
              refine hK44 _ _ (Sp.Cd.sub (S' := [(1, _), (5, _), (6, _), (10, _), (14, _), (18, _), (22, _), (26, _), (30, _), (34, _), (38, _), (42, _), (43, _), (45, _), (337, _), (338, _)]) ⟨rfl, rfl, rfl, rfl, rfl, rfl, rfl, rfl, rfl, rfl, rfl, rfl, rfl, rfl, rfl, rfl, trivial⟩ ?_)
              clear hK44 K44
              refine Sp.Cd.block ?_
              refine Sp.Cd.seq fun K45 hK45 => ?_
              refine Sp.Cd.region ?_
              refine Sp.L.pure (by kernel_rfl) (Sp.Runs.extract rfl rfl) ?_
              refine Sp.L.pure (by kernel_rfl) (Sp.Runs.assign rfl) ?_
              refine Sp.L.nil ?_
              refine hK45 _ _ (Sp.Cd.sub (S' := [(1, _), (5, _), (6, _), (10, _), (14, _), (18, _), (22, _), (26, _), (30, _), (34, _), (38, _), (42, _), (43, _), (45, _), (46, _), (337, _)]) ⟨rfl, rfl, rfl, rfl, rfl, rfl, rfl, rfl, rfl, rfl, rfl, rfl, rfl, rfl, rfl, rfl, trivial⟩ ?_)
              clear hK45 K45
              refine Sp.Cd.seq fun K46 hK46 => ?_
              refine Sp.Cd.region ?_
              refine Sp.L.pure (by kernel_rfl) (Sp.Runs.move rfl) ?_
              refine Sp.L.pure (by kernel_rfl) (Sp.Runs.move rfl) ?_
              refine Sp.L.pure (by kernel_rfl) (Sp.Runs.lenS Try.underlying9 rfl) ?_
              refine Sp.L.pure (by kernel_rfl) (Sp.Runs.move rfl) ?_
              refine Sp.L.pure (by kernel_rfl) (Sp.Runs.subI rfl rfl (Sp.wrapI (by omega) (by omega))) ?_
              refine Sp.L.pure (by kernel_rfl) (Sp.Runs.ltIT rfl rfl (by omega)) ?_
              refine Sp.L.nil ?_
              refine hK46 _ _ (Sp.Cd.sub (S' := [(1, _), (5, _), (6, _), (10, _), (14, _), (18, _), (22, _), (26, _), (30, _), (34, _), (38, _), (42, _), (43, _), (45, _), (337, _), (346, _)]) ⟨rfl, rfl, rfl, rfl, rfl, rfl, rfl, rfl, rfl, rfl, rfl, rfl, rfl, rfl, rfl, rfl, trivial⟩ ?_)
              clear hK46 K46
              refine Sp.Cd.condT rfl ?_
              refine Sp.Cd.region ?_
              refine Sp.L.pure (by kernel_rfl) (Sp.Runs.move rfl) ?_
              refine Sp.L.pure (by kernel_rfl) (Sp.Runs.addS rfl rfl (show _ + 1 ≤ 9223372036854775807 by omega)) ?_
              refine Sp.L.pure (by kernel_rfl) (Sp.Runs.assign rfl) ?_
              refine Sp.L.nil ?_
              refine Sp.Nx.block ?_
              refine Sp.Nx.again (i2 + 1) ⟨(Sp.lkS rfl HN2), rfl, rfl, rfl, rfl, rfl, rfl, rfl, rfl, rfl, rfl, rfl, rfl, rfl, rfl, trivial⟩ ⟨B2, HI, hlt2⟩ (by omega)
            · have HN2 : Rw.str (Rw.goTo c0 i2) ++ ⟨#[62]⟩ = Rw.str (Rw.goTo c0 (i2 + 1)) := by rw [HN.out, if_pos (by omega)]
              refine Sp.Cd.seq fun K47 hK47 => ?_
              refine Sp.Cd.region ?_
              refine Sp.L.next rfl (Lib.run_next_ascii_at w28 w26.heap.size row i2 _ HI.out hlt2 (byteA HX.out.row i2 hlt2)) (by kernel_rfl) ?_
              obtain ⟨w29, hw⟩ : ∃ x, x = w28.iterAt w26.heap.size row (i2 + 1) := ⟨_, rfl⟩
              rw [← hw]
              replace HI : Hid (w29.heap[w26.heap.size]? = some (.stringIter row (i2 + 1))) := Lib.hid (by rw [hw]; exact Lib.iterAt_heap w28 w26.heap.size row i2 (i2 + 1) HI.out)
              replace B2 : Hid (Below w26.heap.size w26 w29) := Lib.hid (by rw [hw]; exact Lib.below_iterAt B2.out (Nat.le_refl _) row (i2 + 1))
              clear hw
              refine Sp.L.pure (by kernel_rfl) (Sp.Runs.extract rfl rfl) ?_
              refine Sp.L.nil ?_
              refine hK47 _ _ (Sp.Cd.sub (S' := [(1, _), (5, _), (6, _), (10, _), (14, _), (18, _), (22, _), (26, _), (30, _), (34, _), (38, _), (42, _), (43, _), (45, _), (337, _), (338, _), (339, _)]) ⟨rfl, rfl, rfl, rfl, rfl, rfl, rfl, rfl, rfl, rfl, rfl, rfl, rfl, rfl, rfl, rfl, rfl, trivial⟩ ?_)
              clear hK47 K47
              refine Sp.Cd.seq fun K48 hK48 => ?_
              refine Sp.Cd.condT rfl ?_
              refine Sp.Cd.skip ?_
              refine hK48 _ _ (Sp.Cd.sub (S' := [(1, _), (5, _), (6, _), (10, _), (14, _), (18, _), (22, _), (26, _), (30, _), (34, _), (38, _), (42, _), (43, _), (45, _), (337, _), (338, _)]) ⟨rfl, rfl, rfl, rfl, rfl, rfl, rfl, rfl, rfl, rfl, rfl, rfl, rfl, rfl, rfl, rfl, trivial⟩ ?_)
              clear hK48 K48
              refine Sp.Cd.block ?_
              refine Sp.Cd.seq fun K49 hK49 => ?_
              refine Sp.Cd.region ?_
              refine Sp.L.pure (by kernel_rfl) (Sp.Runs.extract rfl rfl) ?_
              refine Sp.L.pure (by kernel_rfl) (Sp.Runs.assign rfl) ?_
              refine Sp.L.nil ?_
              refine hK49 _ _ (Sp.Cd.sub (S' := [(1, _), (5, _), (6, _), (10, _), (14, _), (18, _), (22, _), (26, _), (30, _), (34, _), (38, _), (42, _), (43, _), (45, _), (46, _), (337, _)]) ⟨rfl, rfl, rfl, rfl, rfl, rfl, rfl, rfl, rfl, rfl, rfl, rfl, rfl, rfl, rfl, rfl, trivial⟩ ?_)
              clear hK49 K49
              refine Sp.Cd.seq fun K50 hK50 => ?_
              refine Sp.Cd.region ?_
              refine Sp.L.pure (by kernel_rfl) (Sp.Runs.move rfl) ?_
              refine Sp.L.pure (by kernel_rfl) (Sp.Runs.move rfl) ?_
              refine Sp.L.pure (by kernel_rfl) (Sp.Runs.lenS Try.underlying9 rfl) ?_
              refine Sp.L.pure (by kernel_rfl) (Sp.Runs.move rfl) ?_
              refine Sp.L.pure (by kernel_rfl) (Sp.Runs.subI rfl rfl (Sp.wrapI (by omega) (by omega))) ?_
              refine Sp.L.pure (by kernel_rfl) (Sp.Runs.ltIF rfl rfl (by omega)) ?_
              refine Sp.L.nil ?_
              refine hK50 _ _ (Sp.Cd.sub (S' := [(1, _), (5, _), (6, _), (10, _), (14, _), (18, _), (22, _), (26, _), (30, _), (34, _), (38, _), (42, _), (43, _), (45, _), (337, _), (346, _)]) ⟨rfl, rfl, rfl, rfl, rfl, rfl, rfl, rfl, rfl, rfl, rfl, rfl, rfl, rfl, rfl, rfl, trivial⟩ ?_)
              clear hK50 K50
              refine Sp.Cd.condF rfl ?_
              refine Sp.Cd.region ?_
              refine Sp.L.pure (by kernel_rfl) (Sp.Runs.move rfl) ?_
              refine Sp.L.pure (by kernel_rfl) (Sp.Runs.addS rfl rfl (show _ + 1 ≤ 9223372036854775807 by omega)) ?_
              refine Sp.L.pure (by kernel_rfl) (Sp.Runs.assign rfl) ?_
              refine Sp.L.nil ?_
              refine Sp.Nx.block ?_
              refine Sp.Nx.again (i2 + 1) ⟨(Sp.lkS rfl HN2), rfl, rfl, rfl, rfl, rfl, rfl, rfl, rfl, rfl, rfl, rfl, rfl, rfl, rfl, trivial⟩ ⟨B2, HI, hlt2⟩ (by omega)
          · refine Sp.Cd.seq fun K51 hK51 => ?_
            refine Sp.Cd.region ?_
            refine Sp.L.next rfl (Lib.run_next_end_at w28 w26.heap.size row i2 _ HI.out hlt2) (by kernel_rfl) ?_
            refine Sp.L.pure (by kernel_rfl) (Sp.Runs.extract rfl rfl) ?_
            refine Sp.L.nil ?_
            refine hK51 _ _ (Sp.Cd.sub (S' := [(1, _), (5, _), (6, _), (10, _), (14, _), (18, _), (22, _), (26, _), (30, _), (34, _), (38, _), (42, _), (43, _), (45, _), (337, _), (338, _), (339, _)]) ⟨rfl, rfl, rfl, rfl, rfl, rfl, rfl, rfl, rfl, rfl, rfl, rfl, rfl, rfl, rfl, rfl, rfl, trivial⟩ ?_)
            clear hK51 K51
            refine Sp.Cd.seq fun K52 hK52 => ?_
            refine Sp.Cd.condF rfl ?_
            refine Sp.Cd.exit ?_
            refine Sp.Ex.then ?_
            clear hK52 K52
            refine Sp.Ex.then ?_
            have b := B2.out
            replace B0 := Lib.hid (B0.out.trans (b.mono B0.out.size))
            replace B1 := Lib.hid (B1.out.trans (b.mono B1.out.size))
            replace HYa := Lib.hid (HYa.out.below b)
            replace HYb := Lib.hid (HYb.out.below b)
            replace Htei := Lib.hid (Htei.out.below b)
            replace Hpri := Lib.hid (Hpri.out.below b)
            clear b HI
            clear B2
            refine Sp.Ex.hit ?_
            refine hK41 _ _ (Sp.Cd.sub (S' := [(1, _), (5, _), (6, _), (10, _), (14, _), (18, _), (22, _), (26, _), (30, _), (34, _), (38, _), (42, _), (45, _)]) ⟨rfl, rfl, rfl, rfl, rfl, rfl, rfl, rfl, rfl, rfl, rfl, rfl, rfl, trivial⟩ ?_)
            clear hK41 K41
            refine Sp.Cd.cutK [(1, _), (5, _), (6, _), (22, _), (26, _), (34, _), (38, _)] ⟨rfl, rfl, rfl, rfl, rfl, rfl, rfl, trivial⟩ ?_ ?_
            · have B2 : Hid (Below w28.heap.size w28 w28) := Lib.hid (Below.refl _ _)
              have hg : rs = Rw.str (Rw.goTo c0 i2) := by rw [show i2 = l.length by rw [← HZ.out]; omega, HG.out]; exact HX.out.rs
              obtain ⟨m1, m2, m3, m4, m5, m6⟩ := HX.out.small
              rw [← HZ.out] at m5
              by_cases h0 : tk = 0
              · obtain ⟨y1, y2, y3, y4⟩ := HX.out.yes h0
                have y5 : (lpri : Int) = 0 := by rw [Lpri.out, y2]; rfl
                subst y1
                refine Sp.Cd.seq fun K53 hK53 => ?_
                refine Sp.Cd.region ?_
                refine Sp.L.pure (by kernel_rfl) (Sp.Runs.move rfl) ?_
                refine Sp.L.pure (by kernel_rfl) (Sp.Runs.move rfl) ?_
                refine Sp.L.pure (by kernel_rfl) (Sp.Runs.neSF rfl rfl hg) ?_
                refine Sp.L.pure (by kernel_rfl) (Sp.Runs.move rfl) ?_
                refine Sp.L.pure (by kernel_rfl) (Sp.Runs.move rfl) ?_
                refine Sp.L.pure (by kernel_rfl) (Sp.Runs.move rfl) ?_
                refine Sp.L.pure (by kernel_rfl) (Sp.Runs.neIF rfl rfl (by first | rfl | assumption | omega)) ?_
                refine Sp.L.pure (by kernel_rfl) (Sp.Runs.pickF rfl rfl) ?_
                refine Sp.L.pure (by kernel_rfl) (Sp.Runs.move rfl) ?_
                refine Sp.L.pure (by kernel_rfl) (Sp.Runs.move rfl) ?_
                have CC := mSum_q w28 atei ltei ctei te (by rw [Ltei.out]; exact ST.out) Htei.out HX.out.sums.2 (by rw [HX.out.sums.1]; omega)
                rw [HX.out.sums.1] at CC
                refine Sp.L.call (by kernel_rfl) (CC) rfl rfl (by kernel_rfl) ?_
                clear CC
                rintro e w' ⟨rfl, rfl⟩
                refine ⟨_, rfl, ?_⟩
                refine Sp.L.pure (by kernel_rfl) (Sp.Runs.move rfl) ?_
                refine Sp.L.pure (by kernel_rfl) (Sp.Runs.mulI rfl rfl (Sp.wrapI (by omega) (by omega))) ?_
                refine Sp.L.pure (by kernel_rfl) (Sp.Runs.neIF rfl rfl (by first | rfl | assumption | omega)) ?_
                refine Sp.L.pure (by kernel_rfl) (Sp.Runs.pickF rfl rfl) ?_
                refine Sp.L.pure (by kernel_rfl) (Sp.Runs.move rfl) ?_
                refine Sp.L.pure (by kernel_rfl) (Sp.Runs.move rfl) ?_
                refine Sp.L.pure (by kernel_rfl) (Sp.Runs.eqIT rfl rfl h0) ?_
                refine Sp.L.pure (by kernel_rfl) (Sp.Runs.move rfl) ?_
                refine Sp.L.pure (by kernel_rfl) (Sp.Runs.neBF Try.underlying4 rfl rfl (by decide)) ?_
                refine Sp.L.pure (by kernel_rfl) (Sp.Runs.pickF rfl rfl) ?_
                refine Sp.L.pure (by kernel_rfl) (Sp.Runs.move rfl) ?_
                refine Sp.L.pure (by kernel_rfl) (Sp.Runs.move rfl) ?_
                refine Sp.L.pure (by kernel_rfl) (Sp.Runs.move rfl) ?_
                refine Sp.L.pure (by kernel_rfl) (Sp.Runs.lenL Try.underlying29 rfl) ?_
                refine Sp.L.pure (by kernel_rfl) (Sp.Runs.eqIT rfl rfl y5) ?_
                refine Sp.L.pure (by kernel_rfl) (Sp.Runs.neBF Try.underlying4 rfl rfl (by decide)) ?_
                refine Sp.L.pure (by kernel_rfl) (Sp.Runs.pickF rfl rfl) ?_
                refine Sp.L.pure (by kernel_rfl) (Sp.Runs.move rfl) ?_
                refine Sp.L.pure (by kernel_rfl) (Sp.Runs.move rfl) ?_
                refine Sp.L.pure (by kernel_rfl) (Sp.Runs.move rfl) ?_
                refine Sp.L.pure (by kernel_rfl) (Sp.Runs.move rfl) ?_
                refine Sp.L.pure (by kernel_rfl) (Sp.Runs.eqST rfl rfl y3.symm) ?_
                refine Sp.L.pure (by kernel_rfl) (Sp.Runs.neBF Try.underlying4 rfl rfl (by decide)) ?_
                refine Sp.L.pure (by kernel_rfl) (Sp.Runs.pickF rfl rfl) ?_
                refine Sp.L.pure (by kernel_rfl) (Sp.Runs.move rfl) ?_
                refine Sp.L.pure (by kernel_rfl) (Sp.Runs.move rfl) ?_
                refine Sp.L.pure (by kernel_rfl) (Sp.Runs.move rfl) ?_
                refine Sp.L.pure (by kernel_rfl) (Sp.Runs.lenS Try.underlying9 rfl) ?_
                refine Sp.L.pure (by kernel_rfl) (Sp.Runs.subI rfl rfl (Sp.wrapI (by omega) (by omega))) ?_
                refine Sp.L.pure (by kernel_rfl) (Sp.Runs.gtIF rfl rfl (by first | rfl | assumption | omega)) ?_
                refine Sp.L.pure (by kernel_rfl) (Sp.Runs.move rfl) ?_
                refine Sp.L.skip (by kernel_rfl) ?_
                refine Sp.L.skip (by kernel_rfl) ?_
                refine Sp.L.skip (by kernel_rfl) ?_
                refine Sp.L.pure (by kernel_rfl) (Sp.Runs.pickF rfl rfl) ?_
                refine Sp.L.pure (by kernel_rfl) (Sp.Runs.pickF rfl rfl) ?_
                refine Sp.L.pure (by kernel_rfl) (Sp.Runs.move rfl) ?_
                refine Sp.L.pure (by kernel_rfl) (Sp.Runs.move rfl) ?_
                refine Sp.L.pure (by kernel_rfl) (Sp.Runs.move rfl) ?_
                refine Sp.L.pure (by kernel_rfl) (Sp.Runs.gtIF rfl rfl (by first | rfl | assumption | omega)) ?_
                refine Sp.L.pure (by kernel_rfl) (Sp.Runs.pickF rfl rfl) ?_
                refine Sp.L.pure (by kernel_rfl) (Sp.Runs.move rfl) ?_
                refine Sp.L.pure (by kernel_rfl) (Sp.Runs.move rfl) ?_
                have CC := mRises_q w28 apri lpri cpri pr (by rw [Lpri.out]; exact SP.out) Hpri.out
                rw [HX.out.rise] at CC
                refine Sp.L.call (by kernel_rfl) (CC) rfl rfl (by kernel_rfl) ?_
                clear CC
                rintro e w29 ⟨rfl, b⟩
                replace B0 := Lib.hid (B0.out.trans (b.mono B0.out.size))
                replace B1 := Lib.hid (B1.out.trans (b.mono B1.out.size))
                replace B2 := Lib.hid (B2.out.trans (b.mono B2.out.size))
                replace HYa := Lib.hid (HYa.out.below b)
                replace HYb := Lib.hid (HYb.out.below b)
                replace Htei := Lib.hid (Htei.out.below b)
                replace Hpri := Lib.hid (Hpri.out.below b)
                clear b
                refine ⟨_, rfl, ?_⟩
                refine Sp.L.pure (by kernel_rfl) (Sp.Runs.notF rfl) ?_
                refine Sp.L.pure (by kernel_rfl) (Sp.Runs.pickF rfl rfl) ?_
                refine Sp.L.nil ?_
                refine hK53 _ _ (Sp.Cd.sub (S' := [(1, _), (5, _), (6, _), (22, _), (26, _), (34, _), (38, _), (407, _)]) ⟨rfl, rfl, rfl, rfl, rfl, rfl, rfl, rfl, trivial⟩ ?_)
                clear hK53 K53
                refine Sp.Cd.condF rfl ?_
                refine Sp.Cd.skip ?_
                refine Sp.Nx.post () ⟨rfl, rfl, rfl, rfl, rfl, rfl, rfl, trivial⟩ (B2.out)
              · obtain ⟨y1, y2, y3⟩ := HX.out.no h0
                have y5 : ¬ (lpri : Int) = 0 := by rw [Lpri.out]; omega
                subst y1
                refine Sp.Cd.seq fun K54 hK54 => ?_
                refine Sp.Cd.region ?_
                refine Sp.L.pure (by kernel_rfl) (Sp.Runs.move rfl) ?_
                refine Sp.L.pure (by kernel_rfl) (Sp.Runs.move rfl) ?_
                refine Sp.L.pure (by kernel_rfl) (Sp.Runs.neSF rfl rfl hg) ?_
                refine Sp.L.pure (by kernel_rfl) (Sp.Runs.move rfl) ?_
                refine Sp.L.pure (by kernel_rfl) (Sp.Runs.move rfl) ?_
                refine Sp.L.pure (by kernel_rfl) (Sp.Runs.move rfl) ?_
                refine Sp.L.pure (by kernel_rfl) (Sp.Runs.neIF rfl rfl (by first | rfl | assumption | omega)) ?_
                refine Sp.L.pure (by kernel_rfl) (Sp.Runs.pickF rfl rfl) ?_
                refine Sp.L.pure (by kernel_rfl) (Sp.Runs.move rfl) ?_
                refine Sp.L.pure (by kernel_rfl) (Sp.Runs.move rfl) ?_
                have CC := mSum_q w28 atei ltei ctei te (by rw [Ltei.out]; exact ST.out) Htei.out HX.out.sums.2 (by rw [HX.out.sums.1]; omega)
                rw [HX.out.sums.1] at CC
                refine Sp.L.call (by kernel_rfl) (CC) rfl rfl (by kernel_rfl) ?_
                clear CC
                rintro e w' ⟨rfl, rfl⟩
                refine ⟨_, rfl, ?_⟩
                refine Sp.L.pure (by kernel_rfl) (Sp.Runs.move rfl) ?_
                refine Sp.L.pure (by kernel_rfl) (Sp.Runs.mulI rfl rfl (Sp.wrapI (by omega) (by omega))) ?_
                refine Sp.L.pure (by kernel_rfl) (Sp.Runs.neIF rfl rfl (by first | rfl | assumption | omega)) ?_
                refine Sp.L.pure (by kernel_rfl) (Sp.Runs.pickF rfl rfl) ?_
                refine Sp.L.pure (by kernel_rfl) (Sp.Runs.move rfl) ?_
                refine Sp.L.pure (by kernel_rfl) (Sp.Runs.move rfl) ?_
                refine Sp.L.pure (by kernel_rfl) (Sp.Runs.eqIF rfl rfl h0) ?_
                refine Sp.L.pure (by kernel_rfl) (Sp.Runs.move rfl) ?_
                refine Sp.L.pure (by kernel_rfl) (Sp.Runs.neBF Try.underlying4 rfl rfl (by decide)) ?_
                refine Sp.L.pure (by kernel_rfl) (Sp.Runs.pickF rfl rfl) ?_
                refine Sp.L.pure (by kernel_rfl) (Sp.Runs.move rfl) ?_
                refine Sp.L.pure (by kernel_rfl) (Sp.Runs.move rfl) ?_
                refine Sp.L.pure (by kernel_rfl) (Sp.Runs.move rfl) ?_
                refine Sp.L.pure (by kernel_rfl) (Sp.Runs.lenL Try.underlying29 rfl) ?_
                refine Sp.L.pure (by kernel_rfl) (Sp.Runs.eqIF rfl rfl y5) ?_
                refine Sp.L.pure (by kernel_rfl) (Sp.Runs.neBF Try.underlying4 rfl rfl (by decide)) ?_
                refine Sp.L.pure (by kernel_rfl) (Sp.Runs.pickF rfl rfl) ?_
                refine Sp.L.pure (by kernel_rfl) (Sp.Runs.move rfl) ?_
                refine Sp.L.pure (by kernel_rfl) (Sp.Runs.move rfl) ?_
                refine Sp.L.pure (by kernel_rfl) (Sp.Runs.move rfl) ?_
                refine Sp.L.pure (by kernel_rfl) (Sp.Runs.move rfl) ?_
                refine Sp.L.pure (by kernel_rfl) (Sp.Runs.eqSF rfl rfl y3) ?_
                refine Sp.L.pure (by kernel_rfl) (Sp.Runs.neBF Try.underlying4 rfl rfl (by decide)) ?_
                refine Sp.L.pure (by kernel_rfl) (Sp.Runs.pickF rfl rfl) ?_
                refine Sp.L.pure (by kernel_rfl) (Sp.Runs.move rfl) ?_
                refine Sp.L.pure (by kernel_rfl) (Sp.Runs.move rfl) ?_
                refine Sp.L.pure (by kernel_rfl) (Sp.Runs.move rfl) ?_
                refine Sp.L.pure (by kernel_rfl) (Sp.Runs.lenS Try.underlying9 rfl) ?_
                refine Sp.L.pure (by kernel_rfl) (Sp.Runs.subI rfl rfl (Sp.wrapI (by omega) (by omega))) ?_
                refine Sp.L.pure (by kernel_rfl) (Sp.Runs.gtIF rfl rfl (by first | rfl | assumption | omega)) ?_
                refine Sp.L.pure (by kernel_rfl) (Sp.Runs.move rfl) ?_
                refine Sp.L.skip (by kernel_rfl) ?_
                refine Sp.L.skip (by kernel_rfl) ?_
                refine Sp.L.skip (by kernel_rfl) ?_
                refine Sp.L.pure (by kernel_rfl) (Sp.Runs.pickF rfl rfl) ?_
                refine Sp.L.pure (by kernel_rfl) (Sp.Runs.pickF rfl rfl) ?_
                refine Sp.L.pure (by kernel_rfl) (Sp.Runs.move rfl) ?_
                refine Sp.L.pure (by kernel_rfl) (Sp.Runs.move rfl) ?_
                refine Sp.L.pure (by kernel_rfl) (Sp.Runs.move rfl) ?_
                refine Sp.L.pure (by kernel_rfl) (Sp.Runs.gtIF rfl rfl (by first | rfl | assumption | omega)) ?_
                refine Sp.L.pure (by kernel_rfl) (Sp.Runs.pickF rfl rfl) ?_
                refine Sp.L.pure (by kernel_rfl) (Sp.Runs.move rfl) ?_
                refine Sp.L.pure (by kernel_rfl) (Sp.Runs.move rfl) ?_
                have CC := mRises_q w28 apri lpri cpri pr (by rw [Lpri.out]; exact SP.out) Hpri.out
                rw [HX.out.rise] at CC
                refine Sp.L.call (by kernel_rfl) (CC) rfl rfl (by kernel_rfl) ?_
                clear CC
                rintro e w29 ⟨rfl, b⟩
                replace B0 := Lib.hid (B0.out.trans (b.mono B0.out.size))
                replace B1 := Lib.hid (B1.out.trans (b.mono B1.out.size))
                replace B2 := Lib.hid (B2.out.trans (b.mono B2.out.size))
                replace HYa := Lib.hid (HYa.out.below b)
                replace HYb := Lib.hid (HYb.out.below b)
                replace Htei := Lib.hid (Htei.out.below b)
                replace Hpri := Lib.hid (Hpri.out.below b)
                clear b
                refine ⟨_, rfl, ?_⟩
                refine Sp.L.pure (by kernel_rfl) (Sp.Runs.notF rfl) ?_
                refine Sp.L.pure (by kernel_rfl) (Sp.Runs.pickF rfl rfl) ?_
                refine Sp.L.nil ?_
                refine hK54 _ _ (Sp.Cd.sub (S' := [(1, _), (5, _), (6, _), (22, _), (26, _), (34, _), (38, _), (407, _)]) ⟨rfl, rfl, rfl, rfl, rfl, rfl, rfl, rfl, trivial⟩ ?_)
                clear hK54 K54
                refine Sp.Cd.condF rfl ?_
                refine Sp.Cd.skip ?_
                refine Sp.Nx.post () ⟨rfl, rfl, rfl, rfl, rfl, rfl, rfl, trivial⟩ (B2.out)
            · intro w29 b
              replace B0 := Lib.hid (B0.out.trans (b.mono B0.out.size))
              replace B1 := Lib.hid (B1.out.trans (b.mono B1.out.size))
              replace HYa := Lib.hid (HYa.out.below b)
              replace HYb := Lib.hid (HYb.out.below b)
              replace Htei := Lib.hid (Htei.out.below b)
              replace Hpri := Lib.hid (Hpri.out.below b)
              clear b
              refine Sp.Cd.seq fun K55 hK55 => ?_
              refine Sp.Cd.seq fun K56 hK56 => ?_
              refine Sp.Cd.region ?_
              refine Sp.L.pure (by kernel_rfl) (Sp.Runs.move rfl) ?_
              refine Sp.L.pure (by kernel_rfl) (Sp.Runs.lenL Try.underlying29 rfl) ?_
              refine Sp.L.pure (by kernel_rfl) (Sp.Runs.move rfl) ?_
              refine Sp.L.nil ?_
              refine hK56 _ _ (Sp.Cd.sub (S' := [(1, _), (5, _), (6, _), (22, _), (26, _), (34, _), (38, _), (408, _), (409, _), (410, _)]) ⟨rfl, rfl, rfl, rfl, rfl, rfl, rfl, rfl, rfl, rfl, trivial⟩ ?_)
              clear hK56 K56
              refine Sp.Cd.block ?_
              have B2 : Hid (Below w29.heap.size w29 w29) := Lib.hid (Below.refl _ _)
              refine Sp.Cd.loop (ι := Nat) [(1, _), (5, _), (6, _), (22, _), (26, _), (34, _), (38, _), (408, _), (409, _)] (fun m => [(410, .int .i64 (m : Nat))]) (fun m w' => Hid (Below w29.heap.size w29 w') ∧ (m ≤ lpri)) (fun m => lpri - m) 0 ⟨rfl, rfl, rfl, rfl, rfl, rfl, rfl, rfl, rfl, rfl, trivial⟩ ⟨B2, Nat.zero_le _⟩ ?_
              clear B2
              rintro m w30 ⟨B2, hrel⟩
              have b := B2.out
              replace B0 := Lib.hid (B0.out.trans (b.mono B0.out.size))
              replace B1 := Lib.hid (B1.out.trans (b.mono B1.out.size))
              replace HYa := Lib.hid (HYa.out.below b)
              replace HYb := Lib.hid (HYb.out.below b)
              replace Htei := Lib.hid (Htei.out.below b)
              replace Hpri := Lib.hid (Hpri.out.below b)
              clear b
              refine Sp.Cd.sub (S' := [(410, _), (1, _), (5, _), (6, _), (22, _), (26, _), (34, _), (38, _), (408, _), (409, _)]) ⟨rfl, rfl, rfl, rfl, rfl, rfl, rfl, rfl, rfl, rfl, trivial⟩ ?_
              by_cases hlt3 : m < lpri
              · obtain ⟨p, hp, p1, y1, y2, y3, y4⟩ := HX.out.pair m (by rw [← Lpri.out]; exact hlt3)
                obtain ⟨q, hq⟩ := Sp.came_idx (c := cpri) (k := .i64) (n := (m : Int)) Hpri.out m hlt3 rfl
                rw [hp] at hq
                have hnz : nx.size = row.size := by rw [strSz HX.out.nx, Rw.length_tick, HZ.out]
                have p2 : p + 1 < row.size := by rw [HZ.out]; exact p1
                have p3 : p + 1 < nx.size := by rw [hnz]; exact p2
                have q9 : p < row.size := Nat.lt_of_succ_lt p2
                have q8 : p < nx.size := Nat.lt_of_succ_lt p3
                have f1 : ((row[p]'q9).toNat : Int) = 62 := by rw [byteI HX.out.row p q9, y1]; rfl
                have f2 : ((row[p + 1]'p2).toNat : Int) = 60 := by rw [byteI HX.out.row (p + 1) p2, y2]; rfl
                have f3 : ((nx[p]'q8).toNat : Int) = 60 := by rw [byteI HX.out.nx p q8, y3]; rfl
                have f4 : ((nx[p + 1]'p3).toNat : Int) = 62 := by rw [byteI HX.out.nx (p + 1) p3, y4]; rfl
                have q7 : lpri ≤ 4611686018427387904 := by rw [Lpri.out]; exact SP.out
                have hb := Below.refl w30.heap.size w30
                refine Sp.Cd.seq fun K57 hK57 => ?_
                refine Sp.Cd.region ?_
                refine Sp.L.pure (by kernel_rfl) (Sp.Runs.ltIT rfl rfl (by omega)) ?_
                refine Sp.L.nil ?_
                refine hK57 _ _ (Sp.Cd.sub (S' := [(1, _), (5, _), (6, _), (22, _), (26, _), (34, _), (38, _), (408, _), (409, _), (410, _), (411, _)]) ⟨rfl, rfl, rfl, rfl, rfl, rfl, rfl, rfl, rfl, rfl, rfl, trivial⟩ ?_)
                clear hK57 K57
                refine Sp.Cd.seq fun K58 hK58 => ?_
                refine Sp.Cd.condT rfl ?_
                refine Sp.Cd.skip ?_
                refine hK58 _ _ (Sp.Cd.sub (S' := [(1, _), (5, _), (6, _), (22, _), (26, _), (34, _), (38, _), (408, _), (409, _), (410, _)]) ⟨rfl, rfl, rfl, rfl, rfl, rfl, rfl, rfl, rfl, rfl, trivial⟩ ?_)
                clear hK58 K58
                refine Sp.Cd.seq fun K59 hK59 => ?_
                refine Sp.Cd.block ?_
                refine Sp.Cd.seq fun K60 hK60 => ?_
                refine Sp.Cd.region ?_
                refine Sp.L.pure (by kernel_rfl) (Sp.Runs.indexAddr rfl rfl ((hq _ hb).1)) ?_
                refine Sp.L.pure (by kernel_rfl) (Sp.Runs.load rfl ((hq _ hb).2)) ?_
                refine Sp.L.pure (by kernel_rfl) (Sp.Runs.assign rfl) ?_
                refine Sp.L.nil ?_
                refine hK60 _ _ (Sp.Cd.sub (S' := [(1, _), (5, _), (6, _), (22, _), (26, _), (34, _), (38, _), (48, _), (408, _), (409, _), (410, _)]) ⟨rfl, rfl, rfl, rfl, rfl, rfl, rfl, rfl, rfl, rfl, rfl, trivial⟩ ?_)
                clear hK60 K60
                refine Sp.Cd.seq fun K61 hK61 => ?_
                refine Sp.Cd.region ?_
                refine Sp.L.pure (by kernel_rfl) (Sp.Runs.move rfl) ?_
                refine Sp.L.pure (by kernel_rfl) (Sp.Runs.move rfl) ?_
                refine Sp.L.pure (by kernel_rfl) (Sp.Runs.indexS Try.underlying9 rfl rfl p rfl q9 f1) ?_
                refine Sp.L.pure (by kernel_rfl) (Sp.Runs.neIF rfl rfl (by first | rfl | assumption | omega)) ?_
                refine Sp.L.pure (by kernel_rfl) (Sp.Runs.move rfl) ?_
                refine Sp.L.pure (by kernel_rfl) (Sp.Runs.move rfl) ?_
                refine Sp.L.pure (by kernel_rfl) (Sp.Runs.move rfl) ?_
                refine Sp.L.pure (by kernel_rfl) (Sp.Runs.addI rfl rfl (Sp.wrapI (by omega) (by omega))) ?_
                refine Sp.L.pure (by kernel_rfl) (Sp.Runs.indexS Try.underlying9 rfl rfl (p + 1) rfl p2 f2) ?_
                refine Sp.L.pure (by kernel_rfl) (Sp.Runs.neIF rfl rfl (by first | rfl | assumption | omega)) ?_
                refine Sp.L.pure (by kernel_rfl) (Sp.Runs.pickF rfl rfl) ?_
                refine Sp.L.pure (by kernel_rfl) (Sp.Runs.move rfl) ?_
                refine Sp.L.pure (by kernel_rfl) (Sp.Runs.move rfl) ?_
                refine Sp.L.pure (by kernel_rfl) (Sp.Runs.move rfl) ?_
                refine Sp.L.pure (by kernel_rfl) (Sp.Runs.indexS Try.underlying9 rfl rfl p rfl q8 f3) ?_
                refine Sp.L.pure (by kernel_rfl) (Sp.Runs.neIF rfl rfl (by first | rfl | assumption | omega)) ?_
                refine Sp.L.pure (by kernel_rfl) (Sp.Runs.pickF rfl rfl) ?_
                refine Sp.L.pure (by kernel_rfl) (Sp.Runs.move rfl) ?_
                refine Sp.L.pure (by kernel_rfl) (Sp.Runs.move rfl) ?_
                refine Sp.L.pure (by kernel_rfl) (Sp.Runs.move rfl) ?_
                refine Sp.L.pure (by kernel_rfl) (Sp.Runs.addI rfl rfl (Sp.wrapI (by omega) (by omega))) ?_
                refine Sp.L.pure (by kernel_rfl) (Sp.Runs.indexS Try.underlying9 rfl rfl (p + 1) rfl p3 f4) ?_
                refine Sp.L.pure (by kernel_rfl) (Sp.Runs.neIF rfl rfl (by first | rfl | assumption | omega)) ?_
                refine Sp.L.pure (by kernel_rfl) (Sp.Runs.pickF rfl rfl) ?_
                refine Sp.L.nil ?_
                refine hK61 _ _ (Sp.Cd.sub (S' := [(1, _), (5, _), (6, _), (22, _), (26, _), (34, _), (38, _), (408, _), (409, _), (410, _), (437, _)]) ⟨rfl, rfl, rfl, rfl, rfl, rfl, rfl, rfl, rfl, rfl, rfl, trivial⟩ ?_)
                clear hK61 K61
                refine Sp.Cd.condF rfl ?_
                refine Sp.Cd.skip ?_
                refine Sp.Nx.block ?_
                refine hK59 _ _ (Sp.Cd.sub (S' := [(1, _), (5, _), (6, _), (22, _), (26, _), (34, _), (38, _), (408, _), (409, _), (410, _)]) ⟨rfl, rfl, rfl, rfl, rfl, rfl, rfl, rfl, rfl, rfl, trivial⟩ ?_)
                clear hK59 K59
                refine Sp.Cd.region ?_
                refine Sp.L.pure (by kernel_rfl) (Sp.Runs.addI rfl rfl (Sp.wrapI (by omega) (by omega))) ?_
                refine Sp.L.pure (by kernel_rfl) (Sp.Runs.move rfl) ?_
                refine Sp.L.nil ?_
                refine Sp.Nx.again (m + 1) ⟨(Sp.lkI rfl (by omega)), rfl, rfl, rfl, rfl, rfl, rfl, rfl, rfl, rfl, trivial⟩ ⟨B2, hlt3⟩ (by omega)
              · refine Sp.Cd.seq fun K62 hK62 => ?_
                refine Sp.Cd.region ?_
                refine Sp.L.pure (by kernel_rfl) (Sp.Runs.ltIF rfl rfl (by omega)) ?_
                refine Sp.L.nil ?_
                refine hK62 _ _ (Sp.Cd.sub (S' := [(1, _), (5, _), (6, _), (22, _), (26, _), (34, _), (38, _), (408, _), (409, _), (410, _), (411, _)]) ⟨rfl, rfl, rfl, rfl, rfl, rfl, rfl, rfl, rfl, rfl, rfl, trivial⟩ ?_)
                clear hK62 K62
                refine Sp.Cd.seq fun K63 hK63 => ?_
                refine Sp.Cd.condF rfl ?_
                refine Sp.Cd.exit ?_
                refine Sp.Ex.then ?_
                clear hK63 K63
                refine Sp.Ex.then ?_
                clear B2
                refine Sp.Ex.hit ?_
                refine hK55 _ _ (Sp.Cd.sub (S' := [(1, _), (5, _), (6, _), (22, _), (26, _), (34, _), (38, _)]) ⟨rfl, rfl, rfl, rfl, rfl, rfl, rfl, trivial⟩ ?_)
                clear hK55 K55
                refine Sp.Cd.seq fun K64 hK64 => ?_
                refine Sp.Cd.seq fun K65 hK65 => ?_
                refine Sp.Cd.region ?_
                refine Sp.L.pure (by kernel_rfl) (Sp.Runs.move rfl) ?_
                have B2 : Hid (Below w30.heap.size w30 w30) := Lib.hid (Below.refl _ _)
                refine Sp.L.rangeS Try.underlying9 rfl (by kernel_rfl) ?_
                obtain ⟨w31, hw⟩ : ∃ x, x = w30.iter row 0 := ⟨_, rfl⟩
                rw [← hw]
                have HI : Hid (w31.heap[w30.heap.size]? = some (.stringIter row 0)) := Lib.hid (by rw [hw]; exact World.iter_heap w30 row 0)
                replace B2 : Hid (Below w30.heap.size w30 w31) := Lib.hid (by rw [hw]; exact (Below.refl _ w30).alloc (Nat.le_refl _) _)
                clear hw
                refine Sp.L.nil ?_
                refine hK65 _ _ (Sp.Cd.sub (S' := [(1, _), (5, _), (6, _), (22, _), (26, _), (34, _), (38, _), (440, _)]) ⟨rfl, rfl, rfl, rfl, rfl, rfl, rfl, rfl, trivial⟩ ?_)
                clear hK65 K65
                refine Sp.Cd.block ?_
                refine Sp.Cd.loop (ι := Nat) [(1, _), (5, _), (6, _), (22, _), (26, _), (34, _), (38, _), (440, _)] (fun i4 => []) (fun i4 w' => Hid (Below w30.heap.size w30 w') ∧ Hid (w'.heap[w30.heap.size]? = some (.stringIter row i4)) ∧ (i4 ≤ row.size)) (fun i4 => row.size - i4) 0 ⟨rfl, rfl, rfl, rfl, rfl, rfl, rfl, rfl, trivial⟩ ⟨B2, HI, Nat.zero_le _⟩ ?_
                clear B2 HI
                rintro i4 w32 ⟨B2, HI, hrel⟩
                refine Sp.Cd.sub (S' := [(1, _), (5, _), (6, _), (22, _), (26, _), (34, _), (38, _), (440, _)]) ⟨rfl, rfl, rfl, rfl, rfl, rfl, rfl, rfl, trivial⟩ ?_
                by_cases hlt4 : i4 < row.size
                · refine Sp.Cd.seq fun K66 hK66 => ?_
                  refine Sp.Cd.region ?_
                  refine Sp.L.next rfl (Lib.run_next_ascii_at w32 w30.heap.size row i4 _ HI.out hlt4 (byteA HX.out.row i4 hlt4)) (by kernel_rfl) ?_
                  obtain ⟨w33, hw⟩ : ∃ x, x = w32.iterAt w30.heap.size row (i4 + 1) := ⟨_, rfl⟩
                  rw [← hw]
                  replace HI : Hid (w33.heap[w30.heap.size]? = some (.stringIter row (i4 + 1))) := Lib.hid (by rw [hw]; exact Lib.iterAt_heap w32 w30.heap.size row i4 (i4 + 1) HI.out)
                  replace B2 : Hid (Below w30.heap.size w30 w33) := Lib.hid (by rw [hw]; exact Lib.below_iterAt B2.out (Nat.le_refl _) row (i4 + 1))
                  clear hw
                  refine Sp.L.pure (by kernel_rfl) (Sp.Runs.extract rfl rfl) ?_
                  refine Sp.L.nil ?_
                  refine hK66 _ _ (Sp.Cd.sub (S' := [(1, _), (5, _), (6, _), (22, _), (26, _), (34, _), (38, _), (440, _), (441, _), (442, _)]) ⟨rfl, rfl, rfl, rfl, rfl, rfl, rfl, rfl, rfl, rfl, trivial⟩ ?_)
                  clear hK66 K66
                  refine Sp.Cd.seq fun K67 hK67 => ?_
                  refine Sp.Cd.condT rfl ?_
                  refine Sp.Cd.skip ?_
                  refine hK67 _ _ (Sp.Cd.sub (S' := [(1, _), (5, _), (6, _), (22, _), (26, _), (34, _), (38, _), (440, _), (441, _)]) ⟨rfl, rfl, rfl, rfl, rfl, rfl, rfl, rfl, rfl, trivial⟩ ?_)
                  clear hK67 K67
                  refine Sp.Cd.block ?_
                  refine Sp.Cd.seq fun K68 hK68 => ?_
                  refine Sp.Cd.region ?_
                  refine Sp.L.pure (by kernel_rfl) (Sp.Runs.extract rfl rfl) ?_
                  refine Sp.L.pure (by kernel_rfl) (Sp.Runs.assign rfl) ?_
                  refine Sp.L.nil ?_
                  refine hK68 _ _ (Sp.Cd.sub (S' := [(1, _), (5, _), (6, _), (22, _), (26, _), (34, _), (38, _), (49, _), (440, _)]) ⟨rfl, rfl, rfl, rfl, rfl, rfl, rfl, rfl, rfl, trivial⟩ ?_)
                  clear hK68 K68
                  refine Sp.Cd.viaK [(1, _), (5, _), (6, _), (22, _), (26, _), (34, _), (38, _), (440, _)] ⟨rfl, rfl, rfl, rfl, rfl, rfl, rfl, rfl, trivial⟩ ?_ ?_
                  · have B3 : Hid (Below w33.heap.size w33 w33) := Lib.hid (Below.refl _ _)
                    have hil : i4 < l.length := by rw [← HZ.out]; exact hlt4
                    have HP2 : Hid (Came w33 apri lpri pr) := Lib.hid (Hpri.out.below B2.out)
                    have M1 := fun (x : Int) w2 (hb : Below w33.heap.size w33 w2) => (mHas_q w2 apri lpri cpri pr x (by rw [Lpri.out]; exact SP.out) (HP2.out.below hb)).mono fun _ w' (h : _ ∧ w2 = w') => (⟨h.1, h.2 ▸ Below.refl _ _⟩ : _ ∧ Below w2.heap.size w2 w')
                    obtain ⟨b1, b2, b3, b4, y1, y2, y3, y4, y5, y6, y7⟩ := HX.out.place i4 hil
                    have hnz : nx.size = row.size := by rw [strSz HX.out.nx, Rw.length_tick, HZ.out]
                    have hmz : mr.size = row.size := by rw [strSz HX.out.mr, Rw.length_mir, HZ.out]
                    have htz : tu.size = row.size := by rw [strSz HX.out.tu, List.length_map, HZ.out]
                    obtain ⟨j, hj⟩ : ∃ j : Nat, j + i4 + 1 = row.size := ⟨row.size - 1 - i4, by omega⟩
                    have hjl : l.length - 1 - i4 = j := by rw [← HZ.out]; omega
                    rw [hjl] at y7
                    have q1 : i4 < nx.size := by omega
                    have q2 : i4 < tu.size := by omega
                    have q3 : i4 < mr.size := by omega
                    have q4 : j < tu.size := by omega
                    have f1 := byteI HX.out.row i4 hlt4
                    have f2 := byteI HX.out.nx i4 q1
                    have f3 := byteI HX.out.tu i4 q2
                    have f4 := byteI HX.out.mr i4 q3
                    have f5 := byteI HX.out.tu j q4
                    rw [y1] at f1
                    rw [y2] at f2
                    rw [y6] at f3
                    rw [y7] at f4
                    obtain ⟨G, hG⟩ : ∃ x, x = sgI ((l.map (!·)).getD j false) := ⟨_, rfl⟩
                    rw [← hG] at f4 f5
                    obtain ⟨Y, hY⟩ : ∃ x, x = sgI b1 := ⟨_, rfl⟩
                    obtain ⟨Z, hZ⟩ : ∃ x, x = sgI b2 := ⟨_, rfl⟩
                    obtain ⟨T, hT⟩ : ∃ x, x = sgI (!b1) := ⟨_, rfl⟩
                    rw [← hY] at f1
                    rw [← hZ] at f2
                    rw [← hT] at f3
                    have t1 : ¬ T = Y := by rw [hT, hY]; cases b1 <;> decide
                    have M2 := M1 (i4 : Int)
                    have M3 := M1 ((i4 : Int) - 1)
                    rw [y3] at M2
                    rw [y4] at M3
                    have hns : (b3 || b4) = true → ¬ Z = Y := by rw [← y5, hZ, hY]; cases b1 <;> cases b2 <;> decide
                    have hsm : (b3 || b4) = false → Z = Y := by rw [← y5, hZ, hY]; cases b1 <;> cases b2 <;> decide
                    have r0 : (row.size : Int) - 1 - (i4 : Int) = (j : Int) := by omega
                    have r5 : (row.size : Int) ≤ 60 := by omega
                    rcases b3 with _ | _
                    · rcases b4 with _ | _
                      · have t2 : Z = Y := hsm rfl
                        refine Sp.Cd.seq fun K69 hK69 => ?_
                        refine Sp.Cd.regionT (by kernel_rfl) (by kernel_rfl) ?_
                        refine Sp.T.pure (by kernel_rfl) (fun X => Sp.Runs.move rfl) ?_
                        refine Sp.T.pure (by kernel_rfl) (fun X => Sp.Runs.move rfl) ?_
                        refine Sp.T.pure (by kernel_rfl) (fun X => Sp.Runs.indexS Try.underlying9 rfl rfl i4 rfl q1 f2) ?_
                        refine Sp.T.pure (by kernel_rfl) (fun X => Sp.Runs.move rfl) ?_
                        refine Sp.T.pure (by kernel_rfl) (fun X => Sp.Runs.move rfl) ?_
                        refine Sp.T.pure (by kernel_rfl) (fun X => Sp.Runs.indexS Try.underlying9 rfl rfl i4 rfl hlt4 f1) ?_
                        refine Sp.T.pure (by kernel_rfl) (fun X => Sp.Runs.neIF rfl rfl t2) ?_
                        refine Sp.T.pure (by kernel_rfl) (fun X => Sp.Runs.move rfl) ?_
                        refine Sp.T.pure (by kernel_rfl) (fun X => Sp.Runs.move rfl) ?_
                        refine Sp.T.call (by kernel_rfl) (M2) rfl rfl (by kernel_rfl) ?_
                        refine Sp.T.pure (by kernel_rfl) (fun X => Sp.Runs.move rfl) ?_
                        refine Sp.T.pure (by kernel_rfl) (fun X => Sp.Runs.move rfl) ?_
                        refine Sp.T.pure (by kernel_rfl) (fun X => Sp.Runs.move rfl) ?_
                        refine Sp.T.pure (by kernel_rfl) (fun X => Sp.Runs.subI rfl rfl (Sp.wrapI (by omega) (by omega))) ?_
                        refine Sp.T.call (by kernel_rfl) (M3) rfl rfl (by kernel_rfl) ?_
                        refine Sp.T.pure (by kernel_rfl) (fun X => Sp.Runs.pickF rfl rfl) ?_
                        refine Sp.T.pure (by kernel_rfl) (fun X => Sp.Runs.neBF Try.underlying4 rfl rfl (by decide)) ?_
                        refine Sp.T.pure (by kernel_rfl) (fun X => Sp.Runs.move rfl) ?_
                        refine Sp.T.pure (by kernel_rfl) (fun X => Sp.Runs.move rfl) ?_
                        refine Sp.T.pure (by kernel_rfl) (fun X => Sp.Runs.move rfl) ?_
                        refine Sp.T.pure (by kernel_rfl) (fun X => Sp.Runs.indexS Try.underlying9 rfl rfl i4 rfl q2 f3) ?_
                        refine Sp.T.pure (by kernel_rfl) (fun X => Sp.Runs.move rfl) ?_
                        refine Sp.T.pure (by kernel_rfl) (fun X => Sp.Runs.move rfl) ?_
                        refine Sp.T.pure (by kernel_rfl) (fun X => Sp.Runs.indexS Try.underlying9 rfl rfl i4 rfl hlt4 f1) ?_
                        refine Sp.T.pure (by kernel_rfl) (fun X => Sp.Runs.eqIF rfl rfl t1) ?_
                        refine Sp.T.pure (by kernel_rfl) (fun X => Sp.Runs.pickF rfl rfl) ?_
                        refine Sp.T.pure (by kernel_rfl) (fun X => Sp.Runs.move rfl) ?_
                        refine Sp.T.pure (by kernel_rfl) (fun X => Sp.Runs.move rfl) ?_
                        refine Sp.T.pure (by kernel_rfl) (fun X => Sp.Runs.move rfl) ?_
                        refine Sp.T.pure (by kernel_rfl) (fun X => Sp.Runs.indexS Try.underlying9 rfl rfl i4 rfl q3 f4) ?_
                        refine Sp.T.pure (by kernel_rfl) (fun X => Sp.Runs.move rfl) ?_
                        refine Sp.T.pure (by kernel_rfl) (fun X => Sp.Runs.move rfl) ?_
                        refine Sp.T.pure (by kernel_rfl) (fun X => Sp.Runs.lenS Try.underlying9 rfl) ?_
                        refine Sp.T.pure (by kernel_rfl) (fun X => Sp.Runs.subI rfl rfl (Sp.wrapI (by omega) (by omega))) ?_
                        refine Sp.T.pure (by kernel_rfl) (fun X => Sp.Runs.move rfl) ?_
                        refine Sp.T.pure (by kernel_rfl) (fun X => Sp.Runs.subI rfl rfl (Sp.wrapI (by omega) (by omega))) ?_
                        refine Sp.T.pure (by kernel_rfl) (fun X => Sp.Runs.indexS Try.underlying9 rfl rfl j r0 q4 f5) ?_
                        refine Sp.T.pure (by kernel_rfl) (fun X => Sp.Runs.neIF rfl rfl rfl) ?_
                        refine Sp.T.pure (by kernel_rfl) (fun X => Sp.Runs.pickF rfl rfl) ?_
                        refine Sp.T.nil fun w34 b => ?_
                        replace B2 := Lib.hid (B2.out.trans (b.mono B2.out.size))
                        replace B3 := Lib.hid (B3.out.trans (b.mono B3.out.size))
                        replace HI := Lib.hid ((b.block _ (lt_of_block HI.out)).trans HI.out)
                        clear b
                        refine hK69 _ _ (Sp.Cd.sub (S' := [(1, _), (5, _), (6, _), (22, _), (26, _), (34, _), (38, _), (440, _), (482, _)]) ⟨rfl, rfl, rfl, rfl, rfl, rfl, rfl, rfl, rfl, trivial⟩ ?_)
                        clear hK69 K69
                        refine Sp.Cd.condF rfl ?_
                        refine Sp.Cd.skip ?_
                        refine Sp.Nx.post () ⟨rfl, rfl, rfl, rfl, rfl, rfl, rfl, rfl, trivial⟩ (B3.out)
                      · have t2 : ¬ Z = Y := hns rfl
                        refine Sp.Cd.seq fun K70 hK70 => ?_
                        refine Sp.Cd.regionT (by kernel_rfl) (by kernel_rfl) ?_
                        refine Sp.T.pure (by kernel_rfl) (fun X => Sp.Runs.move rfl) ?_
                        refine Sp.T.pure (by kernel_rfl) (fun X => Sp.Runs.move rfl) ?_
                        refine Sp.T.pure (by kernel_rfl) (fun X => Sp.Runs.indexS Try.underlying9 rfl rfl i4 rfl q1 f2) ?_
                        refine Sp.T.pure (by kernel_rfl) (fun X => Sp.Runs.move rfl) ?_
                        refine Sp.T.pure (by kernel_rfl) (fun X => Sp.Runs.move rfl) ?_
                        refine Sp.T.pure (by kernel_rfl) (fun X => Sp.Runs.indexS Try.underlying9 rfl rfl i4 rfl hlt4 f1) ?_
                        refine Sp.T.pure (by kernel_rfl) (fun X => Sp.Runs.neIT rfl rfl t2) ?_
                        refine Sp.T.pure (by kernel_rfl) (fun X => Sp.Runs.move rfl) ?_
                        refine Sp.T.pure (by kernel_rfl) (fun X => Sp.Runs.move rfl) ?_
                        refine Sp.T.call (by kernel_rfl) (M2) rfl rfl (by kernel_rfl) ?_
                        refine Sp.T.pure (by kernel_rfl) (fun X => Sp.Runs.move rfl) ?_
                        refine Sp.T.pure (by kernel_rfl) (fun X => Sp.Runs.move rfl) ?_
                        refine Sp.T.pure (by kernel_rfl) (fun X => Sp.Runs.move rfl) ?_
                        refine Sp.T.pure (by kernel_rfl) (fun X => Sp.Runs.subI rfl rfl (Sp.wrapI (by omega) (by omega))) ?_
                        refine Sp.T.call (by kernel_rfl) (M3) rfl rfl (by kernel_rfl) ?_
                        refine Sp.T.pure (by kernel_rfl) (fun X => Sp.Runs.pickF rfl rfl) ?_
                        refine Sp.T.pure (by kernel_rfl) (fun X => Sp.Runs.neBF Try.underlying4 rfl rfl (by decide)) ?_
                        refine Sp.T.pure (by kernel_rfl) (fun X => Sp.Runs.move rfl) ?_
                        refine Sp.T.pure (by kernel_rfl) (fun X => Sp.Runs.move rfl) ?_
                        refine Sp.T.pure (by kernel_rfl) (fun X => Sp.Runs.move rfl) ?_
                        refine Sp.T.pure (by kernel_rfl) (fun X => Sp.Runs.indexS Try.underlying9 rfl rfl i4 rfl q2 f3) ?_
                        refine Sp.T.pure (by kernel_rfl) (fun X => Sp.Runs.move rfl) ?_
                        refine Sp.T.pure (by kernel_rfl) (fun X => Sp.Runs.move rfl) ?_
                        refine Sp.T.pure (by kernel_rfl) (fun X => Sp.Runs.indexS Try.underlying9 rfl rfl i4 rfl hlt4 f1) ?_
                        refine Sp.T.pure (by kernel_rfl) (fun X => Sp.Runs.eqIF rfl rfl t1) ?_
                        refine Sp.T.pure (by kernel_rfl) (fun X => Sp.Runs.pickF rfl rfl) ?_
                        refine Sp.T.pure (by kernel_rfl) (fun X => Sp.Runs.move rfl) ?_
                        refine Sp.T.pure (by kernel_rfl) (fun X => Sp.Runs.move rfl) ?_
                        refine Sp.T.pure (by kernel_rfl) (fun X => Sp.Runs.move rfl) ?_
                        refine Sp.T.pure (by kernel_rfl) (fun X => Sp.Runs.indexS Try.underlying9 rfl rfl i4 rfl q3 f4) ?_
                        refine Sp.T.pure (by kernel_rfl) (fun X => Sp.Runs.move rfl) ?_
                        refine Sp.T.pure (by kernel_rfl) (fun X => Sp.Runs.move rfl) ?_
                        refine Sp.T.pure (by kernel_rfl) (fun X => Sp.Runs.lenS Try.underlying9 rfl) ?_
                        refine Sp.T.pure (by kernel_rfl) (fun X => Sp.Runs.subI rfl rfl (Sp.wrapI (by omega) (by omega))) ?_
                        refine Sp.T.pure (by kernel_rfl) (fun X => Sp.Runs.move rfl) ?_
                        refine Sp.T.pure (by kernel_rfl) (fun X => Sp.Runs.subI rfl rfl (Sp.wrapI (by omega) (by omega))) ?_
                        refine Sp.T.pure (by kernel_rfl) (fun X => Sp.Runs.indexS Try.underlying9 rfl rfl j r0 q4 f5) ?_
                        refine Sp.T.pure (by kernel_rfl) (fun X => Sp.Runs.neIF rfl rfl rfl) ?_
                        refine Sp.T.pure (by kernel_rfl) (fun X => Sp.Runs.pickF rfl rfl) ?_
                        refine Sp.T.nil fun w34 b => ?_
                        replace B2 := Lib.hid (B2.out.trans (b.mono B2.out.size))
                        replace B3 := Lib.hid (B3.out.trans (b.mono B3.out.size))
                        replace HI := Lib.hid ((b.block _ (lt_of_block HI.out)).trans HI.out)
                        clear b
                        refine hK70 _ _ (Sp.Cd.sub (S' := [(1, _), (5, _), (6, _), (22, _), (26, _), (34, _), (38, _), (440, _), (482, _)]) ⟨rfl, rfl, rfl, rfl, rfl, rfl, rfl, rfl, rfl, trivial⟩ ?_)
                        clear hK70 K70
                        refine Sp.Cd.condF rfl ?_
                        refine Sp.Cd.skip ?_
                        refine Sp.Nx.post () ⟨rfl, rfl, rfl, rfl, rfl, rfl, rfl, rfl, trivial⟩ (B3.out)
                    · have t2 : ¬ Z = Y := hns (by rw [Bool.true_or])
                      refine Sp.Cd.seq fun K71 hK71 => ?_
                      refine Sp.Cd.regionT (by kernel_rfl) (by kernel_rfl) ?_
                      refine Sp.T.pure (by kernel_rfl) (fun X => Sp.Runs.move rfl) ?_
                      refine Sp.T.pure (by kernel_rfl) (fun X => Sp.Runs.move rfl) ?_
                      refine Sp.T.pure (by kernel_rfl) (fun X => Sp.Runs.indexS Try.underlying9 rfl rfl i4 rfl q1 f2) ?_
                      refine Sp.T.pure (by kernel_rfl) (fun X => Sp.Runs.move rfl) ?_
                      refine Sp.T.pure (by kernel_rfl) (fun X => Sp.Runs.move rfl) ?_
                      refine Sp.T.pure (by kernel_rfl) (fun X => Sp.Runs.indexS Try.underlying9 rfl rfl i4 rfl hlt4 f1) ?_
                      refine Sp.T.pure (by kernel_rfl) (fun X => Sp.Runs.neIT rfl rfl t2) ?_
                      refine Sp.T.pure (by kernel_rfl) (fun X => Sp.Runs.move rfl) ?_
                      refine Sp.T.pure (by kernel_rfl) (fun X => Sp.Runs.move rfl) ?_
                      refine Sp.T.call (by kernel_rfl) (M2) rfl rfl (by kernel_rfl) ?_
                      refine Sp.T.pure (by kernel_rfl) (fun X => Sp.Runs.move rfl) ?_
                      refine Sp.T.skip (by kernel_rfl) ?_
                      refine Sp.T.skip (by kernel_rfl) ?_
                      refine Sp.T.skip (by kernel_rfl) ?_
                      refine Sp.T.skip (by kernel_rfl) ?_
                      refine Sp.T.pure (by kernel_rfl) (fun X => Sp.Runs.pickT rfl rfl) ?_
                      refine Sp.T.pure (by kernel_rfl) (fun X => Sp.Runs.neBF Try.underlying4 rfl rfl (by decide)) ?_
                      refine Sp.T.pure (by kernel_rfl) (fun X => Sp.Runs.move rfl) ?_
                      refine Sp.T.pure (by kernel_rfl) (fun X => Sp.Runs.move rfl) ?_
                      refine Sp.T.pure (by kernel_rfl) (fun X => Sp.Runs.move rfl) ?_
                      refine Sp.T.pure (by kernel_rfl) (fun X => Sp.Runs.indexS Try.underlying9 rfl rfl i4 rfl q2 f3) ?_
                      refine Sp.T.pure (by kernel_rfl) (fun X => Sp.Runs.move rfl) ?_
                      refine Sp.T.pure (by kernel_rfl) (fun X => Sp.Runs.move rfl) ?_
                      refine Sp.T.pure (by kernel_rfl) (fun X => Sp.Runs.indexS Try.underlying9 rfl rfl i4 rfl hlt4 f1) ?_
                      refine Sp.T.pure (by kernel_rfl) (fun X => Sp.Runs.eqIF rfl rfl t1) ?_
                      refine Sp.T.pure (by kernel_rfl) (fun X => Sp.Runs.pickF rfl rfl) ?_
                      refine Sp.T.pure (by kernel_rfl) (fun X => Sp.Runs.move rfl) ?_
                      refine Sp.T.pure (by kernel_rfl) (fun X => Sp.Runs.move rfl) ?_
                      refine Sp.T.pure (by kernel_rfl) (fun X => Sp.Runs.move rfl) ?_
                      refine Sp.T.pure (by kernel_rfl) (fun X => Sp.Runs.indexS Try.underlying9 rfl rfl i4 rfl q3 f4) ?_
                      refine Sp.T.pure (by kernel_rfl) (fun X => Sp.Runs.move rfl) ?_
                      refine Sp.T.pure (by kernel_rfl) (fun X => Sp.Runs.move rfl) ?_
                      refine Sp.T.pure (by kernel_rfl) (fun X => Sp.Runs.lenS Try.underlying9 rfl) ?_
                      refine Sp.T.pure (by kernel_rfl) (fun X => Sp.Runs.subI rfl rfl (Sp.wrapI (by omega) (by omega))) ?_
                      refine Sp.T.pure (by kernel_rfl) (fun X => Sp.Runs.move rfl) ?_
                      refine Sp.T.pure (by kernel_rfl) (fun X => Sp.Runs.subI rfl rfl (Sp.wrapI (by omega) (by omega))) ?_
                      refine Sp.T.pure (by kernel_rfl) (fun X => Sp.Runs.indexS Try.underlying9 rfl rfl j r0 q4 f5) ?_
                      refine Sp.T.pure (by kernel_rfl) (fun X => Sp.Runs.neIF rfl rfl rfl) ?_
                      refine Sp.T.pure (by kernel_rfl) (fun X => Sp.Runs.pickF rfl rfl) ?_
                      refine Sp.T.nil fun w34 b => ?_
                      replace B2 := Lib.hid (B2.out.trans (b.mono B2.out.size))
                      replace B3 := Lib.hid (B3.out.trans (b.mono B3.out.size))
                      replace HI := Lib.hid ((b.block _ (lt_of_block HI.out)).trans HI.out)
                      clear b
                      refine hK71 _ _ (Sp.Cd.sub (S' := [(1, _), (5, _), (6, _), (22, _), (26, _), (34, _), (38, _), (440, _), (482, _)]) ⟨rfl, rfl, rfl, rfl, rfl, rfl, rfl, rfl, rfl, trivial⟩ ?_)
                      clear hK71 K71
                      refine Sp.Cd.condF rfl ?_
                      refine Sp.Cd.skip ?_
                      refine Sp.Nx.post () ⟨rfl, rfl, rfl, rfl, rfl, rfl, rfl, rfl, trivial⟩ (B3.out)
                  · intro w34 b
                    replace B2 := Lib.hid (B2.out.trans (b.mono B2.out.size))
                    replace HI := Lib.hid ((b.block _ (lt_of_block HI.out)).trans HI.out)
                    clear b
                    refine Sp.Nx.block ?_
                    refine Sp.Nx.again (i4 + 1) ⟨rfl, rfl, rfl, rfl, rfl, rfl, rfl, rfl, trivial⟩ ⟨B2, HI, hlt4⟩ (by omega)
                · refine Sp.Cd.seq fun K72 hK72 => ?_
                  refine Sp.Cd.region ?_
                  refine Sp.L.next rfl (Lib.run_next_end_at w32 w30.heap.size row i4 _ HI.out hlt4) (by kernel_rfl) ?_
                  refine Sp.L.pure (by kernel_rfl) (Sp.Runs.extract rfl rfl) ?_
                  refine Sp.L.nil ?_
                  refine hK72 _ _ (Sp.Cd.sub (S' := [(1, _), (5, _), (6, _), (22, _), (26, _), (34, _), (38, _), (440, _), (441, _), (442, _)]) ⟨rfl, rfl, rfl, rfl, rfl, rfl, rfl, rfl, rfl, rfl, trivial⟩ ?_)
                  clear hK72 K72
                  refine Sp.Cd.seq fun K73 hK73 => ?_
                  refine Sp.Cd.condF rfl ?_
                  refine Sp.Cd.exit ?_
                  refine Sp.Ex.then ?_
                  clear hK73 K73
                  refine Sp.Ex.then ?_
                  have b := B2.out
                  replace B0 := Lib.hid (B0.out.trans (b.mono B0.out.size))
                  replace B1 := Lib.hid (B1.out.trans (b.mono B1.out.size))
                  replace HYa := Lib.hid (HYa.out.below b)
                  replace HYb := Lib.hid (HYb.out.below b)
                  replace Htei := Lib.hid (Htei.out.below b)
                  replace Hpri := Lib.hid (Hpri.out.below b)
                  clear b HI
                  clear B2
                  refine Sp.Ex.hit ?_
                  refine hK64 _ _ (Sp.Cd.sub (S' := [(1, _), (5, _), (6, _), (26, _), (34, _)]) ⟨rfl, rfl, rfl, rfl, rfl, trivial⟩ ?_)
                  clear hK64 K64
                  refine Sp.Cd.seq fun K74 hK74 => ?_
                  have C1a := fun w => C1.implTicks_yes (Rw.mir l) (by rw [Rw.length_mir]; exact HX.out.n1) (by rw [Rw.length_mir]; exact HX.out.n2) w
                  rw [← HX.out.mr, Rw.ticks_mir, ← HX.out.tk] at C1a
                  have C1b := fun w => C1.implMirrorRow_yes (Rw.mir l) (by rw [Rw.length_mir]; exact HX.out.n1) (by rw [Rw.length_mir]; exact HX.out.n2) w
                  rw [mir_to, Rw.mir_mir, ← HX.out.mr, ← HX.out.row] at C1b
                  obtain ⟨lt, hlt'⟩ : ∃ x : Int, x = (Rw.ticksOf (Rw.tick l) : Nat) := ⟨_, rfl⟩
                  have C1c := fun w => C1.implTicks_yes (Rw.tick l) (by rw [Rw.length_tick]; exact HX.out.n1) (by rw [Rw.length_tick]; exact HX.out.n2) w
                  rw [← HX.out.nx, ← hlt'] at C1c
                  have LT : lt = if tk = 0 then 0 else tk - 1 := hlt'.trans HX.out.next
                  clear hlt'
                  refine Sp.Cd.region ?_
                  refine Sp.L.pure (by kernel_rfl) (Sp.Runs.move rfl) ?_
                  refine Sp.L.call (by kernel_rfl) (C1a w32) rfl rfl (by kernel_rfl) ?_
                  rintro e w33 ⟨rfl, b⟩
                  replace B0 := Lib.hid (B0.out.trans (b.mono B0.out.size))
                  replace B1 := Lib.hid (B1.out.trans (b.mono B1.out.size))
                  replace HYa := Lib.hid (HYa.out.below b)
                  replace HYb := Lib.hid (HYb.out.below b)
                  replace Htei := Lib.hid (Htei.out.below b)
                  replace Hpri := Lib.hid (Hpri.out.below b)
                  clear b
                  refine ⟨_, rfl, ?_⟩
                  refine Sp.L.pure (by kernel_rfl) (Sp.Runs.move rfl) ?_
                  refine Sp.L.pure (by kernel_rfl) (Sp.Runs.extract rfl rfl) ?_
                  refine Sp.L.pure (by kernel_rfl) (Sp.Runs.extract rfl rfl) ?_
                  refine Sp.L.pure (by kernel_rfl) (Sp.Runs.assign rfl) ?_
                  refine Sp.L.pure (by kernel_rfl) (Sp.Runs.assign rfl) ?_
                  refine Sp.L.nil ?_
                  refine hK74 _ _ (Sp.Cd.sub (S' := [(1, _), (5, _), (6, _), (26, _), (34, _), (50, _), (51, _)]) ⟨rfl, rfl, rfl, rfl, rfl, rfl, rfl, trivial⟩ ?_)
                  clear hK74 K74
                  refine Sp.Cd.seq fun K75 hK75 => ?_
                  refine Sp.Cd.region ?_
                  refine Sp.L.pure (by kernel_rfl) (Sp.Runs.move rfl) ?_
                  refine Sp.L.call (by kernel_rfl) (C1b w33) rfl rfl (by kernel_rfl) ?_
                  rintro e w34 ⟨rfl, b⟩
                  replace B0 := Lib.hid (B0.out.trans (b.mono B0.out.size))
                  replace B1 := Lib.hid (B1.out.trans (b.mono B1.out.size))
                  replace HYa := Lib.hid (HYa.out.below b)
                  replace HYb := Lib.hid (HYb.out.below b)
                  replace Htei := Lib.hid (Htei.out.below b)
                  replace Hpri := Lib.hid (Hpri.out.below b)
                  clear b
                  refine ⟨_, rfl, ?_⟩
                  refine Sp.L.pure (by kernel_rfl) (Sp.Runs.move rfl) ?_
                  refine Sp.L.pure (by kernel_rfl) (Sp.Runs.extract rfl rfl) ?_
                  refine Sp.L.pure (by kernel_rfl) (Sp.Runs.extract rfl rfl) ?_
                  refine Sp.L.pure (by kernel_rfl) (Sp.Runs.assign rfl) ?_
                  refine Sp.L.pure (by kernel_rfl) (Sp.Runs.assign rfl) ?_
                  refine Sp.L.nil ?_
                  refine hK75 _ _ (Sp.Cd.sub (S' := [(1, _), (5, _), (6, _), (26, _), (50, _), (51, _), (52, _), (53, _)]) ⟨rfl, rfl, rfl, rfl, rfl, rfl, rfl, rfl, trivial⟩ ?_)
                  clear hK75 K75
                  refine Sp.Cd.seq fun K76 hK76 => ?_
                  refine Sp.Cd.region ?_
                  refine Sp.L.pure (by kernel_rfl) (Sp.Runs.move rfl) ?_
                  refine Sp.L.call (by kernel_rfl) (C1c w34) rfl rfl (by kernel_rfl) ?_
                  rintro e w35 ⟨rfl, b⟩
                  replace B0 := Lib.hid (B0.out.trans (b.mono B0.out.size))
                  replace B1 := Lib.hid (B1.out.trans (b.mono B1.out.size))
                  replace HYa := Lib.hid (HYa.out.below b)
                  replace HYb := Lib.hid (HYb.out.below b)
                  replace Htei := Lib.hid (Htei.out.below b)
                  replace Hpri := Lib.hid (Hpri.out.below b)
                  clear b
                  refine ⟨_, rfl, ?_⟩
                  refine Sp.L.pure (by kernel_rfl) (Sp.Runs.move rfl) ?_
                  refine Sp.L.pure (by kernel_rfl) (Sp.Runs.extract rfl rfl) ?_
                  refine Sp.L.pure (by kernel_rfl) (Sp.Runs.extract rfl rfl) ?_
                  refine Sp.L.pure (by kernel_rfl) (Sp.Runs.assign rfl) ?_
                  refine Sp.L.pure (by kernel_rfl) (Sp.Runs.assign rfl) ?_
                  refine Sp.L.nil ?_
                  refine hK76 _ _ (Sp.Cd.sub (S' := [(1, _), (5, _), (6, _), (26, _), (50, _), (51, _), (52, _), (53, _), (54, _), (55, _)]) ⟨rfl, rfl, rfl, rfl, rfl, rfl, rfl, rfl, rfl, rfl, trivial⟩ ?_)
                  clear hK76 K76
                  refine Sp.Cd.cutK [(1, _), (5, _)] ⟨rfl, rfl, trivial⟩ ?_ ?_
                  · have B2 : Hid (Below w35.heap.size w35 w35) := Lib.hid (Below.refl _ _)
                    obtain ⟨m1, m2, m3, m4, m5, m6⟩ := HX.out.small
                    by_cases h0 : tk = 0
                    · obtain ⟨y1, y2, y3, y4⟩ := HX.out.yes h0
                      refine Sp.Cd.seq fun K77 hK77 => ?_
                      refine Sp.Cd.region ?_
                      refine Sp.L.pure (by kernel_rfl) (Sp.Runs.move rfl) ?_
                      refine Sp.L.pure (by kernel_rfl) (Sp.Runs.notF rfl) ?_
                      refine Sp.L.pure (by kernel_rfl) (Sp.Runs.move rfl) ?_
                      refine Sp.L.pure (by kernel_rfl) (Sp.Runs.move rfl) ?_
                      refine Sp.L.pure (by kernel_rfl) (Sp.Runs.move rfl) ?_
                      refine Sp.L.pure (by kernel_rfl) (Sp.Runs.neIF rfl rfl rfl) ?_
                      refine Sp.L.pure (by kernel_rfl) (Sp.Runs.pickF rfl rfl) ?_
                      refine Sp.L.pure (by kernel_rfl) (Sp.Runs.move rfl) ?_
                      refine Sp.L.pure (by kernel_rfl) (Sp.Runs.move rfl) ?_
                      refine Sp.L.pure (by kernel_rfl) (Sp.Runs.notF rfl) ?_
                      refine Sp.L.pure (by kernel_rfl) (Sp.Runs.pickF rfl rfl) ?_
                      refine Sp.L.pure (by kernel_rfl) (Sp.Runs.move rfl) ?_
                      refine Sp.L.pure (by kernel_rfl) (Sp.Runs.move rfl) ?_
                      refine Sp.L.pure (by kernel_rfl) (Sp.Runs.move rfl) ?_
                      refine Sp.L.pure (by kernel_rfl) (Sp.Runs.neSF rfl rfl rfl) ?_
                      refine Sp.L.pure (by kernel_rfl) (Sp.Runs.pickF rfl rfl) ?_
                      refine Sp.L.pure (by kernel_rfl) (Sp.Runs.move rfl) ?_
                      refine Sp.L.pure (by kernel_rfl) (Sp.Runs.move rfl) ?_
                      refine Sp.L.pure (by kernel_rfl) (Sp.Runs.notF rfl) ?_
                      refine Sp.L.pure (by kernel_rfl) (Sp.Runs.pickF rfl rfl) ?_
                      refine Sp.L.pure (by kernel_rfl) (Sp.Runs.move rfl) ?_
                      refine Sp.L.pure (by kernel_rfl) (Sp.Runs.move rfl) ?_
                      refine Sp.L.pure (by kernel_rfl) (Sp.Runs.gtIF rfl rfl (by omega)) ?_
                      refine Sp.L.pure (by kernel_rfl) (Sp.Runs.move rfl) ?_
                      refine Sp.L.skip (by kernel_rfl) ?_
                      refine Sp.L.skip (by kernel_rfl) ?_
                      refine Sp.L.skip (by kernel_rfl) ?_
                      refine Sp.L.skip (by kernel_rfl) ?_
                      refine Sp.L.pure (by kernel_rfl) (Sp.Runs.pickF rfl rfl) ?_
                      refine Sp.L.pure (by kernel_rfl) (Sp.Runs.pickF rfl rfl) ?_
                      refine Sp.L.pure (by kernel_rfl) (Sp.Runs.move rfl) ?_
                      refine Sp.L.pure (by kernel_rfl) (Sp.Runs.move rfl) ?_
                      refine Sp.L.pure (by kernel_rfl) (Sp.Runs.eqIT rfl rfl h0) ?_
                      refine Sp.L.pure (by kernel_rfl) (Sp.Runs.move rfl) ?_
                      refine Sp.L.pure (by kernel_rfl) (Sp.Runs.move rfl) ?_
                      refine Sp.L.pure (by kernel_rfl) (Sp.Runs.move rfl) ?_
                      refine Sp.L.pure (by kernel_rfl) (Sp.Runs.neSF rfl rfl y4) ?_
                      refine Sp.L.pure (by kernel_rfl) (Sp.Runs.pickT rfl rfl) ?_
                      refine Sp.L.pure (by kernel_rfl) (Sp.Runs.pickF rfl rfl) ?_
                      refine Sp.L.nil ?_
                      refine hK77 _ _ (Sp.Cd.sub (S' := [(1, _), (5, _), (536, _)]) ⟨rfl, rfl, rfl, trivial⟩ ?_)
                      clear hK77 K77
                      refine Sp.Cd.condF rfl ?_
                      refine Sp.Cd.skip ?_
                      refine Sp.Nx.post () ⟨rfl, rfl, trivial⟩ (B2.out)
                    · rw [if_neg h0] at LT
                      refine Sp.Cd.seq fun K78 hK78 => ?_
                      refine Sp.Cd.region ?_
                      refine Sp.L.pure (by kernel_rfl) (Sp.Runs.move rfl) ?_
                      refine Sp.L.pure (by kernel_rfl) (Sp.Runs.notF rfl) ?_
                      refine Sp.L.pure (by kernel_rfl) (Sp.Runs.move rfl) ?_
                      refine Sp.L.pure (by kernel_rfl) (Sp.Runs.move rfl) ?_
                      refine Sp.L.pure (by kernel_rfl) (Sp.Runs.move rfl) ?_
                      refine Sp.L.pure (by kernel_rfl) (Sp.Runs.neIF rfl rfl rfl) ?_
                      refine Sp.L.pure (by kernel_rfl) (Sp.Runs.pickF rfl rfl) ?_
                      refine Sp.L.pure (by kernel_rfl) (Sp.Runs.move rfl) ?_
                      refine Sp.L.pure (by kernel_rfl) (Sp.Runs.move rfl) ?_
                      refine Sp.L.pure (by kernel_rfl) (Sp.Runs.notF rfl) ?_
                      refine Sp.L.pure (by kernel_rfl) (Sp.Runs.pickF rfl rfl) ?_
                      refine Sp.L.pure (by kernel_rfl) (Sp.Runs.move rfl) ?_
                      refine Sp.L.pure (by kernel_rfl) (Sp.Runs.move rfl) ?_
                      refine Sp.L.pure (by kernel_rfl) (Sp.Runs.move rfl) ?_
                      refine Sp.L.pure (by kernel_rfl) (Sp.Runs.neSF rfl rfl rfl) ?_
                      refine Sp.L.pure (by kernel_rfl) (Sp.Runs.pickF rfl rfl) ?_
                      refine Sp.L.pure (by kernel_rfl) (Sp.Runs.move rfl) ?_
                      refine Sp.L.pure (by kernel_rfl) (Sp.Runs.move rfl) ?_
                      refine Sp.L.pure (by kernel_rfl) (Sp.Runs.notF rfl) ?_
                      refine Sp.L.pure (by kernel_rfl) (Sp.Runs.pickF rfl rfl) ?_
                      refine Sp.L.pure (by kernel_rfl) (Sp.Runs.move rfl) ?_
                      refine Sp.L.pure (by kernel_rfl) (Sp.Runs.move rfl) ?_
                      refine Sp.L.pure (by kernel_rfl) (Sp.Runs.gtIT rfl rfl (by omega)) ?_
                      refine Sp.L.pure (by kernel_rfl) (Sp.Runs.move rfl) ?_
                      refine Sp.L.pure (by kernel_rfl) (Sp.Runs.move rfl) ?_
                      refine Sp.L.pure (by kernel_rfl) (Sp.Runs.move rfl) ?_
                      refine Sp.L.pure (by kernel_rfl) (Sp.Runs.subI rfl rfl (Sp.wrapI (by omega) (by omega))) ?_
                      refine Sp.L.pure (by kernel_rfl) (Sp.Runs.neIF rfl rfl (by omega)) ?_
                      refine Sp.L.pure (by kernel_rfl) (Sp.Runs.pickT rfl rfl) ?_
                      refine Sp.L.pure (by kernel_rfl) (Sp.Runs.pickF rfl rfl) ?_
                      refine Sp.L.pure (by kernel_rfl) (Sp.Runs.move rfl) ?_
                      refine Sp.L.pure (by kernel_rfl) (Sp.Runs.move rfl) ?_
                      refine Sp.L.pure (by kernel_rfl) (Sp.Runs.eqIF rfl rfl h0) ?_
                      refine Sp.L.pure (by kernel_rfl) (Sp.Runs.move rfl) ?_
                      refine Sp.L.skip (by kernel_rfl) ?_
                      refine Sp.L.skip (by kernel_rfl) ?_
                      refine Sp.L.skip (by kernel_rfl) ?_
                      refine Sp.L.pure (by kernel_rfl) (Sp.Runs.pickF rfl rfl) ?_
                      refine Sp.L.pure (by kernel_rfl) (Sp.Runs.pickF rfl rfl) ?_
                      refine Sp.L.nil ?_
                      refine hK78 _ _ (Sp.Cd.sub (S' := [(1, _), (5, _), (536, _)]) ⟨rfl, rfl, rfl, trivial⟩ ?_)
                      clear hK78 K78
                      refine Sp.Cd.condF rfl ?_
                      refine Sp.Cd.skip ?_
                      refine Sp.Nx.post () ⟨rfl, rfl, trivial⟩ (B2.out)
                  · intro w36 b
                    replace B0 := Lib.hid (B0.out.trans (b.mono B0.out.size))
                    replace B1 := Lib.hid (B1.out.trans (b.mono B1.out.size))
                    replace HYa := Lib.hid (HYa.out.below b)
                    replace HYb := Lib.hid (HYb.out.below b)
                    replace Htei := Lib.hid (Htei.out.below b)
                    replace Hpri := Lib.hid (Hpri.out.below b)
                    clear b
                    refine Sp.Cd.seq fun K79 hK79 => ?_
                    have N1 := fun w => C1.implNumberOfRow_yes l HX.out.n1 HX.out.n2 w
                    rw [← HX.out.row] at N1
                    have N2 := fun w => C1.implRowOfNumber_yes l.length (Rw.numberOf l) HX.out.n1 HX.out.n2 (Rw.numberOf_lt l) w
                    rw [Rw.make_numberOf _ l rfl, ← HX.out.row, ← HZ.out] at N2
                    obtain ⟨nb, hnb⟩ : ∃ x : Int, x = (Rw.numberOf l : Nat) := ⟨_, rfl⟩
                    rw [← hnb] at N1 N2
                    clear hnb
                    refine Sp.Cd.region ?_
                    refine Sp.L.pure (by kernel_rfl) (Sp.Runs.move rfl) ?_
                    refine Sp.L.call (by kernel_rfl) (N1 w36) rfl rfl (by kernel_rfl) ?_
                    rintro e w37 ⟨rfl, b⟩
                    replace B0 := Lib.hid (B0.out.trans (b.mono B0.out.size))
                    replace B1 := Lib.hid (B1.out.trans (b.mono B1.out.size))
                    replace HYa := Lib.hid (HYa.out.below b)
                    replace HYb := Lib.hid (HYb.out.below b)
                    replace Htei := Lib.hid (Htei.out.below b)
                    replace Hpri := Lib.hid (Hpri.out.below b)
                    clear b
                    refine ⟨_, rfl, ?_⟩
                    refine Sp.L.pure (by kernel_rfl) (Sp.Runs.move rfl) ?_
                    refine Sp.L.pure (by kernel_rfl) (Sp.Runs.extract rfl rfl) ?_
                    refine Sp.L.pure (by kernel_rfl) (Sp.Runs.extract rfl rfl) ?_
                    refine Sp.L.pure (by kernel_rfl) (Sp.Runs.assign rfl) ?_
                    refine Sp.L.pure (by kernel_rfl) (Sp.Runs.assign rfl) ?_
                    refine Sp.L.nil ?_
                    refine hK79 _ _ (Sp.Cd.sub (S' := [(1, _), (5, _), (56, _), (57, _)]) ⟨rfl, rfl, rfl, rfl, trivial⟩ ?_)
                    clear hK79 K79
                    refine Sp.Cd.seq fun K80 hK80 => ?_
                    refine Sp.Cd.region ?_
                    refine Sp.L.pure (by kernel_rfl) (Sp.Runs.move rfl) ?_
                    refine Sp.L.pure (by kernel_rfl) (Sp.Runs.lenS Try.underlying9 rfl) ?_
                    refine Sp.L.pure (by kernel_rfl) (Sp.Runs.move rfl) ?_
                    refine Sp.L.call (by kernel_rfl) (N2 w37) rfl rfl (by kernel_rfl) ?_
                    rintro e w38 ⟨rfl, b⟩
                    replace B0 := Lib.hid (B0.out.trans (b.mono B0.out.size))
                    replace B1 := Lib.hid (B1.out.trans (b.mono B1.out.size))
                    replace HYa := Lib.hid (HYa.out.below b)
                    replace HYb := Lib.hid (HYb.out.below b)
                    replace Htei := Lib.hid (Htei.out.below b)
                    replace Hpri := Lib.hid (Hpri.out.below b)
                    clear b
                    refine ⟨_, rfl, ?_⟩
                    refine Sp.L.pure (by kernel_rfl) (Sp.Runs.move rfl) ?_
                    refine Sp.L.pure (by kernel_rfl) (Sp.Runs.extract rfl rfl) ?_
                    refine Sp.L.pure (by kernel_rfl) (Sp.Runs.extract rfl rfl) ?_
                    refine Sp.L.pure (by kernel_rfl) (Sp.Runs.assign rfl) ?_
                    refine Sp.L.pure (by kernel_rfl) (Sp.Runs.assign rfl) ?_
                    refine Sp.L.nil ?_
                    refine hK80 _ _ (Sp.Cd.sub (S' := [(1, _), (5, _), (57, _), (58, _), (59, _)]) ⟨rfl, rfl, rfl, rfl, rfl, trivial⟩ ?_)
                    clear hK80 K80
                    refine Sp.Cd.seq fun K81 hK81 => ?_
                    refine Sp.Cd.region ?_
                    refine Sp.L.pure (by kernel_rfl) (Sp.Runs.move rfl) ?_
                    refine Sp.L.pure (by kernel_rfl) (Sp.Runs.notF rfl) ?_
                    refine Sp.L.pure (by kernel_rfl) (Sp.Runs.move rfl) ?_
                    refine Sp.L.pure (by kernel_rfl) (Sp.Runs.move rfl) ?_
                    refine Sp.L.pure (by kernel_rfl) (Sp.Runs.notF rfl) ?_
                    refine Sp.L.pure (by kernel_rfl) (Sp.Runs.pickF rfl rfl) ?_
                    refine Sp.L.pure (by kernel_rfl) (Sp.Runs.move rfl) ?_
                    refine Sp.L.pure (by kernel_rfl) (Sp.Runs.move rfl) ?_
                    refine Sp.L.pure (by kernel_rfl) (Sp.Runs.move rfl) ?_
                    refine Sp.L.pure (by kernel_rfl) (Sp.Runs.neSF rfl rfl (by first | rfl | assumption)) ?_
                    refine Sp.L.pure (by kernel_rfl) (Sp.Runs.pickF rfl rfl) ?_
                    refine Sp.L.nil ?_
                    refine hK81 _ _ (Sp.Cd.sub (S' := [(1, _), (559, _)]) ⟨rfl, rfl, trivial⟩ ?_)
                    clear hK81 K81
                    refine Sp.Cd.condF rfl ?_
                    refine Sp.Cd.skip ?_
                    refine Sp.Nx.post () ⟨rfl, trivial⟩ (B1.out)
    · intro w25 b
      replace B0 := Lib.hid (B0.out.trans (b.mono B0.out.size))
      replace HYa := Lib.hid (HYa.out.below b)
      replace HYb := Lib.hid (HYb.out.below b)
      replace Htei := Lib.hid (Htei.out.below b)
      replace Htes := Lib.hid (Htes.out.below b)
      replace Hpri := Lib.hid (Hpri.out.below b)
      replace Hprs := Lib.hid (Hprs.out.below b)
      clear b
      refine Sp.Cd.seq fun K82 hK82 => ?_
      refine Sp.Cd.region ?_
      refine Sp.L.pure (by kernel_rfl) (Sp.Runs.move rfl) ?_
      refine Sp.L.call (by kernel_rfl) (drawRowAfter_p w25 xb lb cb h2 HYb.out) rfl rfl (by kernel_rfl) ?_
      rintro e w26 ⟨a, k, ha, wk, rfl, b9⟩
      replace B0 := Lib.hid (B0.out.trans (b9.mono B0.out.size))
      replace HYa := Lib.hid (HYa.out.below b9)
      replace HYb := Lib.hid (HYb.out.below b9)
      replace Htei := Lib.hid (Htei.out.below b9)
      replace Htes := Lib.hid (Htes.out.below b9)
      replace Hpri := Lib.hid (Hpri.out.below b9)
      replace Hprs := Lib.hid (Hprs.out.below b9)
      clear b9
      refine ⟨_, rfl, ?_⟩
      have HA : Hid (a.size ≤ maxLen) := Lib.hid (by omega)
      refine Sp.L.pure (by kernel_rfl) (Sp.Runs.move rfl) ?_
      refine Sp.L.pure (by kernel_rfl) (Sp.Runs.extract rfl rfl) ?_
      refine Sp.L.pure (by kernel_rfl) (Sp.Runs.extract rfl rfl) ?_
      refine Sp.L.pure (by kernel_rfl) (Sp.Runs.assign rfl) ?_
      refine Sp.L.pure (by kernel_rfl) (Sp.Runs.assign rfl) ?_
      refine Sp.L.nil ?_
      refine hK82 _ _ (Sp.Cd.sub (S' := [(1, _), (60, _), (61, _)]) ⟨rfl, rfl, rfl, trivial⟩ ?_)
      clear hK82 K82
      refine Sp.Cd.seq fun K83 hK83 => ?_
      clear Htei
      clear Htes
      clear Hpri
      clear Hprs
      obtain ⟨al, hal⟩ : ∃ x, x = bAfter a k := ⟨_, rfl⟩
      obtain ⟨af, haf⟩ : ∃ x, x = oAfter a k := ⟨_, rfl⟩
      refine Sp.Cd.region ?_
      refine Sp.L.pure (by kernel_rfl) (Sp.Runs.move rfl) ?_
      refine Sp.L.pure (by kernel_rfl) (Sp.Runs.move rfl) ?_
      have CC := implRowAfter_any a HA.out k w26
      rw [← hal, ← haf] at CC
      refine Sp.L.call (by kernel_rfl) (CC) rfl rfl (by kernel_rfl) ?_
      clear CC
      rintro e w27 ⟨rfl, b⟩
      replace B0 := Lib.hid (B0.out.trans (b.mono B0.out.size))
      replace HYa := Lib.hid (HYa.out.below b)
      replace HYb := Lib.hid (HYb.out.below b)
      clear b
      refine ⟨_, rfl, ?_⟩
      refine Sp.L.pure (by kernel_rfl) (Sp.Runs.move rfl) ?_
      refine Sp.L.pure (by kernel_rfl) (Sp.Runs.extract rfl rfl) ?_
      refine Sp.L.pure (by kernel_rfl) (Sp.Runs.extract rfl rfl) ?_
      refine Sp.L.pure (by kernel_rfl) (Sp.Runs.assign rfl) ?_
      refine Sp.L.pure (by kernel_rfl) (Sp.Runs.assign rfl) ?_
      refine Sp.L.nil ?_
      refine hK83 _ _ (Sp.Cd.sub (S' := [(1, _), (60, _), (61, _), (62, _), (63, _)]) ⟨rfl, rfl, rfl, rfl, rfl, trivial⟩ ?_)
      clear hK83 K83
      refine Sp.Cd.seq fun K84 hK84 => ?_
      refine Sp.Cd.region ?_
      refine Sp.L.pure (by kernel_rfl) (Sp.Runs.move rfl) ?_
      refine Sp.L.pure (by kernel_rfl) (Sp.Runs.move rfl) ?_
      have CC := specRowAfter_any a HA.out k w27
      rw [← hal, ← haf] at CC
      refine Sp.L.call (by kernel_rfl) (CC) rfl rfl (by kernel_rfl) ?_
      clear CC
      rintro e w28 ⟨rfl, b⟩
      replace B0 := Lib.hid (B0.out.trans (b.mono B0.out.size))
      replace HYa := Lib.hid (HYa.out.below b)
      replace HYb := Lib.hid (HYb.out.below b)
      clear b
      refine ⟨_, rfl, ?_⟩
      refine Sp.L.pure (by kernel_rfl) (Sp.Runs.move rfl) ?_
      refine Sp.L.pure (by kernel_rfl) (Sp.Runs.extract rfl rfl) ?_
      refine Sp.L.pure (by kernel_rfl) (Sp.Runs.extract rfl rfl) ?_
      refine Sp.L.pure (by kernel_rfl) (Sp.Runs.assign rfl) ?_
      refine Sp.L.pure (by kernel_rfl) (Sp.Runs.assign rfl) ?_
      refine Sp.L.nil ?_
      refine hK84 _ _ (Sp.Cd.sub (S' := [(1, _), (60, _), (61, _), (62, _), (63, _), (64, _), (65, _)]) ⟨rfl, rfl, rfl, rfl, rfl, rfl, rfl, trivial⟩ ?_)
      clear hK84 K84
      refine Sp.Cd.seq fun K85 hK85 => ?_
      refine Sp.Cd.region ?_
      refine Sp.L.pure (by kernel_rfl) (Sp.Runs.move rfl) ?_
      refine Sp.L.call (by kernel_rfl) (drawRowOfNumber_p w28 xb lb cb h2 HYb.out) rfl rfl (by kernel_rfl) ?_
      rintro e w29 ⟨n, number, wn, wm, rfl, b9⟩
      replace B0 := Lib.hid (B0.out.trans (b9.mono B0.out.size))
      replace HYa := Lib.hid (HYa.out.below b9)
      replace HYb := Lib.hid (HYb.out.below b9)
      clear b9
      refine ⟨_, rfl, ?_⟩
      refine Sp.L.pure (by kernel_rfl) (Sp.Runs.move rfl) ?_
      refine Sp.L.pure (by kernel_rfl) (Sp.Runs.extract rfl rfl) ?_
      refine Sp.L.pure (by kernel_rfl) (Sp.Runs.extract rfl rfl) ?_
      refine Sp.L.pure (by kernel_rfl) (Sp.Runs.assign rfl) ?_
      refine Sp.L.pure (by kernel_rfl) (Sp.Runs.assign rfl) ?_
      refine Sp.L.nil ?_
      refine hK85 _ _ (Sp.Cd.sub (S' := [(1, _), (60, _), (61, _), (62, _), (63, _), (64, _), (65, _), (66, _), (67, _)]) ⟨rfl, rfl, rfl, rfl, rfl, rfl, rfl, rfl, rfl, trivial⟩ ?_)
      clear hK85 K85
      refine Sp.Cd.seq fun K86 hK86 => ?_
      obtain ⟨gd, hgd⟩ : ∃ x, x = bMake n number := ⟨_, rfl⟩
      obtain ⟨md, hmd⟩ : ∃ x, x = oMake n number := ⟨_, rfl⟩
      refine Sp.Cd.region ?_
      refine Sp.L.pure (by kernel_rfl) (Sp.Runs.move rfl) ?_
      refine Sp.L.pure (by kernel_rfl) (Sp.Runs.move rfl) ?_
      have CC := implRowOfNumber_any n number w29
      rw [← hgd, ← hmd] at CC
      refine Sp.L.call (by kernel_rfl) (CC) rfl rfl (by kernel_rfl) ?_
      clear CC
      rintro e w30 ⟨rfl, b⟩
      replace B0 := Lib.hid (B0.out.trans (b.mono B0.out.size))
      replace HYa := Lib.hid (HYa.out.below b)
      replace HYb := Lib.hid (HYb.out.below b)
      clear b
      refine ⟨_, rfl, ?_⟩
      refine Sp.L.pure (by kernel_rfl) (Sp.Runs.move rfl) ?_
      refine Sp.L.pure (by kernel_rfl) (Sp.Runs.extract rfl rfl) ?_
      refine Sp.L.pure (by kernel_rfl) (Sp.Runs.extract rfl rfl) ?_
      refine Sp.L.pure (by kernel_rfl) (Sp.Runs.assign rfl) ?_
      refine Sp.L.pure (by kernel_rfl) (Sp.Runs.assign rfl) ?_
      refine Sp.L.nil ?_
      refine hK86 _ _ (Sp.Cd.sub (S' := [(1, _), (60, _), (61, _), (62, _), (63, _), (64, _), (65, _), (66, _), (67, _), (68, _), (69, _)]) ⟨rfl, rfl, rfl, rfl, rfl, rfl, rfl, rfl, rfl, rfl, rfl, trivial⟩ ?_)
      clear hK86 K86
      refine Sp.Cd.seq fun K87 hK87 => ?_
      refine Sp.Cd.region ?_
      refine Sp.L.pure (by kernel_rfl) (Sp.Runs.move rfl) ?_
      refine Sp.L.pure (by kernel_rfl) (Sp.Runs.move rfl) ?_
      have CC := specRowOfNumber_any n number w30
      rw [← hgd, ← hmd] at CC
      refine Sp.L.call (by kernel_rfl) (CC) rfl rfl (by kernel_rfl) ?_
      clear CC
      rintro e w31 ⟨rfl, b⟩
      replace B0 := Lib.hid (B0.out.trans (b.mono B0.out.size))
      replace HYa := Lib.hid (HYa.out.below b)
      replace HYb := Lib.hid (HYb.out.below b)
      clear b
      refine ⟨_, rfl, ?_⟩
      refine Sp.L.pure (by kernel_rfl) (Sp.Runs.move rfl) ?_
      refine Sp.L.pure (by kernel_rfl) (Sp.Runs.extract rfl rfl) ?_
      refine Sp.L.pure (by kernel_rfl) (Sp.Runs.extract rfl rfl) ?_
      refine Sp.L.pure (by kernel_rfl) (Sp.Runs.assign rfl) ?_
      refine Sp.L.pure (by kernel_rfl) (Sp.Runs.assign rfl) ?_
      refine Sp.L.nil ?_
      refine hK87 _ _ (Sp.Cd.sub (S' := [(1, _), (60, _), (61, _), (62, _), (63, _), (64, _), (65, _), (66, _), (67, _), (68, _), (69, _), (70, _), (71, _)]) ⟨rfl, rfl, rfl, rfl, rfl, rfl, rfl, rfl, rfl, rfl, rfl, rfl, rfl, trivial⟩ ?_)
      clear hK87 K87
      refine Sp.Cd.seq fun K88 hK88 => ?_
      refine Sp.Cd.region ?_
      refine Sp.L.pure (by kernel_rfl) (Sp.Runs.move rfl) ?_
      refine Sp.L.call (by kernel_rfl) (drawNumberOfRow_p w31 xb lb cb h2 HYb.out) rfl rfl (by kernel_rfl) ?_
      rintro e w32 ⟨b, hb, rfl, b9⟩
      replace B0 := Lib.hid (B0.out.trans (b9.mono B0.out.size))
      replace HYa := Lib.hid (HYa.out.below b9)
      replace HYb := Lib.hid (HYb.out.below b9)
      clear b9
      refine ⟨_, rfl, ?_⟩
      have HB : Hid (b.size ≤ maxLen) := Lib.hid (by omega)
      refine Sp.L.pure (by kernel_rfl) (Sp.Runs.assign rfl) ?_
      refine Sp.L.nil ?_
      refine hK88 _ _ (Sp.Cd.sub (S' := [(60, _), (61, _), (62, _), (63, _), (64, _), (65, _), (66, _), (67, _), (68, _), (69, _), (70, _), (71, _), (72, _)]) ⟨rfl, rfl, rfl, rfl, rfl, rfl, rfl, rfl, rfl, rfl, rfl, rfl, rfl, trivial⟩ ?_)
      clear hK88 K88
      refine Sp.Cd.seq fun K89 hK89 => ?_
      obtain ⟨nk, hnk⟩ : ∃ x, x = C1.goodB b := ⟨_, rfl⟩
      obtain ⟨nv, hnv⟩ : ∃ x, x = rowI Rw.numberOf b := ⟨_, rfl⟩
      refine Sp.Cd.region ?_
      refine Sp.L.pure (by kernel_rfl) (Sp.Runs.move rfl) ?_
      have CC := implNumberOfRow_any b HB.out w32
      rw [← hnk, ← hnv] at CC
      refine Sp.L.call (by kernel_rfl) (CC) rfl rfl (by kernel_rfl) ?_
      clear CC
      rintro e w33 ⟨rfl, b⟩
      replace B0 := Lib.hid (B0.out.trans (b.mono B0.out.size))
      replace HYa := Lib.hid (HYa.out.below b)
      replace HYb := Lib.hid (HYb.out.below b)
      clear b
      refine ⟨_, rfl, ?_⟩
      refine Sp.L.pure (by kernel_rfl) (Sp.Runs.move rfl) ?_
      refine Sp.L.pure (by kernel_rfl) (Sp.Runs.extract rfl rfl) ?_
      refine Sp.L.pure (by kernel_rfl) (Sp.Runs.extract rfl rfl) ?_
      refine Sp.L.pure (by kernel_rfl) (Sp.Runs.assign rfl) ?_
      refine Sp.L.pure (by kernel_rfl) (Sp.Runs.assign rfl) ?_
      refine Sp.L.nil ?_
      refine hK89 _ _ (Sp.Cd.sub (S' := [(60, _), (61, _), (62, _), (63, _), (64, _), (65, _), (66, _), (67, _), (68, _), (69, _), (70, _), (71, _), (72, _), (73, _), (74, _)]) ⟨rfl, rfl, rfl, rfl, rfl, rfl, rfl, rfl, rfl, rfl, rfl, rfl, rfl, rfl, rfl, trivial⟩ ?_)
      clear hK89 K89
      refine Sp.Cd.seq fun K90 hK90 => ?_
      refine Sp.Cd.region ?_
      refine Sp.L.pure (by kernel_rfl) (Sp.Runs.move rfl) ?_
      have CC := specNumberOfRow_any b HB.out w33
      rw [← hnk, ← hnv] at CC
      refine Sp.L.call (by kernel_rfl) (CC) rfl rfl (by kernel_rfl) ?_
      clear CC
      rintro e w34 ⟨rfl, b⟩
      replace B0 := Lib.hid (B0.out.trans (b.mono B0.out.size))
      replace HYa := Lib.hid (HYa.out.below b)
      replace HYb := Lib.hid (HYb.out.below b)
      clear b
      refine ⟨_, rfl, ?_⟩
      refine Sp.L.pure (by kernel_rfl) (Sp.Runs.move rfl) ?_
      refine Sp.L.pure (by kernel_rfl) (Sp.Runs.extract rfl rfl) ?_
      refine Sp.L.pure (by kernel_rfl) (Sp.Runs.extract rfl rfl) ?_
      refine Sp.L.pure (by kernel_rfl) (Sp.Runs.assign rfl) ?_
      refine Sp.L.pure (by kernel_rfl) (Sp.Runs.assign rfl) ?_
      refine Sp.L.nil ?_
      refine hK90 _ _ (Sp.Cd.sub (S' := [(60, _), (61, _), (62, _), (63, _), (64, _), (65, _), (66, _), (67, _), (68, _), (69, _), (70, _), (71, _), (73, _), (74, _), (75, _), (76, _)]) ⟨rfl, rfl, rfl, rfl, rfl, rfl, rfl, rfl, rfl, rfl, rfl, rfl, rfl, rfl, rfl, rfl, trivial⟩ ?_)
      clear hK90 K90
      refine Sp.Cd.seq fun K91 hK91 => ?_
      refine Sp.Cd.seq fun K92 hK92 => ?_
      refine Sp.Cd.region ?_
      refine Sp.L.pure (by kernel_rfl) (Sp.Runs.move rfl) ?_
      refine Sp.L.pure (by kernel_rfl) (Sp.Runs.move rfl) ?_
      refine Sp.L.pure (by kernel_rfl) (Sp.Runs.neBF Try.underlying4 rfl rfl (by first | rfl | assumption)) ?_
      refine Sp.L.pure (by kernel_rfl) (Sp.Runs.move rfl) ?_
      refine Sp.L.pure (by kernel_rfl) (Sp.Runs.move rfl) ?_
      refine Sp.L.pure (by kernel_rfl) (Sp.Runs.move rfl) ?_
      refine Sp.L.pure (by kernel_rfl) (Sp.Runs.neSF rfl rfl (by first | rfl | assumption)) ?_
      refine Sp.L.pure (by kernel_rfl) (Sp.Runs.pickF rfl rfl) ?_
      refine Sp.L.pure (by kernel_rfl) (Sp.Runs.move rfl) ?_
      refine Sp.L.pure (by kernel_rfl) (Sp.Runs.move rfl) ?_
      refine Sp.L.pure (by kernel_rfl) (Sp.Runs.move rfl) ?_
      refine Sp.L.pure (by kernel_rfl) (Sp.Runs.neBF Try.underlying4 rfl rfl (by first | rfl | assumption)) ?_
      refine Sp.L.pure (by kernel_rfl) (Sp.Runs.pickF rfl rfl) ?_
      refine Sp.L.pure (by kernel_rfl) (Sp.Runs.move rfl) ?_
      refine Sp.L.pure (by kernel_rfl) (Sp.Runs.move rfl) ?_
      refine Sp.L.pure (by kernel_rfl) (Sp.Runs.move rfl) ?_
      refine Sp.L.pure (by kernel_rfl) (Sp.Runs.neSF rfl rfl (by first | rfl | assumption)) ?_
      refine Sp.L.pure (by kernel_rfl) (Sp.Runs.pickF rfl rfl) ?_
      refine Sp.L.pure (by kernel_rfl) (Sp.Runs.move rfl) ?_
      refine Sp.L.pure (by kernel_rfl) (Sp.Runs.move rfl) ?_
      refine Sp.L.pure (by kernel_rfl) (Sp.Runs.move rfl) ?_
      refine Sp.L.pure (by kernel_rfl) (Sp.Runs.neBF Try.underlying4 rfl rfl (by first | rfl | assumption)) ?_
      refine Sp.L.pure (by kernel_rfl) (Sp.Runs.pickF rfl rfl) ?_
      refine Sp.L.pure (by kernel_rfl) (Sp.Runs.move rfl) ?_
      refine Sp.L.pure (by kernel_rfl) (Sp.Runs.move rfl) ?_
      refine Sp.L.pure (by kernel_rfl) (Sp.Runs.move rfl) ?_
      refine Sp.L.pure (by kernel_rfl) (Sp.Runs.neIF rfl rfl (by first | rfl | assumption | omega)) ?_
      refine Sp.L.pure (by kernel_rfl) (Sp.Runs.pickF rfl rfl) ?_
      refine Sp.L.nil ?_
      refine hK92 _ _ (Sp.Cd.sub (S' := [(60, _), (61, _), (62, _), (63, _), (66, _), (67, _), (68, _), (69, _), (633, _)]) ⟨rfl, rfl, rfl, rfl, rfl, rfl, rfl, rfl, rfl, trivial⟩ ?_)
      clear hK92 K92
      refine Sp.Cd.condF rfl ?_
      refine Sp.Cd.skip ?_
      refine hK91 _ _ (Sp.Cd.sub (S' := [(60, _), (61, _), (62, _), (63, _), (66, _), (67, _), (68, _), (69, _)]) ⟨rfl, rfl, rfl, rfl, rfl, rfl, rfl, rfl, trivial⟩ ?_)
      clear hK91 K91
      refine Sp.Cd.cutK [(66, _), (67, _), (68, _), (69, _)] ⟨rfl, rfl, rfl, rfl, trivial⟩ ?_ ?_
      · have B1 : Hid (Below w34.heap.size w34 w34) := Lib.hid (Below.refl _ _)
        rcases al with _ | _
        · refine Sp.Cd.seq fun K93 hK93 => ?_
          refine Sp.Cd.region ?_
          refine Sp.L.pure (by kernel_rfl) (Sp.Runs.move rfl) ?_
          refine Sp.L.pure (by kernel_rfl) (Sp.Runs.move rfl) ?_
          refine Sp.L.skip (by kernel_rfl) ?_
          refine Sp.L.skip (by kernel_rfl) ?_
          refine Sp.L.pure (by kernel_rfl) (Sp.Runs.pickF rfl rfl) ?_
          refine Sp.L.nil ?_
          refine hK93 _ _ (Sp.Cd.sub (S' := [(60, _), (61, _), (62, _), (66, _), (67, _), (68, _), (69, _), (638, _)]) ⟨rfl, rfl, rfl, rfl, rfl, rfl, rfl, rfl, trivial⟩ ?_)
          clear hK93 K93
          refine Sp.Cd.condF rfl ?_
          refine Sp.Cd.skip ?_
          refine Sp.Nx.post () ⟨rfl, rfl, rfl, rfl, trivial⟩ (B1.out)
        · by_cases h30 : k ≤ 30
          · obtain ⟨hg, k0, k1⟩ := bAfter_yes hal.symm
            obtain ⟨hs, l1, l2⟩ := row_of hg
            obtain ⟨l, hl⟩ : ∃ x, x = bits a := ⟨_, rfl⟩
            rw [← hl] at hs l1 l2
            obtain ⟨t, ht⟩ : ∃ t : Nat, k = t := ⟨k.toNat, by omega⟩
            have HF : af = Rw.str (Rw.afterOf t l) := by rw [haf, oAfter, ← hal, hl, ht, Int.toNat_natCast]; rfl
            have T1 := fun i w => C1.implTickRow_yes (Rw.afterOf i l) (by rw [Rw.length_afterOf]; exact l1) (by rw [Rw.length_afterOf]; exact l2) w
            refine Sp.Cd.seq fun K94 hK94 => ?_
            refine Sp.Cd.region ?_
            refine Sp.L.pure (by kernel_rfl) (Sp.Runs.move rfl) ?_
            refine Sp.L.pure (by kernel_rfl) (Sp.Runs.move rfl) ?_
            refine Sp.L.pure (by kernel_rfl) (Sp.Runs.move rfl) ?_
            refine Sp.L.pure (by kernel_rfl) (Sp.Runs.leIT rfl rfl h30) ?_
            refine Sp.L.pure (by kernel_rfl) (Sp.Runs.pickT rfl rfl) ?_
            refine Sp.L.nil ?_
            refine hK94 _ _ (Sp.Cd.sub (S' := [(60, _), (61, _), (62, _), (66, _), (67, _), (68, _), (69, _), (638, _)]) ⟨rfl, rfl, rfl, rfl, rfl, rfl, rfl, rfl, trivial⟩ ?_)
            clear hK94 K94
            refine Sp.Cd.condT rfl ?_
            refine Sp.Cd.seq fun K95 hK95 => ?_
            refine Sp.Cd.region ?_
            refine Sp.L.pure (by kernel_rfl) (Sp.Runs.move rfl) ?_
            refine Sp.L.pure (by kernel_rfl) (Sp.Runs.assign rfl) ?_
            refine Sp.L.nil ?_
            refine hK95 _ _ (Sp.Cd.sub (S' := [(61, _), (62, _), (66, _), (67, _), (68, _), (69, _), (77, _)]) ⟨rfl, rfl, rfl, rfl, rfl, rfl, rfl, trivial⟩ ?_)
            clear hK95 K95
            refine Sp.Cd.seq fun K96 hK96 => ?_
            refine Sp.Cd.seq fun K97 hK97 => ?_
            refine Sp.Cd.region ?_
            refine Sp.L.pure (by kernel_rfl) (Sp.Runs.assign rfl) ?_
            refine Sp.L.nil ?_
            refine hK97 _ _ (Sp.Cd.sub (S' := [(61, _), (62, _), (66, _), (67, _), (68, _), (69, _), (77, _), (78, _)]) ⟨rfl, rfl, rfl, rfl, rfl, rfl, rfl, rfl, trivial⟩ ?_)
            clear hK97 K97
            refine Sp.Cd.block ?_
            have B2 : Hid (Below w34.heap.size w34 w34) := Lib.hid (Below.refl _ _)
            refine Sp.Cd.loop (ι := Nat) [(61, _), (62, _), (66, _), (67, _), (68, _), (69, _)] (fun i5 => [(77, .string (Rw.str (Rw.afterOf i5 l))), (78, .int .i64 (i5 : Nat))]) (fun i5 w' => Hid (Below w34.heap.size w34 w') ∧ (i5 ≤ t)) (fun i5 => t - i5) 0 ⟨(Sp.lkS rfl hs), rfl, rfl, rfl, rfl, rfl, rfl, rfl, trivial⟩ ⟨B2, Nat.zero_le _⟩ ?_
            clear B2
            rintro i5 w35 ⟨B2, hrel⟩
            have b := B2.out
            replace B0 := Lib.hid (B0.out.trans (b.mono B0.out.size))
            replace B1 := Lib.hid (B1.out.trans (b.mono B1.out.size))
            replace HYa := Lib.hid (HYa.out.below b)
            replace HYb := Lib.hid (HYb.out.below b)
            clear b
            refine Sp.Cd.sub (S' := [(77, _), (78, _), (61, _), (62, _), (66, _), (67, _), (68, _), (69, _)]) ⟨rfl, rfl, rfl, rfl, rfl, rfl, rfl, rfl, trivial⟩ ?_
            by_cases hlt5 : i5 < t
            · have T2 := T1 i5 w35
              have HN := Rw.afterOf_succ l i5
              rw [← HN] at T2
              refine Sp.Cd.seq fun K98 hK98 => ?_
              refine Sp.Cd.seq fun K99 hK99 => ?_
              refine Sp.Cd.region ?_
              refine Sp.L.pure (by kernel_rfl) (Sp.Runs.move rfl) ?_
              refine Sp.L.pure (by kernel_rfl) (Sp.Runs.move rfl) ?_
              refine Sp.L.pure (by kernel_rfl) (Sp.Runs.ltIT rfl rfl (by omega)) ?_
              refine Sp.L.nil ?_
              refine hK99 _ _ (Sp.Cd.sub (S' := [(61, _), (62, _), (66, _), (67, _), (68, _), (69, _), (77, _), (78, _), (642, _)]) ⟨rfl, rfl, rfl, rfl, rfl, rfl, rfl, rfl, rfl, trivial⟩ ?_)
              clear hK99 K99
              refine Sp.Cd.condT rfl ?_
              refine Sp.Cd.skip ?_
              refine hK98 _ _ (Sp.Cd.sub (S' := [(61, _), (62, _), (66, _), (67, _), (68, _), (69, _), (77, _), (78, _)]) ⟨rfl, rfl, rfl, rfl, rfl, rfl, rfl, rfl, trivial⟩ ?_)
              clear hK98 K98
              refine Sp.Cd.seq fun K100 hK100 => ?_
              refine Sp.Cd.block ?_
              refine Sp.Cd.seq fun K101 hK101 => ?_
              refine Sp.Cd.region ?_
              refine Sp.L.pure (by kernel_rfl) (Sp.Runs.move rfl) ?_
              refine Sp.L.call (by kernel_rfl) (T2) rfl rfl (by kernel_rfl) ?_
              rintro e w36 ⟨rfl, b⟩
              replace B0 := Lib.hid (B0.out.trans (b.mono B0.out.size))
              replace B1 := Lib.hid (B1.out.trans (b.mono B1.out.size))
              replace B2 := Lib.hid (B2.out.trans (b.mono B2.out.size))
              replace HYa := Lib.hid (HYa.out.below b)
              replace HYb := Lib.hid (HYb.out.below b)
              clear b
              refine ⟨_, rfl, ?_⟩
              refine Sp.L.pure (by kernel_rfl) (Sp.Runs.move rfl) ?_
              refine Sp.L.pure (by kernel_rfl) (Sp.Runs.extract rfl rfl) ?_
              refine Sp.L.pure (by kernel_rfl) (Sp.Runs.extract rfl rfl) ?_
              refine Sp.L.pure (by kernel_rfl) (Sp.Runs.assign rfl) ?_
              refine Sp.L.pure (by kernel_rfl) (Sp.Runs.assign rfl) ?_
              refine Sp.L.nil ?_
              refine hK101 _ _ (Sp.Cd.sub (S' := [(61, _), (62, _), (66, _), (67, _), (68, _), (69, _), (78, _), (79, _), (80, _)]) ⟨rfl, rfl, rfl, rfl, rfl, rfl, rfl, rfl, rfl, trivial⟩ ?_)
              clear hK101 K101
              refine Sp.Cd.seq fun K102 hK102 => ?_
              refine Sp.Cd.seq fun K103 hK103 => ?_
              refine Sp.Cd.region ?_
              refine Sp.L.pure (by kernel_rfl) (Sp.Runs.move rfl) ?_
              refine Sp.L.pure (by kernel_rfl) (Sp.Runs.notF rfl) ?_
              refine Sp.L.nil ?_
              refine hK103 _ _ (Sp.Cd.sub (S' := [(61, _), (62, _), (66, _), (67, _), (68, _), (69, _), (78, _), (79, _), (651, _)]) ⟨rfl, rfl, rfl, rfl, rfl, rfl, rfl, rfl, rfl, trivial⟩ ?_)
              clear hK103 K103
              refine Sp.Cd.condF rfl ?_
              refine Sp.Cd.skip ?_
              refine hK102 _ _ (Sp.Cd.sub (S' := [(61, _), (62, _), (66, _), (67, _), (68, _), (69, _), (78, _), (79, _)]) ⟨rfl, rfl, rfl, rfl, rfl, rfl, rfl, rfl, trivial⟩ ?_)
              clear hK102 K102
              refine Sp.Cd.region ?_
              refine Sp.L.pure (by kernel_rfl) (Sp.Runs.move rfl) ?_
              refine Sp.L.pure (by kernel_rfl) (Sp.Runs.assign rfl) ?_
              refine Sp.L.nil ?_
              refine Sp.Nx.block ?_
              refine hK100 _ _ (Sp.Cd.sub (S' := [(61, _), (62, _), (66, _), (67, _), (68, _), (69, _), (77, _), (78, _)]) ⟨rfl, rfl, rfl, rfl, rfl, rfl, rfl, rfl, trivial⟩ ?_)
              clear hK100 K100
              refine Sp.Cd.region ?_
              refine Sp.L.pure (by kernel_rfl) (Sp.Runs.move rfl) ?_
              refine Sp.L.pure (by kernel_rfl) (Sp.Runs.addI rfl rfl (Sp.wrapI (by omega) (by omega))) ?_
              refine Sp.L.pure (by kernel_rfl) (Sp.Runs.assign rfl) ?_
              refine Sp.L.nil ?_
              refine Sp.Nx.again (i5 + 1) ⟨rfl, (Sp.lkI rfl (by omega)), rfl, rfl, rfl, rfl, rfl, rfl, trivial⟩ ⟨B2, hlt5⟩ (by omega)
            · obtain rfl : t = i5 := by omega
              refine Sp.Cd.seq fun K104 hK104 => ?_
              refine Sp.Cd.seq fun K105 hK105 => ?_
              refine Sp.Cd.region ?_
              refine Sp.L.pure (by kernel_rfl) (Sp.Runs.move rfl) ?_
              refine Sp.L.pure (by kernel_rfl) (Sp.Runs.move rfl) ?_
              refine Sp.L.pure (by kernel_rfl) (Sp.Runs.ltIF rfl rfl (by omega)) ?_
              refine Sp.L.nil ?_
              refine hK105 _ _ (Sp.Cd.sub (S' := [(61, _), (62, _), (66, _), (67, _), (68, _), (69, _), (77, _), (78, _), (642, _)]) ⟨rfl, rfl, rfl, rfl, rfl, rfl, rfl, rfl, rfl, trivial⟩ ?_)
              clear hK105 K105
              refine Sp.Cd.condF rfl ?_
              refine Sp.Cd.exit ?_
              refine Sp.Ex.then ?_
              clear hK104 K104
              refine Sp.Ex.then ?_
              clear B2
              refine Sp.Ex.hit ?_
              refine hK96 _ _ (Sp.Cd.sub (S' := [(62, _), (66, _), (67, _), (68, _), (69, _), (77, _)]) ⟨rfl, rfl, rfl, rfl, rfl, rfl, trivial⟩ ?_)
              clear hK96 K96
              refine Sp.Cd.seq fun K106 hK106 => ?_
              refine Sp.Cd.region ?_
              refine Sp.L.pure (by kernel_rfl) (Sp.Runs.move rfl) ?_
              refine Sp.L.pure (by kernel_rfl) (Sp.Runs.move rfl) ?_
              refine Sp.L.pure (by kernel_rfl) (Sp.Runs.neSF rfl rfl HF.symm) ?_
              refine Sp.L.nil ?_
              refine hK106 _ _ (Sp.Cd.sub (S' := [(66, _), (67, _), (68, _), (69, _), (655, _)]) ⟨rfl, rfl, rfl, rfl, rfl, trivial⟩ ?_)
              clear hK106 K106
              refine Sp.Cd.condF rfl ?_
              refine Sp.Cd.skip ?_
              refine Sp.Nx.post () ⟨rfl, rfl, rfl, rfl, trivial⟩ (B1.out)
          · refine Sp.Cd.seq fun K107 hK107 => ?_
            refine Sp.Cd.region ?_
            refine Sp.L.pure (by kernel_rfl) (Sp.Runs.move rfl) ?_
            refine Sp.L.pure (by kernel_rfl) (Sp.Runs.move rfl) ?_
            refine Sp.L.pure (by kernel_rfl) (Sp.Runs.move rfl) ?_
            refine Sp.L.pure (by kernel_rfl) (Sp.Runs.leIF rfl rfl h30) ?_
            refine Sp.L.pure (by kernel_rfl) (Sp.Runs.pickT rfl rfl) ?_
            refine Sp.L.nil ?_
            refine hK107 _ _ (Sp.Cd.sub (S' := [(60, _), (61, _), (62, _), (66, _), (67, _), (68, _), (69, _), (638, _)]) ⟨rfl, rfl, rfl, rfl, rfl, rfl, rfl, rfl, trivial⟩ ?_)
            clear hK107 K107
            refine Sp.Cd.condF rfl ?_
            refine Sp.Cd.skip ?_
            refine Sp.Nx.post () ⟨rfl, rfl, rfl, rfl, trivial⟩ (B1.out)
      · intro w35 b
        replace B0 := Lib.hid (B0.out.trans (b.mono B0.out.size))
        replace HYa := Lib.hid (HYa.out.below b)
        replace HYb := Lib.hid (HYb.out.below b)
        clear b
        refine Sp.Cd.seq fun K108 hK108 => ?_
        refine Sp.Cd.seq fun K109 hK109 => ?_
        refine Sp.Cd.region ?_
        refine Sp.L.pure (by kernel_rfl) (Sp.Runs.move rfl) ?_
        refine Sp.L.nil ?_
        refine hK109 _ _ (Sp.Cd.sub (S' := [(66, _), (67, _), (68, _), (656, _)]) ⟨rfl, rfl, rfl, rfl, trivial⟩ ?_)
        clear hK109 K109
        rcases gd with _ | _
        · refine Sp.Cd.condF rfl ?_
          refine Sp.Cd.skip ?_
          refine hK108 _ _ (Sp.Cd.sub (S' := []) trivial ?_)
          clear hK108 K108
          refine Sp.Cd.seq fun K110 hK110 => ?_
          refine Sp.Cd.region ?_
          refine Sp.L.pure (by kernel_rfl) (Sp.Runs.assign rfl) ?_
          refine Sp.L.nil ?_
          refine hK110 _ _ (Sp.Cd.sub (S' := [(4, _)]) ⟨rfl, trivial⟩ ?_)
          clear hK110 K110
          refine Sp.Cd.ret ?_
          refine Sp.Rt.body rfl rfl ?_
          exact ⟨rfl, B0.out⟩
        · obtain ⟨g1, g2, g3, g4⟩ := bMake_yes hgd.symm
          obtain ⟨NN, hN⟩ : ∃ N : Nat, n = N := ⟨n.toNat, by omega⟩
          obtain ⟨M, hM⟩ : ∃ M : Nat, number = M := ⟨number.toNat, by omega⟩
          have hmd2 : md = Rw.str (Rw.make NN M) := by rw [hmd, oMake, ← hgd, hN, hM, Int.toNat_natCast, Int.toNat_natCast]; rfl
          have hM2 : M < 2 ^ NN := by rw [hN, Int.toNat_natCast] at g4; omega
          have NB := fun w => C1.implNumberOfRow_yes (Rw.make NN M) (by rw [length_makeR]; omega) (by rw [length_makeR]; omega) w
          rw [← hmd2, Rw.numberOf_make NN M hM2, ← hM] at NB
          have hz : (md.size : Int) = n := by rw [strSz hmd2, length_makeR]; exact hN.symm
          refine Sp.Cd.condT rfl ?_
          refine Sp.Cd.seq fun K111 hK111 => ?_
          refine Sp.Cd.region ?_
          refine Sp.L.pure (by kernel_rfl) (Sp.Runs.move rfl) ?_
          refine Sp.L.call (by kernel_rfl) (NB w35) rfl rfl (by kernel_rfl) ?_
          rintro e w36 ⟨rfl, b⟩
          replace B0 := Lib.hid (B0.out.trans (b.mono B0.out.size))
          replace HYa := Lib.hid (HYa.out.below b)
          replace HYb := Lib.hid (HYb.out.below b)
          clear b
          refine ⟨_, rfl, ?_⟩
          refine Sp.L.pure (by kernel_rfl) (Sp.Runs.move rfl) ?_
          refine Sp.L.pure (by kernel_rfl) (Sp.Runs.extract rfl rfl) ?_
          refine Sp.L.pure (by kernel_rfl) (Sp.Runs.extract rfl rfl) ?_
          refine Sp.L.pure (by kernel_rfl) (Sp.Runs.assign rfl) ?_
          refine Sp.L.pure (by kernel_rfl) (Sp.Runs.assign rfl) ?_
          refine Sp.L.nil ?_
          refine hK111 _ _ (Sp.Cd.sub (S' := [(66, _), (67, _), (68, _), (81, _), (82, _)]) ⟨rfl, rfl, rfl, rfl, rfl, trivial⟩ ?_)
          clear hK111 K111
          refine Sp.Cd.seq fun K112 hK112 => ?_
          refine Sp.Cd.region ?_
          refine Sp.L.pure (by kernel_rfl) (Sp.Runs.move rfl) ?_
          refine Sp.L.pure (by kernel_rfl) (Sp.Runs.move rfl) ?_
          refine Sp.L.pure (by kernel_rfl) (Sp.Runs.move rfl) ?_
          refine Sp.L.pure (by kernel_rfl) (Sp.Runs.move rfl) ?_
          refine Sp.L.pure (by kernel_rfl) (Sp.Runs.eqIT rfl rfl rfl) ?_
          refine Sp.L.pure (by kernel_rfl) (Sp.Runs.pickT rfl rfl) ?_
          refine Sp.L.pure (by kernel_rfl) (Sp.Runs.move rfl) ?_
          refine Sp.L.pure (by kernel_rfl) (Sp.Runs.move rfl) ?_
          refine Sp.L.pure (by kernel_rfl) (Sp.Runs.lenS Try.underlying9 rfl) ?_
          refine Sp.L.pure (by kernel_rfl) (Sp.Runs.move rfl) ?_
          refine Sp.L.pure (by kernel_rfl) (Sp.Runs.eqIT rfl rfl hz) ?_
          refine Sp.L.pure (by kernel_rfl) (Sp.Runs.pickT rfl rfl) ?_
          refine Sp.L.pure (by kernel_rfl) (Sp.Runs.assign rfl) ?_
          refine Sp.L.nil ?_
          refine hK112 _ _ (Sp.Cd.sub (S' := [(4, _)]) ⟨rfl, trivial⟩ ?_)
          clear hK112 K112
          refine Sp.Cd.ret ?_
          refine Sp.Rt.then ?_
          refine Sp.Rt.body rfl rfl ?_
          exact ⟨rfl, B0.out⟩
  · refine Sp.Cd.condT rfl ?_
    refine Sp.Cd.seq fun K113 hK113 => ?_
    refine Sp.Cd.region ?_
    refine Sp.L.pure (by kernel_rfl) (Sp.Runs.assign rfl) ?_
    refine Sp.L.nil ?_
    refine hK113 _ _ (Sp.Cd.sub (S' := [(4, _)]) ⟨rfl, trivial⟩ ?_)
    clear hK113 K113
    refine Sp.Cd.ret ?_
    refine Sp.Rt.then ?_
    refine Sp.Rt.body rfl rfl ?_
    exact ⟨rfl, B0.out⟩
end Go.Proofs.Ytacchefmblfobaa
