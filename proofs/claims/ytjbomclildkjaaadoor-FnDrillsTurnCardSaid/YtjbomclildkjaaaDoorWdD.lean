/- The walk of the composite law FnDrillsTurn. Written by a program of mine (tools/sp/w_dt.py). -/
import Derived.Test.YtjbomclildkjaaaDoorQdt
import Derived.Test.YtjbomclildkjaaaDoorSs
import Derived.Test.YtjbomclildkjaaaDoorIb
import Derived.Test.YtjbomclildkjaaaDoorIc
import Derived.Test.YtjbomclildkjaaaDoorId
import Derived.Test.YtjbomclildkjaaaDoorIe
import Derived.Test.YtjbomclildkjaaaDoorIf
import Derived.Test.YtjbomclildkjaaaDoorIg
import Derived.Test.YtjbomclildkjaaaDoorIh
import Derived.Test.YtjbomclildkjaaaDoorIj
import Derived.Test.YtjbomclildkjaaaDoorIp
import Derived.Test.YtjbomclildkjaaaDoorCu4
import Derived.Lib.OthersKept
namespace Go.Proofs.YtjbomclildkjaaaDoor
open Go.ChangeShapes Go.WideShapes Go.ChangeAt Go.RowKit
open Dr Dt Cu
set_option maxRecDepth 20000 in
set_option maxHeartbeats 40000000 in
theorem walkFnDrillsTurn (xa : Option Addr) (la ca : Nat) (xb : Option Addr) (lb cb' : Nat) (w0 : World) (hx : Bytes w0 xa la) (h1 : la ≤ 9223372036854775807) (hy : Bytes w0 xb lb) (h2 : lb ≤ 9223372036854775807) (ht_signOfTurn : Tab_signOfTurn w0) (ht_turnsChosen : Tab_turnsChosen w0) :
    Calls Tryd.prog 3 #[.slice xa la ca, .slice xb lb cb'] w0 fun e w' => e = .returned (.bool true) ∧ Below w0.heap.size w0 w' := by
  have B0 : Hid (Below w0.heap.size w0 w0) := Lib.hid (Below.refl _ _)
  have HS := Lib.hid ht_signOfTurn
  have HU := Lib.hid ht_turnsChosen
  clear ht_signOfTurn ht_turnsChosen
  have HYa := Lib.hid hx
  have HYb := Lib.hid hy
  clear hx hy
  obtain ⟨tb0, htb0⟩ : ∃ x, x = bigB la lb := ⟨_, rfl⟩
  refine Sp.enter (N := 613) (args := [.slice xa la ca, .slice xb lb cb']) Tryd.func3 rfl rfl (by kernel_rfl) ?_
  refine Sp.Cd.seq fun K1 hK1 => ?_
  refine Sp.Cd.region ?_
  refine Sp.L.pure (by kernel_rfl) (Sp.Runs.assign rfl) ?_
  refine Sp.L.nil ?_
  refine hK1 _ _ (Sp.Cd.sub (S' := [(0, _), (1, _)]) ⟨rfl, rfl, trivial⟩ ?_)
  clear hK1 K1
  refine Sp.Cd.seq fun K2 hK2 => ?_
  refine Sp.Cd.seq fun K3 hK3 => ?_
  refine Sp.Cd.region ?_
  refine Sp.L.pure (by kernel_rfl) (Sp.Runs.move rfl) ?_
  refine Sp.L.pure (by kernel_rfl) (Sp.Runs.move rfl) ?_
  have CC := big_p w0 xa xb la ca lb cb' h1 h2
  rw [← htb0] at CC
  refine Sp.L.call (by kernel_rfl) (CC) rfl rfl (by kernel_rfl) ?_
  clear CC
  rintro e w' ⟨rfl, rfl⟩
  refine ⟨_, rfl, ?_⟩
  refine Sp.L.nil ?_
  refine hK3 _ _ (Sp.Cd.sub (S' := [(0, _), (1, _), (88, _)]) ⟨rfl, rfl, rfl, trivial⟩ ?_)
  clear hK3 K3
  rcases tb0 with _ | _
  · refine Sp.Cd.condF rfl ?_
    refine Sp.Cd.skip ?_
    refine hK2 _ _ (Sp.Cd.sub (S' := [(0, _), (1, _)]) ⟨rfl, rfl, trivial⟩ ?_)
    clear hK2 K2
    refine Sp.Cd.seq fun K4 hK4 => ?_
    refine Sp.Cd.region ?_
    refine Sp.L.pure (by kernel_rfl) (Sp.Runs.move rfl) ?_
    refine Sp.L.call (by kernel_rfl) (drawFacingAfter_p w0 xa la ca h1 HYa.out) rfl rfl (by kernel_rfl) ?_
    rintro e w1 ⟨facing, word, hf0, hw0, rfl, b9⟩
    replace B0 := Lib.hid (B0.out.trans (b9.mono B0.out.size))
    replace HS := Lib.hid (HS.out.below b9)
    replace HU := Lib.hid (HU.out.below b9)
    replace HYa := Lib.hid (HYa.out.below b9)
    replace HYb := Lib.hid (HYb.out.below b9)
    clear b9
    refine ⟨_, rfl, ?_⟩
    have z1 : facing.size ≤ 1048576 := by omega
    have z2 : word.size ≤ 1048576 := by omega
    have ml0 : maxLen = 9223372036854775807 := rfl
    have hf : facing.size ≤ maxLen := by omega
    have hw : word.size ≤ maxLen := by omega
    clear ml0
    obtain ⟨wb, hwb⟩ : ∃ x, x = wordB word := ⟨_, rfl⟩
    obtain ⟨fb, hfb⟩ : ∃ x, x = faceB facing := ⟨_, rfl⟩
    obtain ⟨ok, hok⟩ : ∃ x, x = outFacingAfter_1 facing word := ⟨_, rfl⟩
    obtain ⟨af, haf⟩ : ∃ x, x = outFacingAfter_0 facing word := ⟨_, rfl⟩
    obtain ⟨tn, htn⟩ : ∃ x, x = outNetTurn_0 word := ⟨_, rfl⟩
    obtain ⟨sh, hsh⟩ : ∃ x, x = outShortCommands_0 word := ⟨_, rfl⟩
    obtain ⟨bk, hbk⟩ : ∃ x, x = outBackCommands_0 word := ⟨_, rfl⟩
    obtain ⟨mi, hmi⟩ : ∃ x, x = outMirrorCommands_0 word := ⟨_, rfl⟩
    obtain ⟨tm, htm⟩ : ∃ x, x = outRepeatsToFront_0 word := ⟨_, rfl⟩
    have hok2 : ok = (fb && wb) := by rw [hok, hfb, hwb]; rfl
    have WF : wb = true → WordF word (tsOf word) := fun h => wordF (hwb.symm.trans h)
    have FF : fb = true → FaceF facing (fsOf facing) := fun h => faceF (hfb.symm.trans h)
    have e1 : outNetTurn_1 word = wb := hwb.symm
    have e2 : outShortCommands_1 word = wb := hwb.symm
    have e3 : outBackCommands_1 word = wb := hwb.symm
    have e4 : outMirrorCommands_1 word = wb := hwb.symm
    have e5 : outRepeatsToFront_1 word = wb := hwb.symm
    have e6 : outAreCommands_0 word = wb := hwb.symm
    have e7 : outAreFacing_0 facing = fb := hfb.symm
    refine Sp.L.pure (by kernel_rfl) (Sp.Runs.move rfl) ?_
    refine Sp.L.pure (by kernel_rfl) (Sp.Runs.extract rfl rfl) ?_
    refine Sp.L.pure (by kernel_rfl) (Sp.Runs.extract rfl rfl) ?_
    refine Sp.L.pure (by kernel_rfl) (Sp.Runs.assign rfl) ?_
    refine Sp.L.pure (by kernel_rfl) (Sp.Runs.assign rfl) ?_
    refine Sp.L.nil ?_
    refine hK4 _ _ (Sp.Cd.sub (S' := [(1, _), (5, _), (6, _)]) ⟨rfl, rfl, rfl, trivial⟩ ?_)
    clear hK4 K4
    refine Sp.Cd.seq fun K5 hK5 => ?_
    refine Sp.Cd.region ?_
    refine Sp.L.pure (by kernel_rfl) (Sp.Runs.move rfl) ?_
    refine Sp.L.pure (by kernel_rfl) (Sp.Runs.move rfl) ?_
    have CC := implFacingAfter_any w1 facing word hf hw z1 z2 HS.out
    rw [← haf, ← hok] at CC
    refine Sp.L.call (by kernel_rfl) (CC) rfl rfl (by kernel_rfl) ?_
    clear CC
    rintro e w2 ⟨rfl, b⟩
    replace B0 := Lib.hid (B0.out.trans (b.mono B0.out.size))
    replace HS := Lib.hid (HS.out.below b)
    replace HU := Lib.hid (HU.out.below b)
    replace HYa := Lib.hid (HYa.out.below b)
    replace HYb := Lib.hid (HYb.out.below b)
    clear b
    refine ⟨_, rfl, ?_⟩
    refine Sp.L.pure (by kernel_rfl) (Sp.Runs.move rfl) ?_
    refine Sp.L.pure (by kernel_rfl) (Sp.Runs.extract rfl rfl) ?_
    refine Sp.L.pure (by kernel_rfl) (Sp.Runs.extract rfl rfl) ?_
    refine Sp.L.pure (by kernel_rfl) (Sp.Runs.assign rfl) ?_
    refine Sp.L.pure (by kernel_rfl) (Sp.Runs.assign rfl) ?_
    refine Sp.L.nil ?_
    refine hK5 _ _ (Sp.Cd.sub (S' := [(1, _), (5, _), (6, _), (7, _), (8, _)]) ⟨rfl, rfl, rfl, rfl, rfl, trivial⟩ ?_)
    clear hK5 K5
    refine Sp.Cd.seq fun K6 hK6 => ?_
    refine Sp.Cd.region ?_
    refine Sp.L.pure (by kernel_rfl) (Sp.Runs.move rfl) ?_
    refine Sp.L.pure (by kernel_rfl) (Sp.Runs.move rfl) ?_
    have CC := specFacingAfter_any w2 facing word hf hw z1 z2
    rw [← haf, ← hok] at CC
    refine Sp.L.call (by kernel_rfl) (CC) rfl rfl (by kernel_rfl) ?_
    clear CC
    rintro e w3 ⟨rfl, b⟩
    replace B0 := Lib.hid (B0.out.trans (b.mono B0.out.size))
    replace HS := Lib.hid (HS.out.below b)
    replace HU := Lib.hid (HU.out.below b)
    replace HYa := Lib.hid (HYa.out.below b)
    replace HYb := Lib.hid (HYb.out.below b)
    clear b
    refine ⟨_, rfl, ?_⟩
    refine Sp.L.pure (by kernel_rfl) (Sp.Runs.move rfl) ?_
    refine Sp.L.pure (by kernel_rfl) (Sp.Runs.extract rfl rfl) ?_
    refine Sp.L.pure (by kernel_rfl) (Sp.Runs.extract rfl rfl) ?_
    refine Sp.L.pure (by kernel_rfl) (Sp.Runs.assign rfl) ?_
    refine Sp.L.pure (by kernel_rfl) (Sp.Runs.assign rfl) ?_
    refine Sp.L.nil ?_
    refine hK6 _ _ (Sp.Cd.sub (S' := [(1, _), (5, _), (6, _), (7, _), (8, _), (9, _), (10, _)]) ⟨rfl, rfl, rfl, rfl, rfl, rfl, rfl, trivial⟩ ?_)
    clear hK6 K6
    refine Sp.Cd.seq fun K7 hK7 => ?_
    refine Sp.Cd.region ?_
    refine Sp.L.pure (by kernel_rfl) (Sp.Runs.move rfl) ?_
    have CC := implNetTurn_any w3 word hw z2 HS.out
    rw [← htn, e1] at CC
    refine Sp.L.call (by kernel_rfl) (CC) rfl rfl (by kernel_rfl) ?_
    clear CC
    rintro e w4 ⟨rfl, b⟩
    replace B0 := Lib.hid (B0.out.trans (b.mono B0.out.size))
    replace HS := Lib.hid (HS.out.below b)
    replace HU := Lib.hid (HU.out.below b)
    replace HYa := Lib.hid (HYa.out.below b)
    replace HYb := Lib.hid (HYb.out.below b)
    clear b
    refine ⟨_, rfl, ?_⟩
    refine Sp.L.pure (by kernel_rfl) (Sp.Runs.move rfl) ?_
    refine Sp.L.pure (by kernel_rfl) (Sp.Runs.extract rfl rfl) ?_
    refine Sp.L.pure (by kernel_rfl) (Sp.Runs.extract rfl rfl) ?_
    refine Sp.L.pure (by kernel_rfl) (Sp.Runs.assign rfl) ?_
    refine Sp.L.pure (by kernel_rfl) (Sp.Runs.assign rfl) ?_
    refine Sp.L.nil ?_
    refine hK7 _ _ (Sp.Cd.sub (S' := [(1, _), (5, _), (6, _), (7, _), (8, _), (9, _), (10, _), (11, _), (12, _)]) ⟨rfl, rfl, rfl, rfl, rfl, rfl, rfl, rfl, rfl, trivial⟩ ?_)
    clear hK7 K7
    refine Sp.Cd.seq fun K8 hK8 => ?_
    refine Sp.Cd.region ?_
    refine Sp.L.pure (by kernel_rfl) (Sp.Runs.move rfl) ?_
    have CC := specNetTurn_any w4 word hw z2
    rw [← htn, e1] at CC
    refine Sp.L.call (by kernel_rfl) (CC) rfl rfl (by kernel_rfl) ?_
    clear CC
    rintro e w5 ⟨rfl, b⟩
    replace B0 := Lib.hid (B0.out.trans (b.mono B0.out.size))
    replace HS := Lib.hid (HS.out.below b)
    replace HU := Lib.hid (HU.out.below b)
    replace HYa := Lib.hid (HYa.out.below b)
    replace HYb := Lib.hid (HYb.out.below b)
    clear b
    refine ⟨_, rfl, ?_⟩
    refine Sp.L.pure (by kernel_rfl) (Sp.Runs.move rfl) ?_
    refine Sp.L.pure (by kernel_rfl) (Sp.Runs.extract rfl rfl) ?_
    refine Sp.L.pure (by kernel_rfl) (Sp.Runs.extract rfl rfl) ?_
    refine Sp.L.pure (by kernel_rfl) (Sp.Runs.assign rfl) ?_
    refine Sp.L.pure (by kernel_rfl) (Sp.Runs.assign rfl) ?_
    refine Sp.L.nil ?_
    refine hK8 _ _ (Sp.Cd.sub (S' := [(1, _), (5, _), (6, _), (7, _), (8, _), (9, _), (10, _), (11, _), (12, _), (13, _), (14, _)]) ⟨rfl, rfl, rfl, rfl, rfl, rfl, rfl, rfl, rfl, rfl, rfl, trivial⟩ ?_)
    clear hK8 K8
    refine Sp.Cd.seq fun K9 hK9 => ?_
    refine Sp.Cd.region ?_
    refine Sp.L.pure (by kernel_rfl) (Sp.Runs.move rfl) ?_
    have CC := implShortCommands_any w5 word hw z2 HS.out
    rw [← hsh, e2] at CC
    refine Sp.L.call (by kernel_rfl) (CC) rfl rfl (by kernel_rfl) ?_
    clear CC
    rintro e w6 ⟨rfl, b⟩
    replace B0 := Lib.hid (B0.out.trans (b.mono B0.out.size))
    replace HS := Lib.hid (HS.out.below b)
    replace HU := Lib.hid (HU.out.below b)
    replace HYa := Lib.hid (HYa.out.below b)
    replace HYb := Lib.hid (HYb.out.below b)
    clear b
    refine ⟨_, rfl, ?_⟩
    refine Sp.L.pure (by kernel_rfl) (Sp.Runs.move rfl) ?_
    refine Sp.L.pure (by kernel_rfl) (Sp.Runs.extract rfl rfl) ?_
    refine Sp.L.pure (by kernel_rfl) (Sp.Runs.extract rfl rfl) ?_
    refine Sp.L.pure (by kernel_rfl) (Sp.Runs.assign rfl) ?_
    refine Sp.L.pure (by kernel_rfl) (Sp.Runs.assign rfl) ?_
    refine Sp.L.nil ?_
    refine hK9 _ _ (Sp.Cd.sub (S' := [(1, _), (5, _), (6, _), (7, _), (8, _), (9, _), (10, _), (11, _), (12, _), (13, _), (14, _), (15, _), (16, _)]) ⟨rfl, rfl, rfl, rfl, rfl, rfl, rfl, rfl, rfl, rfl, rfl, rfl, rfl, trivial⟩ ?_)
    clear hK9 K9
    refine Sp.Cd.seq fun K10 hK10 => ?_
    refine Sp.Cd.region ?_
    refine Sp.L.pure (by kernel_rfl) (Sp.Runs.move rfl) ?_
    have CC := specShortCommands_any w6 word hw z2
    rw [← hsh, e2] at CC
    refine Sp.L.call (by kernel_rfl) (CC) rfl rfl (by kernel_rfl) ?_
    clear CC
    rintro e w7 ⟨rfl, b⟩
    replace B0 := Lib.hid (B0.out.trans (b.mono B0.out.size))
    replace HS := Lib.hid (HS.out.below b)
    replace HU := Lib.hid (HU.out.below b)
    replace HYa := Lib.hid (HYa.out.below b)
    replace HYb := Lib.hid (HYb.out.below b)
    clear b
    refine ⟨_, rfl, ?_⟩
    refine Sp.L.pure (by kernel_rfl) (Sp.Runs.move rfl) ?_
    refine Sp.L.pure (by kernel_rfl) (Sp.Runs.extract rfl rfl) ?_
    refine Sp.L.pure (by kernel_rfl) (Sp.Runs.extract rfl rfl) ?_
    refine Sp.L.pure (by kernel_rfl) (Sp.Runs.assign rfl) ?_
    refine Sp.L.pure (by kernel_rfl) (Sp.Runs.assign rfl) ?_
    refine Sp.L.nil ?_
    refine hK10 _ _ (Sp.Cd.sub (S' := [(1, _), (5, _), (6, _), (7, _), (8, _), (9, _), (10, _), (11, _), (12, _), (13, _), (14, _), (15, _), (16, _), (17, _), (18, _)]) ⟨rfl, rfl, rfl, rfl, rfl, rfl, rfl, rfl, rfl, rfl, rfl, rfl, rfl, rfl, rfl, trivial⟩ ?_)
    clear hK10 K10
    refine Sp.Cd.seq fun K11 hK11 => ?_
    refine Sp.Cd.region ?_
    refine Sp.L.pure (by kernel_rfl) (Sp.Runs.move rfl) ?_
    have CC := implBackCommands_any w7 word hw z2 HS.out
    rw [← hbk, e3] at CC
    refine Sp.L.call (by kernel_rfl) (CC) rfl rfl (by kernel_rfl) ?_
    clear CC
    rintro e w8 ⟨rfl, b⟩
    replace B0 := Lib.hid (B0.out.trans (b.mono B0.out.size))
    replace HS := Lib.hid (HS.out.below b)
    replace HU := Lib.hid (HU.out.below b)
    replace HYa := Lib.hid (HYa.out.below b)
    replace HYb := Lib.hid (HYb.out.below b)
    clear b
    refine ⟨_, rfl, ?_⟩
    refine Sp.L.pure (by kernel_rfl) (Sp.Runs.move rfl) ?_
    refine Sp.L.pure (by kernel_rfl) (Sp.Runs.extract rfl rfl) ?_
    refine Sp.L.pure (by kernel_rfl) (Sp.Runs.extract rfl rfl) ?_
    refine Sp.L.pure (by kernel_rfl) (Sp.Runs.assign rfl) ?_
    refine Sp.L.pure (by kernel_rfl) (Sp.Runs.assign rfl) ?_
    refine Sp.L.nil ?_
    refine hK11 _ _ (Sp.Cd.sub (S' := [(1, _), (5, _), (6, _), (7, _), (8, _), (9, _), (10, _), (11, _), (12, _), (13, _), (14, _), (15, _), (16, _), (17, _), (18, _), (19, _), (20, _)]) ⟨rfl, rfl, rfl, rfl, rfl, rfl, rfl, rfl, rfl, rfl, rfl, rfl, rfl, rfl, rfl, rfl, rfl, trivial⟩ ?_)
    clear hK11 K11
    refine Sp.Cd.seq fun K12 hK12 => ?_
    refine Sp.Cd.region ?_
    refine Sp.L.pure (by kernel_rfl) (Sp.Runs.move rfl) ?_
    have CC := specBackCommands_any w8 word hw z2
    rw [← hbk, e3] at CC
    refine Sp.L.call (by kernel_rfl) (CC) rfl rfl (by kernel_rfl) ?_
    clear CC
    rintro e w9 ⟨rfl, b⟩
    replace B0 := Lib.hid (B0.out.trans (b.mono B0.out.size))
    replace HS := Lib.hid (HS.out.below b)
    replace HU := Lib.hid (HU.out.below b)
    replace HYa := Lib.hid (HYa.out.below b)
    replace HYb := Lib.hid (HYb.out.below b)
    clear b
    refine ⟨_, rfl, ?_⟩
    refine Sp.L.pure (by kernel_rfl) (Sp.Runs.move rfl) ?_
    refine Sp.L.pure (by kernel_rfl) (Sp.Runs.extract rfl rfl) ?_
    refine Sp.L.pure (by kernel_rfl) (Sp.Runs.extract rfl rfl) ?_
    refine Sp.L.pure (by kernel_rfl) (Sp.Runs.assign rfl) ?_
    refine Sp.L.pure (by kernel_rfl) (Sp.Runs.assign rfl) ?_
    refine Sp.L.nil ?_
    refine hK12 _ _ (Sp.Cd.sub (S' := [(1, _), (5, _), (6, _), (7, _), (8, _), (9, _), (10, _), (11, _), (12, _), (13, _), (14, _), (15, _), (16, _), (17, _), (18, _), (19, _), (20, _), (21, _), (22, _)]) ⟨rfl, rfl, rfl, rfl, rfl, rfl, rfl, rfl, rfl, rfl, rfl, rfl, rfl, rfl, rfl, rfl, rfl, rfl, rfl, trivial⟩ ?_)
    clear hK12 K12
    refine Sp.Cd.seq fun K13 hK13 => ?_
    refine Sp.Cd.region ?_
    refine Sp.L.pure (by kernel_rfl) (Sp.Runs.move rfl) ?_
    have CC := implMirrorCommands_any w9 word hw z2 HS.out
    rw [← hmi, e4] at CC
    refine Sp.L.call (by kernel_rfl) (CC) rfl rfl (by kernel_rfl) ?_
    clear CC
    rintro e w10 ⟨rfl, b⟩
    replace B0 := Lib.hid (B0.out.trans (b.mono B0.out.size))
    replace HS := Lib.hid (HS.out.below b)
    replace HU := Lib.hid (HU.out.below b)
    replace HYa := Lib.hid (HYa.out.below b)
    replace HYb := Lib.hid (HYb.out.below b)
    clear b
    refine ⟨_, rfl, ?_⟩
    refine Sp.L.pure (by kernel_rfl) (Sp.Runs.move rfl) ?_
    refine Sp.L.pure (by kernel_rfl) (Sp.Runs.extract rfl rfl) ?_
    refine Sp.L.pure (by kernel_rfl) (Sp.Runs.extract rfl rfl) ?_
    refine Sp.L.pure (by kernel_rfl) (Sp.Runs.assign rfl) ?_
    refine Sp.L.pure (by kernel_rfl) (Sp.Runs.assign rfl) ?_
    refine Sp.L.nil ?_
    refine hK13 _ _ (Sp.Cd.sub (S' := [(1, _), (5, _), (6, _), (7, _), (8, _), (9, _), (10, _), (11, _), (12, _), (13, _), (14, _), (15, _), (16, _), (17, _), (18, _), (19, _), (20, _), (21, _), (22, _), (23, _), (24, _)]) ⟨rfl, rfl, rfl, rfl, rfl, rfl, rfl, rfl, rfl, rfl, rfl, rfl, rfl, rfl, rfl, rfl, rfl, rfl, rfl, rfl, rfl, trivial⟩ ?_)
    clear hK13 K13
    refine Sp.Cd.seq fun K14 hK14 => ?_
    refine Sp.Cd.region ?_
    refine Sp.L.pure (by kernel_rfl) (Sp.Runs.move rfl) ?_
    have CC := specMirrorCommands_any w10 word hw z2
    rw [← hmi, e4] at CC
    refine Sp.L.call (by kernel_rfl) (CC) rfl rfl (by kernel_rfl) ?_
    clear CC
    rintro e w11 ⟨rfl, b⟩
    replace B0 := Lib.hid (B0.out.trans (b.mono B0.out.size))
    replace HS := Lib.hid (HS.out.below b)
    replace HU := Lib.hid (HU.out.below b)
    replace HYa := Lib.hid (HYa.out.below b)
    replace HYb := Lib.hid (HYb.out.below b)
    clear b
    refine ⟨_, rfl, ?_⟩
    refine Sp.L.pure (by kernel_rfl) (Sp.Runs.move rfl) ?_
    refine Sp.L.pure (by kernel_rfl) (Sp.Runs.extract rfl rfl) ?_
    refine Sp.L.pure (by kernel_rfl) (Sp.Runs.extract rfl rfl) ?_
    refine Sp.L.pure (by kernel_rfl) (Sp.Runs.assign rfl) ?_
    refine Sp.L.pure (by kernel_rfl) (Sp.Runs.assign rfl) ?_
    refine Sp.L.nil ?_
    refine hK14 _ _ (Sp.Cd.sub (S' := [(1, _), (5, _), (6, _), (7, _), (8, _), (9, _), (10, _), (11, _), (12, _), (13, _), (14, _), (15, _), (16, _), (17, _), (18, _), (19, _), (20, _), (21, _), (22, _), (23, _), (24, _), (25, _), (26, _)]) ⟨rfl, rfl, rfl, rfl, rfl, rfl, rfl, rfl, rfl, rfl, rfl, rfl, rfl, rfl, rfl, rfl, rfl, rfl, rfl, rfl, rfl, rfl, rfl, trivial⟩ ?_)
    clear hK14 K14
    refine Sp.Cd.seq fun K15 hK15 => ?_
    refine Sp.Cd.region ?_
    refine Sp.L.pure (by kernel_rfl) (Sp.Runs.move rfl) ?_
    have CC := implRepeatsToFront_any w11 word hw z2 HS.out
    rw [← htm, e5] at CC
    refine Sp.L.call (by kernel_rfl) (CC) rfl rfl (by kernel_rfl) ?_
    clear CC
    rintro e w12 ⟨rfl, b⟩
    replace B0 := Lib.hid (B0.out.trans (b.mono B0.out.size))
    replace HS := Lib.hid (HS.out.below b)
    replace HU := Lib.hid (HU.out.below b)
    replace HYa := Lib.hid (HYa.out.below b)
    replace HYb := Lib.hid (HYb.out.below b)
    clear b
    refine ⟨_, rfl, ?_⟩
    refine Sp.L.pure (by kernel_rfl) (Sp.Runs.move rfl) ?_
    refine Sp.L.pure (by kernel_rfl) (Sp.Runs.extract rfl rfl) ?_
    refine Sp.L.pure (by kernel_rfl) (Sp.Runs.extract rfl rfl) ?_
    refine Sp.L.pure (by kernel_rfl) (Sp.Runs.assign rfl) ?_
    refine Sp.L.pure (by kernel_rfl) (Sp.Runs.assign rfl) ?_
    refine Sp.L.nil ?_
    refine hK15 _ _ (Sp.Cd.sub (S' := [(1, _), (5, _), (6, _), (7, _), (8, _), (9, _), (10, _), (11, _), (12, _), (13, _), (14, _), (15, _), (16, _), (17, _), (18, _), (19, _), (20, _), (21, _), (22, _), (23, _), (24, _), (25, _), (26, _), (27, _), (28, _)]) ⟨rfl, rfl, rfl, rfl, rfl, rfl, rfl, rfl, rfl, rfl, rfl, rfl, rfl, rfl, rfl, rfl, rfl, rfl, rfl, rfl, rfl, rfl, rfl, rfl, rfl, trivial⟩ ?_)
    clear hK15 K15
    refine Sp.Cd.seq fun K16 hK16 => ?_
    refine Sp.Cd.region ?_
    refine Sp.L.pure (by kernel_rfl) (Sp.Runs.move rfl) ?_
    have CC := specRepeatsToFront_any w12 word hw z2
    rw [← htm, e5] at CC
    refine Sp.L.call (by kernel_rfl) (CC) rfl rfl (by kernel_rfl) ?_
    clear CC
    rintro e w13 ⟨rfl, b⟩
    replace B0 := Lib.hid (B0.out.trans (b.mono B0.out.size))
    replace HS := Lib.hid (HS.out.below b)
    replace HU := Lib.hid (HU.out.below b)
    replace HYa := Lib.hid (HYa.out.below b)
    replace HYb := Lib.hid (HYb.out.below b)
    clear b
    refine ⟨_, rfl, ?_⟩
    refine Sp.L.pure (by kernel_rfl) (Sp.Runs.move rfl) ?_
    refine Sp.L.pure (by kernel_rfl) (Sp.Runs.extract rfl rfl) ?_
    refine Sp.L.pure (by kernel_rfl) (Sp.Runs.extract rfl rfl) ?_
    refine Sp.L.pure (by kernel_rfl) (Sp.Runs.assign rfl) ?_
    refine Sp.L.pure (by kernel_rfl) (Sp.Runs.assign rfl) ?_
    refine Sp.L.nil ?_
    refine hK16 _ _ (Sp.Cd.sub (S' := [(1, _), (5, _), (6, _), (7, _), (8, _), (9, _), (10, _), (11, _), (12, _), (13, _), (14, _), (15, _), (16, _), (17, _), (18, _), (19, _), (20, _), (21, _), (22, _), (23, _), (24, _), (25, _), (26, _), (27, _), (28, _), (29, _), (30, _)]) ⟨rfl, rfl, rfl, rfl, rfl, rfl, rfl, rfl, rfl, rfl, rfl, rfl, rfl, rfl, rfl, rfl, rfl, rfl, rfl, rfl, rfl, rfl, rfl, rfl, rfl, rfl, rfl, trivial⟩ ?_)
    clear hK16 K16
    refine Sp.Cd.cutK [(1, _), (5, _), (6, _), (7, _), (8, _), (11, _), (12, _), (15, _), (19, _), (23, _), (27, _)] ⟨rfl, rfl, rfl, rfl, rfl, rfl, rfl, rfl, rfl, rfl, rfl, trivial⟩ ?_ ?_
    · have B1 : Hid (Below w13.heap.size w13 w13) := Lib.hid (Below.refl _ _)
      rcases fb with _ | _
      · rcases wb with _ | _
        · have hok3 : ok = false := hok2
          clear hok2
          subst hok3
          refine Sp.Cd.seq fun K17 hK17 => ?_
          refine Sp.Cd.region ?_
          refine Sp.L.pure (by kernel_rfl) (Sp.Runs.move rfl) ?_
          refine Sp.L.pure (by kernel_rfl) (Sp.Runs.move rfl) ?_
          refine Sp.L.pure (by kernel_rfl) (Sp.Runs.neBF Tryd.underlying4 rfl rfl (by decide)) ?_
          refine Sp.L.pure (by kernel_rfl) (Sp.Runs.move rfl) ?_
          refine Sp.L.pure (by kernel_rfl) (Sp.Runs.move rfl) ?_
          refine Sp.L.pure (by kernel_rfl) (Sp.Runs.move rfl) ?_
          refine Sp.L.pure (by kernel_rfl) (Sp.Runs.neSF rfl rfl (by first | rfl | assumption)) ?_
          refine Sp.L.pure (by kernel_rfl) (Sp.Runs.pickF rfl rfl) ?_
          refine Sp.L.pure (by kernel_rfl) (Sp.Runs.move rfl) ?_
          refine Sp.L.pure (by kernel_rfl) (Sp.Runs.move rfl) ?_
          refine Sp.L.pure (by kernel_rfl) (Sp.Runs.move rfl) ?_
          refine Sp.L.pure (by kernel_rfl) (Sp.Runs.neBF Tryd.underlying4 rfl rfl (by decide)) ?_
          refine Sp.L.pure (by kernel_rfl) (Sp.Runs.pickF rfl rfl) ?_
          refine Sp.L.pure (by kernel_rfl) (Sp.Runs.move rfl) ?_
          refine Sp.L.pure (by kernel_rfl) (Sp.Runs.move rfl) ?_
          refine Sp.L.pure (by kernel_rfl) (Sp.Runs.move rfl) ?_
          refine Sp.L.pure (by kernel_rfl) (Sp.Runs.neIF rfl rfl (by first | rfl | assumption | omega)) ?_
          refine Sp.L.pure (by kernel_rfl) (Sp.Runs.pickF rfl rfl) ?_
          refine Sp.L.pure (by kernel_rfl) (Sp.Runs.move rfl) ?_
          refine Sp.L.pure (by kernel_rfl) (Sp.Runs.move rfl) ?_
          refine Sp.L.pure (by kernel_rfl) (Sp.Runs.move rfl) ?_
          refine Sp.L.pure (by kernel_rfl) (Sp.Runs.neBF Tryd.underlying4 rfl rfl (by decide)) ?_
          refine Sp.L.pure (by kernel_rfl) (Sp.Runs.pickF rfl rfl) ?_
          refine Sp.L.pure (by kernel_rfl) (Sp.Runs.move rfl) ?_
          refine Sp.L.pure (by kernel_rfl) (Sp.Runs.move rfl) ?_
          refine Sp.L.pure (by kernel_rfl) (Sp.Runs.move rfl) ?_
          refine Sp.L.pure (by kernel_rfl) (Sp.Runs.neSF rfl rfl (by first | rfl | assumption)) ?_
          refine Sp.L.pure (by kernel_rfl) (Sp.Runs.pickF rfl rfl) ?_
          refine Sp.L.pure (by kernel_rfl) (Sp.Runs.move rfl) ?_
          refine Sp.L.pure (by kernel_rfl) (Sp.Runs.move rfl) ?_
          refine Sp.L.pure (by kernel_rfl) (Sp.Runs.move rfl) ?_
          refine Sp.L.pure (by kernel_rfl) (Sp.Runs.neBF Tryd.underlying4 rfl rfl (by decide)) ?_
          refine Sp.L.pure (by kernel_rfl) (Sp.Runs.pickF rfl rfl) ?_
          refine Sp.L.pure (by kernel_rfl) (Sp.Runs.move rfl) ?_
          refine Sp.L.pure (by kernel_rfl) (Sp.Runs.move rfl) ?_
          refine Sp.L.pure (by kernel_rfl) (Sp.Runs.move rfl) ?_
          refine Sp.L.pure (by kernel_rfl) (Sp.Runs.neSF rfl rfl (by first | rfl | assumption)) ?_
          refine Sp.L.pure (by kernel_rfl) (Sp.Runs.pickF rfl rfl) ?_
          refine Sp.L.pure (by kernel_rfl) (Sp.Runs.move rfl) ?_
          refine Sp.L.pure (by kernel_rfl) (Sp.Runs.move rfl) ?_
          refine Sp.L.pure (by kernel_rfl) (Sp.Runs.move rfl) ?_
          refine Sp.L.pure (by kernel_rfl) (Sp.Runs.neBF Tryd.underlying4 rfl rfl (by decide)) ?_
          refine Sp.L.pure (by kernel_rfl) (Sp.Runs.pickF rfl rfl) ?_
          refine Sp.L.pure (by kernel_rfl) (Sp.Runs.move rfl) ?_
          refine Sp.L.pure (by kernel_rfl) (Sp.Runs.move rfl) ?_
          refine Sp.L.pure (by kernel_rfl) (Sp.Runs.move rfl) ?_
          refine Sp.L.pure (by kernel_rfl) (Sp.Runs.neSF rfl rfl (by first | rfl | assumption)) ?_
          refine Sp.L.pure (by kernel_rfl) (Sp.Runs.pickF rfl rfl) ?_
          refine Sp.L.pure (by kernel_rfl) (Sp.Runs.move rfl) ?_
          refine Sp.L.pure (by kernel_rfl) (Sp.Runs.move rfl) ?_
          refine Sp.L.pure (by kernel_rfl) (Sp.Runs.move rfl) ?_
          refine Sp.L.pure (by kernel_rfl) (Sp.Runs.neBF Tryd.underlying4 rfl rfl (by decide)) ?_
          refine Sp.L.pure (by kernel_rfl) (Sp.Runs.pickF rfl rfl) ?_
          refine Sp.L.pure (by kernel_rfl) (Sp.Runs.move rfl) ?_
          refine Sp.L.pure (by kernel_rfl) (Sp.Runs.move rfl) ?_
          refine Sp.L.pure (by kernel_rfl) (Sp.Runs.move rfl) ?_
          refine Sp.L.pure (by kernel_rfl) (Sp.Runs.neIF rfl rfl (by first | rfl | assumption | omega)) ?_
          refine Sp.L.pure (by kernel_rfl) (Sp.Runs.pickF rfl rfl) ?_
          refine Sp.L.pure (by kernel_rfl) (Sp.Runs.move rfl) ?_
          refine Sp.L.pure (by kernel_rfl) (Sp.Runs.move rfl) ?_
          refine Sp.L.pure (by kernel_rfl) (Sp.Runs.move rfl) ?_
          have CC := implAreCommands_any w13 word hw z2 HS.out
          rw [e6] at CC
          refine Sp.L.call (by kernel_rfl) (CC) rfl rfl (by kernel_rfl) ?_
          clear CC
          rintro e w14 ⟨rfl, b⟩
          replace B0 := Lib.hid (B0.out.trans (b.mono B0.out.size))
          replace B1 := Lib.hid (B1.out.trans (b.mono B1.out.size))
          replace HS := Lib.hid (HS.out.below b)
          replace HU := Lib.hid (HU.out.below b)
          replace HYa := Lib.hid (HYa.out.below b)
          replace HYb := Lib.hid (HYb.out.below b)
          clear b
          refine ⟨_, rfl, ?_⟩
          refine Sp.L.pure (by kernel_rfl) (Sp.Runs.neBF Tryd.underlying4 rfl rfl (by first | rfl | assumption)) ?_
          refine Sp.L.pure (by kernel_rfl) (Sp.Runs.pickF rfl rfl) ?_
          refine Sp.L.pure (by kernel_rfl) (Sp.Runs.move rfl) ?_
          refine Sp.L.pure (by kernel_rfl) (Sp.Runs.move rfl) ?_
          have CC := implAreCommands_any w14 word hw z2 HS.out
          rw [e6] at CC
          refine Sp.L.call (by kernel_rfl) (CC) rfl rfl (by kernel_rfl) ?_
          clear CC
          rintro e w15 ⟨rfl, b⟩
          replace B0 := Lib.hid (B0.out.trans (b.mono B0.out.size))
          replace B1 := Lib.hid (B1.out.trans (b.mono B1.out.size))
          replace HS := Lib.hid (HS.out.below b)
          replace HU := Lib.hid (HU.out.below b)
          replace HYa := Lib.hid (HYa.out.below b)
          replace HYb := Lib.hid (HYb.out.below b)
          clear b
          refine ⟨_, rfl, ?_⟩
          refine Sp.L.pure (by kernel_rfl) (Sp.Runs.move rfl) ?_
          have CC := specAreCommands_any w15 word hw z2
          rw [e6] at CC
          refine Sp.L.call (by kernel_rfl) (CC) rfl rfl (by kernel_rfl) ?_
          clear CC
          rintro e w16 ⟨rfl, b⟩
          replace B0 := Lib.hid (B0.out.trans (b.mono B0.out.size))
          replace B1 := Lib.hid (B1.out.trans (b.mono B1.out.size))
          replace HS := Lib.hid (HS.out.below b)
          replace HU := Lib.hid (HU.out.below b)
          replace HYa := Lib.hid (HYa.out.below b)
          replace HYb := Lib.hid (HYb.out.below b)
          clear b
          refine ⟨_, rfl, ?_⟩
          refine Sp.L.pure (by kernel_rfl) (Sp.Runs.neBF Tryd.underlying4 rfl rfl (by first | rfl | assumption)) ?_
          refine Sp.L.pure (by kernel_rfl) (Sp.Runs.pickF rfl rfl) ?_
          refine Sp.L.pure (by kernel_rfl) (Sp.Runs.move rfl) ?_
          refine Sp.L.pure (by kernel_rfl) (Sp.Runs.move rfl) ?_
          refine Sp.L.pure (by kernel_rfl) (Sp.Runs.move rfl) ?_
          refine Sp.L.pure (by kernel_rfl) (Sp.Runs.neBF Tryd.underlying4 rfl rfl (by decide)) ?_
          refine Sp.L.pure (by kernel_rfl) (Sp.Runs.pickF rfl rfl) ?_
          refine Sp.L.pure (by kernel_rfl) (Sp.Runs.move rfl) ?_
          refine Sp.L.pure (by kernel_rfl) (Sp.Runs.move rfl) ?_
          refine Sp.L.pure (by kernel_rfl) (Sp.Runs.move rfl) ?_
          refine Sp.L.pure (by kernel_rfl) (Sp.Runs.neBF Tryd.underlying4 rfl rfl (by decide)) ?_
          refine Sp.L.pure (by kernel_rfl) (Sp.Runs.pickF rfl rfl) ?_
          refine Sp.L.pure (by kernel_rfl) (Sp.Runs.move rfl) ?_
          refine Sp.L.pure (by kernel_rfl) (Sp.Runs.move rfl) ?_
          refine Sp.L.pure (by kernel_rfl) (Sp.Runs.move rfl) ?_
          refine Sp.L.pure (by kernel_rfl) (Sp.Runs.neBF Tryd.underlying4 rfl rfl (by decide)) ?_
          refine Sp.L.pure (by kernel_rfl) (Sp.Runs.pickF rfl rfl) ?_
          refine Sp.L.pure (by kernel_rfl) (Sp.Runs.move rfl) ?_
          refine Sp.L.pure (by kernel_rfl) (Sp.Runs.move rfl) ?_
          refine Sp.L.pure (by kernel_rfl) (Sp.Runs.move rfl) ?_
          refine Sp.L.pure (by kernel_rfl) (Sp.Runs.neBF Tryd.underlying4 rfl rfl (by decide)) ?_
          refine Sp.L.pure (by kernel_rfl) (Sp.Runs.pickF rfl rfl) ?_
          refine Sp.L.pure (by kernel_rfl) (Sp.Runs.move rfl) ?_
          refine Sp.L.pure (by kernel_rfl) (Sp.Runs.move rfl) ?_
          refine Sp.L.pure (by kernel_rfl) (Sp.Runs.move rfl) ?_
          refine Sp.L.pure (by kernel_rfl) (Sp.Runs.move rfl) ?_
          refine Sp.L.skip (by kernel_rfl) ?_
          refine Sp.L.skip (by kernel_rfl) ?_
          refine Sp.L.pure (by kernel_rfl) (Sp.Runs.pickF rfl rfl) ?_
          refine Sp.L.pure (by kernel_rfl) (Sp.Runs.neBF Tryd.underlying4 rfl rfl (by decide)) ?_
          refine Sp.L.pure (by kernel_rfl) (Sp.Runs.pickF rfl rfl) ?_
          refine Sp.L.pure (by kernel_rfl) (Sp.Runs.move rfl) ?_
          refine Sp.L.pure (by kernel_rfl) (Sp.Runs.move rfl) ?_
          have CC := implAreFacing_any w16 facing hf z1
          rw [e7] at CC
          refine Sp.L.call (by kernel_rfl) (CC) rfl rfl (by kernel_rfl) ?_
          clear CC
          rintro e w17 ⟨rfl, b⟩
          replace B0 := Lib.hid (B0.out.trans (b.mono B0.out.size))
          replace B1 := Lib.hid (B1.out.trans (b.mono B1.out.size))
          replace HS := Lib.hid (HS.out.below b)
          replace HU := Lib.hid (HU.out.below b)
          replace HYa := Lib.hid (HYa.out.below b)
          replace HYb := Lib.hid (HYb.out.below b)
          clear b
          refine ⟨_, rfl, ?_⟩
          refine Sp.L.pure (by kernel_rfl) (Sp.Runs.move rfl) ?_
          have CC := specAreFacing_any w17 facing hf z1
          rw [e7] at CC
          refine Sp.L.call (by kernel_rfl) (CC) rfl rfl (by kernel_rfl) ?_
          clear CC
          rintro e w18 ⟨rfl, b⟩
          replace B0 := Lib.hid (B0.out.trans (b.mono B0.out.size))
          replace B1 := Lib.hid (B1.out.trans (b.mono B1.out.size))
          replace HS := Lib.hid (HS.out.below b)
          replace HU := Lib.hid (HU.out.below b)
          replace HYa := Lib.hid (HYa.out.below b)
          replace HYb := Lib.hid (HYb.out.below b)
          clear b
          refine ⟨_, rfl, ?_⟩
          refine Sp.L.pure (by kernel_rfl) (Sp.Runs.neBF Tryd.underlying4 rfl rfl (by first | rfl | assumption)) ?_
          refine Sp.L.pure (by kernel_rfl) (Sp.Runs.pickF rfl rfl) ?_
          refine Sp.L.nil ?_
          refine hK17 _ _ (Sp.Cd.sub (S' := [(1, _), (5, _), (6, _), (7, _), (8, _), (11, _), (12, _), (15, _), (19, _), (23, _), (27, _), (262, _)]) ⟨rfl, rfl, rfl, rfl, rfl, rfl, rfl, rfl, rfl, rfl, rfl, rfl, trivial⟩ ?_)
          clear hK17 K17
          refine Sp.Cd.condF rfl ?_
          refine Sp.Cd.skip ?_
          refine Sp.Nx.post () ⟨rfl, rfl, rfl, rfl, rfl, rfl, rfl, rfl, rfl, rfl, rfl, trivial⟩ (B1.out)
        · have hok3 : ok = false := hok2
          clear hok2
          subst hok3
          refine Sp.Cd.seq fun K18 hK18 => ?_
          refine Sp.Cd.region ?_
          refine Sp.L.pure (by kernel_rfl) (Sp.Runs.move rfl) ?_
          refine Sp.L.pure (by kernel_rfl) (Sp.Runs.move rfl) ?_
          refine Sp.L.pure (by kernel_rfl) (Sp.Runs.neBF Tryd.underlying4 rfl rfl (by decide)) ?_
          refine Sp.L.pure (by kernel_rfl) (Sp.Runs.move rfl) ?_
          refine Sp.L.pure (by kernel_rfl) (Sp.Runs.move rfl) ?_
          refine Sp.L.pure (by kernel_rfl) (Sp.Runs.move rfl) ?_
          refine Sp.L.pure (by kernel_rfl) (Sp.Runs.neSF rfl rfl (by first | rfl | assumption)) ?_
          refine Sp.L.pure (by kernel_rfl) (Sp.Runs.pickF rfl rfl) ?_
          refine Sp.L.pure (by kernel_rfl) (Sp.Runs.move rfl) ?_
          refine Sp.L.pure (by kernel_rfl) (Sp.Runs.move rfl) ?_
          refine Sp.L.pure (by kernel_rfl) (Sp.Runs.move rfl) ?_
          refine Sp.L.pure (by kernel_rfl) (Sp.Runs.neBF Tryd.underlying4 rfl rfl (by decide)) ?_
          refine Sp.L.pure (by kernel_rfl) (Sp.Runs.pickF rfl rfl) ?_
          refine Sp.L.pure (by kernel_rfl) (Sp.Runs.move rfl) ?_
          refine Sp.L.pure (by kernel_rfl) (Sp.Runs.move rfl) ?_
          refine Sp.L.pure (by kernel_rfl) (Sp.Runs.move rfl) ?_
          refine Sp.L.pure (by kernel_rfl) (Sp.Runs.neIF rfl rfl (by first | rfl | assumption | omega)) ?_
          refine Sp.L.pure (by kernel_rfl) (Sp.Runs.pickF rfl rfl) ?_
          refine Sp.L.pure (by kernel_rfl) (Sp.Runs.move rfl) ?_
          refine Sp.L.pure (by kernel_rfl) (Sp.Runs.move rfl) ?_
          refine Sp.L.pure (by kernel_rfl) (Sp.Runs.move rfl) ?_
          refine Sp.L.pure (by kernel_rfl) (Sp.Runs.neBF Tryd.underlying4 rfl rfl (by decide)) ?_
          refine Sp.L.pure (by kernel_rfl) (Sp.Runs.pickF rfl rfl) ?_
          refine Sp.L.pure (by kernel_rfl) (Sp.Runs.move rfl) ?_
          refine Sp.L.pure (by kernel_rfl) (Sp.Runs.move rfl) ?_
          refine Sp.L.pure (by kernel_rfl) (Sp.Runs.move rfl) ?_
          refine Sp.L.pure (by kernel_rfl) (Sp.Runs.neSF rfl rfl (by first | rfl | assumption)) ?_
          refine Sp.L.pure (by kernel_rfl) (Sp.Runs.pickF rfl rfl) ?_
          refine Sp.L.pure (by kernel_rfl) (Sp.Runs.move rfl) ?_
          refine Sp.L.pure (by kernel_rfl) (Sp.Runs.move rfl) ?_
          refine Sp.L.pure (by kernel_rfl) (Sp.Runs.move rfl) ?_
          refine Sp.L.pure (by kernel_rfl) (Sp.Runs.neBF Tryd.underlying4 rfl rfl (by decide)) ?_
          refine Sp.L.pure (by kernel_rfl) (Sp.Runs.pickF rfl rfl) ?_
          refine Sp.L.pure (by kernel_rfl) (Sp.Runs.move rfl) ?_
          refine Sp.L.pure (by kernel_rfl) (Sp.Runs.move rfl) ?_
          refine Sp.L.pure (by kernel_rfl) (Sp.Runs.move rfl) ?_
          refine Sp.L.pure (by kernel_rfl) (Sp.Runs.neSF rfl rfl (by first | rfl | assumption)) ?_
          refine Sp.L.pure (by kernel_rfl) (Sp.Runs.pickF rfl rfl) ?_
          refine Sp.L.pure (by kernel_rfl) (Sp.Runs.move rfl) ?_
          refine Sp.L.pure (by kernel_rfl) (Sp.Runs.move rfl) ?_
          refine Sp.L.pure (by kernel_rfl) (Sp.Runs.move rfl) ?_
          refine Sp.L.pure (by kernel_rfl) (Sp.Runs.neBF Tryd.underlying4 rfl rfl (by decide)) ?_
          refine Sp.L.pure (by kernel_rfl) (Sp.Runs.pickF rfl rfl) ?_
          refine Sp.L.pure (by kernel_rfl) (Sp.Runs.move rfl) ?_
          refine Sp.L.pure (by kernel_rfl) (Sp.Runs.move rfl) ?_
          refine Sp.L.pure (by kernel_rfl) (Sp.Runs.move rfl) ?_
          refine Sp.L.pure (by kernel_rfl) (Sp.Runs.neSF rfl rfl (by first | rfl | assumption)) ?_
          refine Sp.L.pure (by kernel_rfl) (Sp.Runs.pickF rfl rfl) ?_
          refine Sp.L.pure (by kernel_rfl) (Sp.Runs.move rfl) ?_
          refine Sp.L.pure (by kernel_rfl) (Sp.Runs.move rfl) ?_
          refine Sp.L.pure (by kernel_rfl) (Sp.Runs.move rfl) ?_
          refine Sp.L.pure (by kernel_rfl) (Sp.Runs.neBF Tryd.underlying4 rfl rfl (by decide)) ?_
          refine Sp.L.pure (by kernel_rfl) (Sp.Runs.pickF rfl rfl) ?_
          refine Sp.L.pure (by kernel_rfl) (Sp.Runs.move rfl) ?_
          refine Sp.L.pure (by kernel_rfl) (Sp.Runs.move rfl) ?_
          refine Sp.L.pure (by kernel_rfl) (Sp.Runs.move rfl) ?_
          refine Sp.L.pure (by kernel_rfl) (Sp.Runs.neIF rfl rfl (by first | rfl | assumption | omega)) ?_
          refine Sp.L.pure (by kernel_rfl) (Sp.Runs.pickF rfl rfl) ?_
          refine Sp.L.pure (by kernel_rfl) (Sp.Runs.move rfl) ?_
          refine Sp.L.pure (by kernel_rfl) (Sp.Runs.move rfl) ?_
          refine Sp.L.pure (by kernel_rfl) (Sp.Runs.move rfl) ?_
          have CC := implAreCommands_any w13 word hw z2 HS.out
          rw [e6] at CC
          refine Sp.L.call (by kernel_rfl) (CC) rfl rfl (by kernel_rfl) ?_
          clear CC
          rintro e w14 ⟨rfl, b⟩
          replace B0 := Lib.hid (B0.out.trans (b.mono B0.out.size))
          replace B1 := Lib.hid (B1.out.trans (b.mono B1.out.size))
          replace HS := Lib.hid (HS.out.below b)
          replace HU := Lib.hid (HU.out.below b)
          replace HYa := Lib.hid (HYa.out.below b)
          replace HYb := Lib.hid (HYb.out.below b)
          clear b
          refine ⟨_, rfl, ?_⟩
          refine Sp.L.pure (by kernel_rfl) (Sp.Runs.neBF Tryd.underlying4 rfl rfl (by first | rfl | assumption)) ?_
          refine Sp.L.pure (by kernel_rfl) (Sp.Runs.pickF rfl rfl) ?_
          refine Sp.L.pure (by kernel_rfl) (Sp.Runs.move rfl) ?_
          refine Sp.L.pure (by kernel_rfl) (Sp.Runs.move rfl) ?_
          have CC := implAreCommands_any w14 word hw z2 HS.out
          rw [e6] at CC
          refine Sp.L.call (by kernel_rfl) (CC) rfl rfl (by kernel_rfl) ?_
          clear CC
          rintro e w15 ⟨rfl, b⟩
          replace B0 := Lib.hid (B0.out.trans (b.mono B0.out.size))
          replace B1 := Lib.hid (B1.out.trans (b.mono B1.out.size))
          replace HS := Lib.hid (HS.out.below b)
          replace HU := Lib.hid (HU.out.below b)
          replace HYa := Lib.hid (HYa.out.below b)
          replace HYb := Lib.hid (HYb.out.below b)
          clear b
          refine ⟨_, rfl, ?_⟩
          refine Sp.L.pure (by kernel_rfl) (Sp.Runs.move rfl) ?_
          have CC := specAreCommands_any w15 word hw z2
          rw [e6] at CC
          refine Sp.L.call (by kernel_rfl) (CC) rfl rfl (by kernel_rfl) ?_
          clear CC
          rintro e w16 ⟨rfl, b⟩
          replace B0 := Lib.hid (B0.out.trans (b.mono B0.out.size))
          replace B1 := Lib.hid (B1.out.trans (b.mono B1.out.size))
          replace HS := Lib.hid (HS.out.below b)
          replace HU := Lib.hid (HU.out.below b)
          replace HYa := Lib.hid (HYa.out.below b)
          replace HYb := Lib.hid (HYb.out.below b)
          clear b
          refine ⟨_, rfl, ?_⟩
          refine Sp.L.pure (by kernel_rfl) (Sp.Runs.neBF Tryd.underlying4 rfl rfl (by first | rfl | assumption)) ?_
          refine Sp.L.pure (by kernel_rfl) (Sp.Runs.pickF rfl rfl) ?_
          refine Sp.L.pure (by kernel_rfl) (Sp.Runs.move rfl) ?_
          refine Sp.L.pure (by kernel_rfl) (Sp.Runs.move rfl) ?_
          refine Sp.L.pure (by kernel_rfl) (Sp.Runs.move rfl) ?_
          refine Sp.L.pure (by kernel_rfl) (Sp.Runs.neBF Tryd.underlying4 rfl rfl (by decide)) ?_
          refine Sp.L.pure (by kernel_rfl) (Sp.Runs.pickF rfl rfl) ?_
          refine Sp.L.pure (by kernel_rfl) (Sp.Runs.move rfl) ?_
          refine Sp.L.pure (by kernel_rfl) (Sp.Runs.move rfl) ?_
          refine Sp.L.pure (by kernel_rfl) (Sp.Runs.move rfl) ?_
          refine Sp.L.pure (by kernel_rfl) (Sp.Runs.neBF Tryd.underlying4 rfl rfl (by decide)) ?_
          refine Sp.L.pure (by kernel_rfl) (Sp.Runs.pickF rfl rfl) ?_
          refine Sp.L.pure (by kernel_rfl) (Sp.Runs.move rfl) ?_
          refine Sp.L.pure (by kernel_rfl) (Sp.Runs.move rfl) ?_
          refine Sp.L.pure (by kernel_rfl) (Sp.Runs.move rfl) ?_
          refine Sp.L.pure (by kernel_rfl) (Sp.Runs.neBF Tryd.underlying4 rfl rfl (by decide)) ?_
          refine Sp.L.pure (by kernel_rfl) (Sp.Runs.pickF rfl rfl) ?_
          refine Sp.L.pure (by kernel_rfl) (Sp.Runs.move rfl) ?_
          refine Sp.L.pure (by kernel_rfl) (Sp.Runs.move rfl) ?_
          refine Sp.L.pure (by kernel_rfl) (Sp.Runs.move rfl) ?_
          refine Sp.L.pure (by kernel_rfl) (Sp.Runs.neBF Tryd.underlying4 rfl rfl (by decide)) ?_
          refine Sp.L.pure (by kernel_rfl) (Sp.Runs.pickF rfl rfl) ?_
          refine Sp.L.pure (by kernel_rfl) (Sp.Runs.move rfl) ?_
          refine Sp.L.pure (by kernel_rfl) (Sp.Runs.move rfl) ?_
          refine Sp.L.pure (by kernel_rfl) (Sp.Runs.move rfl) ?_
          refine Sp.L.pure (by kernel_rfl) (Sp.Runs.move rfl) ?_
          refine Sp.L.pure (by kernel_rfl) (Sp.Runs.move rfl) ?_
          have CC := implAreFacing_any w16 facing hf z1
          rw [e7] at CC
          refine Sp.L.call (by kernel_rfl) (CC) rfl rfl (by kernel_rfl) ?_
          clear CC
          rintro e w17 ⟨rfl, b⟩
          replace B0 := Lib.hid (B0.out.trans (b.mono B0.out.size))
          replace B1 := Lib.hid (B1.out.trans (b.mono B1.out.size))
          replace HS := Lib.hid (HS.out.below b)
          replace HU := Lib.hid (HU.out.below b)
          replace HYa := Lib.hid (HYa.out.below b)
          replace HYb := Lib.hid (HYb.out.below b)
          clear b
          refine ⟨_, rfl, ?_⟩
          refine Sp.L.pure (by kernel_rfl) (Sp.Runs.pickT rfl rfl) ?_
          refine Sp.L.pure (by kernel_rfl) (Sp.Runs.neBF Tryd.underlying4 rfl rfl (by first | rfl | assumption)) ?_
          refine Sp.L.pure (by kernel_rfl) (Sp.Runs.pickF rfl rfl) ?_
          refine Sp.L.pure (by kernel_rfl) (Sp.Runs.move rfl) ?_
          refine Sp.L.pure (by kernel_rfl) (Sp.Runs.move rfl) ?_
          have CC := implAreFacing_any w17 facing hf z1
          rw [e7] at CC
          refine Sp.L.call (by kernel_rfl) (CC) rfl rfl (by kernel_rfl) ?_
          clear CC
          rintro e w18 ⟨rfl, b⟩
          replace B0 := Lib.hid (B0.out.trans (b.mono B0.out.size))
          replace B1 := Lib.hid (B1.out.trans (b.mono B1.out.size))
          replace HS := Lib.hid (HS.out.below b)
          replace HU := Lib.hid (HU.out.below b)
          replace HYa := Lib.hid (HYa.out.below b)
          replace HYb := Lib.hid (HYb.out.below b)
          clear b
          refine ⟨_, rfl, ?_⟩
          refine Sp.L.pure (by kernel_rfl) (Sp.Runs.move rfl) ?_
          have CC := specAreFacing_any w18 facing hf z1
          rw [e7] at CC
          refine Sp.L.call (by kernel_rfl) (CC) rfl rfl (by kernel_rfl) ?_
          clear CC
          rintro e w19 ⟨rfl, b⟩
          replace B0 := Lib.hid (B0.out.trans (b.mono B0.out.size))
          replace B1 := Lib.hid (B1.out.trans (b.mono B1.out.size))
          replace HS := Lib.hid (HS.out.below b)
          replace HU := Lib.hid (HU.out.below b)
          replace HYa := Lib.hid (HYa.out.below b)
          replace HYb := Lib.hid (HYb.out.below b)
          clear b
          refine ⟨_, rfl, ?_⟩
          refine Sp.L.pure (by kernel_rfl) (Sp.Runs.neBF Tryd.underlying4 rfl rfl (by first | rfl | assumption)) ?_
          refine Sp.L.pure (by kernel_rfl) (Sp.Runs.pickF rfl rfl) ?_
          refine Sp.L.nil ?_
          refine hK18 _ _ (Sp.Cd.sub (S' := [(1, _), (5, _), (6, _), (7, _), (8, _), (11, _), (12, _), (15, _), (19, _), (23, _), (27, _), (262, _)]) ⟨rfl, rfl, rfl, rfl, rfl, rfl, rfl, rfl, rfl, rfl, rfl, rfl, trivial⟩ ?_)
          clear hK18 K18
          refine Sp.Cd.condF rfl ?_
          refine Sp.Cd.skip ?_
          refine Sp.Nx.post () ⟨rfl, rfl, rfl, rfl, rfl, rfl, rfl, rfl, rfl, rfl, rfl, trivial⟩ (B1.out)
      · rcases wb with _ | _
        · have hok3 : ok = false := hok2
          clear hok2
          subst hok3
          refine Sp.Cd.seq fun K19 hK19 => ?_
          refine Sp.Cd.region ?_
          refine Sp.L.pure (by kernel_rfl) (Sp.Runs.move rfl) ?_
          refine Sp.L.pure (by kernel_rfl) (Sp.Runs.move rfl) ?_
          refine Sp.L.pure (by kernel_rfl) (Sp.Runs.neBF Tryd.underlying4 rfl rfl (by decide)) ?_
          refine Sp.L.pure (by kernel_rfl) (Sp.Runs.move rfl) ?_
          refine Sp.L.pure (by kernel_rfl) (Sp.Runs.move rfl) ?_
          refine Sp.L.pure (by kernel_rfl) (Sp.Runs.move rfl) ?_
          refine Sp.L.pure (by kernel_rfl) (Sp.Runs.neSF rfl rfl (by first | rfl | assumption)) ?_
          refine Sp.L.pure (by kernel_rfl) (Sp.Runs.pickF rfl rfl) ?_
          refine Sp.L.pure (by kernel_rfl) (Sp.Runs.move rfl) ?_
          refine Sp.L.pure (by kernel_rfl) (Sp.Runs.move rfl) ?_
          refine Sp.L.pure (by kernel_rfl) (Sp.Runs.move rfl) ?_
          refine Sp.L.pure (by kernel_rfl) (Sp.Runs.neBF Tryd.underlying4 rfl rfl (by decide)) ?_
          refine Sp.L.pure (by kernel_rfl) (Sp.Runs.pickF rfl rfl) ?_
          refine Sp.L.pure (by kernel_rfl) (Sp.Runs.move rfl) ?_
          refine Sp.L.pure (by kernel_rfl) (Sp.Runs.move rfl) ?_
          refine Sp.L.pure (by kernel_rfl) (Sp.Runs.move rfl) ?_
          refine Sp.L.pure (by kernel_rfl) (Sp.Runs.neIF rfl rfl (by first | rfl | assumption | omega)) ?_
          refine Sp.L.pure (by kernel_rfl) (Sp.Runs.pickF rfl rfl) ?_
          refine Sp.L.pure (by kernel_rfl) (Sp.Runs.move rfl) ?_
          refine Sp.L.pure (by kernel_rfl) (Sp.Runs.move rfl) ?_
          refine Sp.L.pure (by kernel_rfl) (Sp.Runs.move rfl) ?_
          refine Sp.L.pure (by kernel_rfl) (Sp.Runs.neBF Tryd.underlying4 rfl rfl (by decide)) ?_
          refine Sp.L.pure (by kernel_rfl) (Sp.Runs.pickF rfl rfl) ?_
          refine Sp.L.pure (by kernel_rfl) (Sp.Runs.move rfl) ?_
          refine Sp.L.pure (by kernel_rfl) (Sp.Runs.move rfl) ?_
          refine Sp.L.pure (by kernel_rfl) (Sp.Runs.move rfl) ?_
          refine Sp.L.pure (by kernel_rfl) (Sp.Runs.neSF rfl rfl (by first | rfl | assumption)) ?_
          refine Sp.L.pure (by kernel_rfl) (Sp.Runs.pickF rfl rfl) ?_
          refine Sp.L.pure (by kernel_rfl) (Sp.Runs.move rfl) ?_
          refine Sp.L.pure (by kernel_rfl) (Sp.Runs.move rfl) ?_
          refine Sp.L.pure (by kernel_rfl) (Sp.Runs.move rfl) ?_
          refine Sp.L.pure (by kernel_rfl) (Sp.Runs.neBF Tryd.underlying4 rfl rfl (by decide)) ?_
          refine Sp.L.pure (by kernel_rfl) (Sp.Runs.pickF rfl rfl) ?_
          refine Sp.L.pure (by kernel_rfl) (Sp.Runs.move rfl) ?_
          refine Sp.L.pure (by kernel_rfl) (Sp.Runs.move rfl) ?_
          refine Sp.L.pure (by kernel_rfl) (Sp.Runs.move rfl) ?_
          refine Sp.L.pure (by kernel_rfl) (Sp.Runs.neSF rfl rfl (by first | rfl | assumption)) ?_
          refine Sp.L.pure (by kernel_rfl) (Sp.Runs.pickF rfl rfl) ?_
          refine Sp.L.pure (by kernel_rfl) (Sp.Runs.move rfl) ?_
          refine Sp.L.pure (by kernel_rfl) (Sp.Runs.move rfl) ?_
          refine Sp.L.pure (by kernel_rfl) (Sp.Runs.move rfl) ?_
          refine Sp.L.pure (by kernel_rfl) (Sp.Runs.neBF Tryd.underlying4 rfl rfl (by decide)) ?_
          refine Sp.L.pure (by kernel_rfl) (Sp.Runs.pickF rfl rfl) ?_
          refine Sp.L.pure (by kernel_rfl) (Sp.Runs.move rfl) ?_
          refine Sp.L.pure (by kernel_rfl) (Sp.Runs.move rfl) ?_
          refine Sp.L.pure (by kernel_rfl) (Sp.Runs.move rfl) ?_
          refine Sp.L.pure (by kernel_rfl) (Sp.Runs.neSF rfl rfl (by first | rfl | assumption)) ?_
          refine Sp.L.pure (by kernel_rfl) (Sp.Runs.pickF rfl rfl) ?_
          refine Sp.L.pure (by kernel_rfl) (Sp.Runs.move rfl) ?_
          refine Sp.L.pure (by kernel_rfl) (Sp.Runs.move rfl) ?_
          refine Sp.L.pure (by kernel_rfl) (Sp.Runs.move rfl) ?_
          refine Sp.L.pure (by kernel_rfl) (Sp.Runs.neBF Tryd.underlying4 rfl rfl (by decide)) ?_
          refine Sp.L.pure (by kernel_rfl) (Sp.Runs.pickF rfl rfl) ?_
          refine Sp.L.pure (by kernel_rfl) (Sp.Runs.move rfl) ?_
          refine Sp.L.pure (by kernel_rfl) (Sp.Runs.move rfl) ?_
          refine Sp.L.pure (by kernel_rfl) (Sp.Runs.move rfl) ?_
          refine Sp.L.pure (by kernel_rfl) (Sp.Runs.neIF rfl rfl (by first | rfl | assumption | omega)) ?_
          refine Sp.L.pure (by kernel_rfl) (Sp.Runs.pickF rfl rfl) ?_
          refine Sp.L.pure (by kernel_rfl) (Sp.Runs.move rfl) ?_
          refine Sp.L.pure (by kernel_rfl) (Sp.Runs.move rfl) ?_
          refine Sp.L.pure (by kernel_rfl) (Sp.Runs.move rfl) ?_
          have CC := implAreCommands_any w13 word hw z2 HS.out
          rw [e6] at CC
          refine Sp.L.call (by kernel_rfl) (CC) rfl rfl (by kernel_rfl) ?_
          clear CC
          rintro e w14 ⟨rfl, b⟩
          replace B0 := Lib.hid (B0.out.trans (b.mono B0.out.size))
          replace B1 := Lib.hid (B1.out.trans (b.mono B1.out.size))
          replace HS := Lib.hid (HS.out.below b)
          replace HU := Lib.hid (HU.out.below b)
          replace HYa := Lib.hid (HYa.out.below b)
          replace HYb := Lib.hid (HYb.out.below b)
          clear b
          refine ⟨_, rfl, ?_⟩
          refine Sp.L.pure (by kernel_rfl) (Sp.Runs.neBF Tryd.underlying4 rfl rfl (by first | rfl | assumption)) ?_
          refine Sp.L.pure (by kernel_rfl) (Sp.Runs.pickF rfl rfl) ?_
          refine Sp.L.pure (by kernel_rfl) (Sp.Runs.move rfl) ?_
          refine Sp.L.pure (by kernel_rfl) (Sp.Runs.move rfl) ?_
          have CC := implAreCommands_any w14 word hw z2 HS.out
          rw [e6] at CC
          refine Sp.L.call (by kernel_rfl) (CC) rfl rfl (by kernel_rfl) ?_
          clear CC
          rintro e w15 ⟨rfl, b⟩
          replace B0 := Lib.hid (B0.out.trans (b.mono B0.out.size))
          replace B1 := Lib.hid (B1.out.trans (b.mono B1.out.size))
          replace HS := Lib.hid (HS.out.below b)
          replace HU := Lib.hid (HU.out.below b)
          replace HYa := Lib.hid (HYa.out.below b)
          replace HYb := Lib.hid (HYb.out.below b)
          clear b
          refine ⟨_, rfl, ?_⟩
          refine Sp.L.pure (by kernel_rfl) (Sp.Runs.move rfl) ?_
          have CC := specAreCommands_any w15 word hw z2
          rw [e6] at CC
          refine Sp.L.call (by kernel_rfl) (CC) rfl rfl (by kernel_rfl) ?_
          clear CC
          rintro e w16 ⟨rfl, b⟩
          replace B0 := Lib.hid (B0.out.trans (b.mono B0.out.size))
          replace B1 := Lib.hid (B1.out.trans (b.mono B1.out.size))
          replace HS := Lib.hid (HS.out.below b)
          replace HU := Lib.hid (HU.out.below b)
          replace HYa := Lib.hid (HYa.out.below b)
          replace HYb := Lib.hid (HYb.out.below b)
          clear b
          refine ⟨_, rfl, ?_⟩
          refine Sp.L.pure (by kernel_rfl) (Sp.Runs.neBF Tryd.underlying4 rfl rfl (by first | rfl | assumption)) ?_
          refine Sp.L.pure (by kernel_rfl) (Sp.Runs.pickF rfl rfl) ?_
          refine Sp.L.pure (by kernel_rfl) (Sp.Runs.move rfl) ?_
          refine Sp.L.pure (by kernel_rfl) (Sp.Runs.move rfl) ?_
          refine Sp.L.pure (by kernel_rfl) (Sp.Runs.move rfl) ?_
          refine Sp.L.pure (by kernel_rfl) (Sp.Runs.neBF Tryd.underlying4 rfl rfl (by decide)) ?_
          refine Sp.L.pure (by kernel_rfl) (Sp.Runs.pickF rfl rfl) ?_
          refine Sp.L.pure (by kernel_rfl) (Sp.Runs.move rfl) ?_
          refine Sp.L.pure (by kernel_rfl) (Sp.Runs.move rfl) ?_
          refine Sp.L.pure (by kernel_rfl) (Sp.Runs.move rfl) ?_
          refine Sp.L.pure (by kernel_rfl) (Sp.Runs.neBF Tryd.underlying4 rfl rfl (by decide)) ?_
          refine Sp.L.pure (by kernel_rfl) (Sp.Runs.pickF rfl rfl) ?_
          refine Sp.L.pure (by kernel_rfl) (Sp.Runs.move rfl) ?_
          refine Sp.L.pure (by kernel_rfl) (Sp.Runs.move rfl) ?_
          refine Sp.L.pure (by kernel_rfl) (Sp.Runs.move rfl) ?_
          refine Sp.L.pure (by kernel_rfl) (Sp.Runs.neBF Tryd.underlying4 rfl rfl (by decide)) ?_
          refine Sp.L.pure (by kernel_rfl) (Sp.Runs.pickF rfl rfl) ?_
          refine Sp.L.pure (by kernel_rfl) (Sp.Runs.move rfl) ?_
          refine Sp.L.pure (by kernel_rfl) (Sp.Runs.move rfl) ?_
          refine Sp.L.pure (by kernel_rfl) (Sp.Runs.move rfl) ?_
          refine Sp.L.pure (by kernel_rfl) (Sp.Runs.neBF Tryd.underlying4 rfl rfl (by decide)) ?_
          refine Sp.L.pure (by kernel_rfl) (Sp.Runs.pickF rfl rfl) ?_
          refine Sp.L.pure (by kernel_rfl) (Sp.Runs.move rfl) ?_
          refine Sp.L.pure (by kernel_rfl) (Sp.Runs.move rfl) ?_
          refine Sp.L.pure (by kernel_rfl) (Sp.Runs.move rfl) ?_
          refine Sp.L.pure (by kernel_rfl) (Sp.Runs.move rfl) ?_
          refine Sp.L.skip (by kernel_rfl) ?_
          refine Sp.L.skip (by kernel_rfl) ?_
          refine Sp.L.pure (by kernel_rfl) (Sp.Runs.pickF rfl rfl) ?_
          refine Sp.L.pure (by kernel_rfl) (Sp.Runs.neBF Tryd.underlying4 rfl rfl (by decide)) ?_
          refine Sp.L.pure (by kernel_rfl) (Sp.Runs.pickF rfl rfl) ?_
          refine Sp.L.pure (by kernel_rfl) (Sp.Runs.move rfl) ?_
          refine Sp.L.pure (by kernel_rfl) (Sp.Runs.move rfl) ?_
          have CC := implAreFacing_any w16 facing hf z1
          rw [e7] at CC
          refine Sp.L.call (by kernel_rfl) (CC) rfl rfl (by kernel_rfl) ?_
          clear CC
          rintro e w17 ⟨rfl, b⟩
          replace B0 := Lib.hid (B0.out.trans (b.mono B0.out.size))
          replace B1 := Lib.hid (B1.out.trans (b.mono B1.out.size))
          replace HS := Lib.hid (HS.out.below b)
          replace HU := Lib.hid (HU.out.below b)
          replace HYa := Lib.hid (HYa.out.below b)
          replace HYb := Lib.hid (HYb.out.below b)
          clear b
          refine ⟨_, rfl, ?_⟩
          refine Sp.L.pure (by kernel_rfl) (Sp.Runs.move rfl) ?_
          have CC := specAreFacing_any w17 facing hf z1
          rw [e7] at CC
          refine Sp.L.call (by kernel_rfl) (CC) rfl rfl (by kernel_rfl) ?_
          clear CC
          rintro e w18 ⟨rfl, b⟩
          replace B0 := Lib.hid (B0.out.trans (b.mono B0.out.size))
          replace B1 := Lib.hid (B1.out.trans (b.mono B1.out.size))
          replace HS := Lib.hid (HS.out.below b)
          replace HU := Lib.hid (HU.out.below b)
          replace HYa := Lib.hid (HYa.out.below b)
          replace HYb := Lib.hid (HYb.out.below b)
          clear b
          refine ⟨_, rfl, ?_⟩
          refine Sp.L.pure (by kernel_rfl) (Sp.Runs.neBF Tryd.underlying4 rfl rfl (by first | rfl | assumption)) ?_
          refine Sp.L.pure (by kernel_rfl) (Sp.Runs.pickF rfl rfl) ?_
          refine Sp.L.nil ?_
          refine hK19 _ _ (Sp.Cd.sub (S' := [(1, _), (5, _), (6, _), (7, _), (8, _), (11, _), (12, _), (15, _), (19, _), (23, _), (27, _), (262, _)]) ⟨rfl, rfl, rfl, rfl, rfl, rfl, rfl, rfl, rfl, rfl, rfl, rfl, trivial⟩ ?_)
          clear hK19 K19
          refine Sp.Cd.condF rfl ?_
          refine Sp.Cd.skip ?_
          refine Sp.Nx.post () ⟨rfl, rfl, rfl, rfl, rfl, rfl, rfl, rfl, rfl, rfl, rfl, trivial⟩ (B1.out)
        · have hok3 : ok = true := hok2
          clear hok2
          subst hok3
          refine Sp.Cd.seq fun K20 hK20 => ?_
          refine Sp.Cd.region ?_
          refine Sp.L.pure (by kernel_rfl) (Sp.Runs.move rfl) ?_
          refine Sp.L.pure (by kernel_rfl) (Sp.Runs.move rfl) ?_
          refine Sp.L.pure (by kernel_rfl) (Sp.Runs.neBF Tryd.underlying4 rfl rfl (by decide)) ?_
          refine Sp.L.pure (by kernel_rfl) (Sp.Runs.move rfl) ?_
          refine Sp.L.pure (by kernel_rfl) (Sp.Runs.move rfl) ?_
          refine Sp.L.pure (by kernel_rfl) (Sp.Runs.move rfl) ?_
          refine Sp.L.pure (by kernel_rfl) (Sp.Runs.neSF rfl rfl (by first | rfl | assumption)) ?_
          refine Sp.L.pure (by kernel_rfl) (Sp.Runs.pickF rfl rfl) ?_
          refine Sp.L.pure (by kernel_rfl) (Sp.Runs.move rfl) ?_
          refine Sp.L.pure (by kernel_rfl) (Sp.Runs.move rfl) ?_
          refine Sp.L.pure (by kernel_rfl) (Sp.Runs.move rfl) ?_
          refine Sp.L.pure (by kernel_rfl) (Sp.Runs.neBF Tryd.underlying4 rfl rfl (by decide)) ?_
          refine Sp.L.pure (by kernel_rfl) (Sp.Runs.pickF rfl rfl) ?_
          refine Sp.L.pure (by kernel_rfl) (Sp.Runs.move rfl) ?_
          refine Sp.L.pure (by kernel_rfl) (Sp.Runs.move rfl) ?_
          refine Sp.L.pure (by kernel_rfl) (Sp.Runs.move rfl) ?_
          refine Sp.L.pure (by kernel_rfl) (Sp.Runs.neIF rfl rfl (by first | rfl | assumption | omega)) ?_
          refine Sp.L.pure (by kernel_rfl) (Sp.Runs.pickF rfl rfl) ?_
          refine Sp.L.pure (by kernel_rfl) (Sp.Runs.move rfl) ?_
          refine Sp.L.pure (by kernel_rfl) (Sp.Runs.move rfl) ?_
          refine Sp.L.pure (by kernel_rfl) (Sp.Runs.move rfl) ?_
          refine Sp.L.pure (by kernel_rfl) (Sp.Runs.neBF Tryd.underlying4 rfl rfl (by decide)) ?_
          refine Sp.L.pure (by kernel_rfl) (Sp.Runs.pickF rfl rfl) ?_
          refine Sp.L.pure (by kernel_rfl) (Sp.Runs.move rfl) ?_
          refine Sp.L.pure (by kernel_rfl) (Sp.Runs.move rfl) ?_
          refine Sp.L.pure (by kernel_rfl) (Sp.Runs.move rfl) ?_
          refine Sp.L.pure (by kernel_rfl) (Sp.Runs.neSF rfl rfl (by first | rfl | assumption)) ?_
          refine Sp.L.pure (by kernel_rfl) (Sp.Runs.pickF rfl rfl) ?_
          refine Sp.L.pure (by kernel_rfl) (Sp.Runs.move rfl) ?_
          refine Sp.L.pure (by kernel_rfl) (Sp.Runs.move rfl) ?_
          refine Sp.L.pure (by kernel_rfl) (Sp.Runs.move rfl) ?_
          refine Sp.L.pure (by kernel_rfl) (Sp.Runs.neBF Tryd.underlying4 rfl rfl (by decide)) ?_
          refine Sp.L.pure (by kernel_rfl) (Sp.Runs.pickF rfl rfl) ?_
          refine Sp.L.pure (by kernel_rfl) (Sp.Runs.move rfl) ?_
          refine Sp.L.pure (by kernel_rfl) (Sp.Runs.move rfl) ?_
          refine Sp.L.pure (by kernel_rfl) (Sp.Runs.move rfl) ?_
          refine Sp.L.pure (by kernel_rfl) (Sp.Runs.neSF rfl rfl (by first | rfl | assumption)) ?_
          refine Sp.L.pure (by kernel_rfl) (Sp.Runs.pickF rfl rfl) ?_
          refine Sp.L.pure (by kernel_rfl) (Sp.Runs.move rfl) ?_
          refine Sp.L.pure (by kernel_rfl) (Sp.Runs.move rfl) ?_
          refine Sp.L.pure (by kernel_rfl) (Sp.Runs.move rfl) ?_
          refine Sp.L.pure (by kernel_rfl) (Sp.Runs.neBF Tryd.underlying4 rfl rfl (by decide)) ?_
          refine Sp.L.pure (by kernel_rfl) (Sp.Runs.pickF rfl rfl) ?_
          refine Sp.L.pure (by kernel_rfl) (Sp.Runs.move rfl) ?_
          refine Sp.L.pure (by kernel_rfl) (Sp.Runs.move rfl) ?_
          refine Sp.L.pure (by kernel_rfl) (Sp.Runs.move rfl) ?_
          refine Sp.L.pure (by kernel_rfl) (Sp.Runs.neSF rfl rfl (by first | rfl | assumption)) ?_
          refine Sp.L.pure (by kernel_rfl) (Sp.Runs.pickF rfl rfl) ?_
          refine Sp.L.pure (by kernel_rfl) (Sp.Runs.move rfl) ?_
          refine Sp.L.pure (by kernel_rfl) (Sp.Runs.move rfl) ?_
          refine Sp.L.pure (by kernel_rfl) (Sp.Runs.move rfl) ?_
          refine Sp.L.pure (by kernel_rfl) (Sp.Runs.neBF Tryd.underlying4 rfl rfl (by decide)) ?_
          refine Sp.L.pure (by kernel_rfl) (Sp.Runs.pickF rfl rfl) ?_
          refine Sp.L.pure (by kernel_rfl) (Sp.Runs.move rfl) ?_
          refine Sp.L.pure (by kernel_rfl) (Sp.Runs.move rfl) ?_
          refine Sp.L.pure (by kernel_rfl) (Sp.Runs.move rfl) ?_
          refine Sp.L.pure (by kernel_rfl) (Sp.Runs.neIF rfl rfl (by first | rfl | assumption | omega)) ?_
          refine Sp.L.pure (by kernel_rfl) (Sp.Runs.pickF rfl rfl) ?_
          refine Sp.L.pure (by kernel_rfl) (Sp.Runs.move rfl) ?_
          refine Sp.L.pure (by kernel_rfl) (Sp.Runs.move rfl) ?_
          refine Sp.L.pure (by kernel_rfl) (Sp.Runs.move rfl) ?_
          have CC := implAreCommands_any w13 word hw z2 HS.out
          rw [e6] at CC
          refine Sp.L.call (by kernel_rfl) (CC) rfl rfl (by kernel_rfl) ?_
          clear CC
          rintro e w14 ⟨rfl, b⟩
          replace B0 := Lib.hid (B0.out.trans (b.mono B0.out.size))
          replace B1 := Lib.hid (B1.out.trans (b.mono B1.out.size))
          replace HS := Lib.hid (HS.out.below b)
          replace HU := Lib.hid (HU.out.below b)
          replace HYa := Lib.hid (HYa.out.below b)
          replace HYb := Lib.hid (HYb.out.below b)
          clear b
          refine ⟨_, rfl, ?_⟩
          refine Sp.L.pure (by kernel_rfl) (Sp.Runs.neBF Tryd.underlying4 rfl rfl (by first | rfl | assumption)) ?_
          refine Sp.L.pure (by kernel_rfl) (Sp.Runs.pickF rfl rfl) ?_
          refine Sp.L.pure (by kernel_rfl) (Sp.Runs.move rfl) ?_
          refine Sp.L.pure (by kernel_rfl) (Sp.Runs.move rfl) ?_
          have CC := implAreCommands_any w14 word hw z2 HS.out
          rw [e6] at CC
          refine Sp.L.call (by kernel_rfl) (CC) rfl rfl (by kernel_rfl) ?_
          clear CC
          rintro e w15 ⟨rfl, b⟩
          replace B0 := Lib.hid (B0.out.trans (b.mono B0.out.size))
          replace B1 := Lib.hid (B1.out.trans (b.mono B1.out.size))
          replace HS := Lib.hid (HS.out.below b)
          replace HU := Lib.hid (HU.out.below b)
          replace HYa := Lib.hid (HYa.out.below b)
          replace HYb := Lib.hid (HYb.out.below b)
          clear b
          refine ⟨_, rfl, ?_⟩
          refine Sp.L.pure (by kernel_rfl) (Sp.Runs.move rfl) ?_
          have CC := specAreCommands_any w15 word hw z2
          rw [e6] at CC
          refine Sp.L.call (by kernel_rfl) (CC) rfl rfl (by kernel_rfl) ?_
          clear CC
          rintro e w16 ⟨rfl, b⟩
          replace B0 := Lib.hid (B0.out.trans (b.mono B0.out.size))
          replace B1 := Lib.hid (B1.out.trans (b.mono B1.out.size))
          replace HS := Lib.hid (HS.out.below b)
          replace HU := Lib.hid (HU.out.below b)
          replace HYa := Lib.hid (HYa.out.below b)
          replace HYb := Lib.hid (HYb.out.below b)
          clear b
          refine ⟨_, rfl, ?_⟩
          refine Sp.L.pure (by kernel_rfl) (Sp.Runs.neBF Tryd.underlying4 rfl rfl (by first | rfl | assumption)) ?_
          refine Sp.L.pure (by kernel_rfl) (Sp.Runs.pickF rfl rfl) ?_
          refine Sp.L.pure (by kernel_rfl) (Sp.Runs.move rfl) ?_
          refine Sp.L.pure (by kernel_rfl) (Sp.Runs.move rfl) ?_
          refine Sp.L.pure (by kernel_rfl) (Sp.Runs.move rfl) ?_
          refine Sp.L.pure (by kernel_rfl) (Sp.Runs.neBF Tryd.underlying4 rfl rfl (by decide)) ?_
          refine Sp.L.pure (by kernel_rfl) (Sp.Runs.pickF rfl rfl) ?_
          refine Sp.L.pure (by kernel_rfl) (Sp.Runs.move rfl) ?_
          refine Sp.L.pure (by kernel_rfl) (Sp.Runs.move rfl) ?_
          refine Sp.L.pure (by kernel_rfl) (Sp.Runs.move rfl) ?_
          refine Sp.L.pure (by kernel_rfl) (Sp.Runs.neBF Tryd.underlying4 rfl rfl (by decide)) ?_
          refine Sp.L.pure (by kernel_rfl) (Sp.Runs.pickF rfl rfl) ?_
          refine Sp.L.pure (by kernel_rfl) (Sp.Runs.move rfl) ?_
          refine Sp.L.pure (by kernel_rfl) (Sp.Runs.move rfl) ?_
          refine Sp.L.pure (by kernel_rfl) (Sp.Runs.move rfl) ?_
          refine Sp.L.pure (by kernel_rfl) (Sp.Runs.neBF Tryd.underlying4 rfl rfl (by decide)) ?_
          refine Sp.L.pure (by kernel_rfl) (Sp.Runs.pickF rfl rfl) ?_
          refine Sp.L.pure (by kernel_rfl) (Sp.Runs.move rfl) ?_
          refine Sp.L.pure (by kernel_rfl) (Sp.Runs.move rfl) ?_
          refine Sp.L.pure (by kernel_rfl) (Sp.Runs.move rfl) ?_
          refine Sp.L.pure (by kernel_rfl) (Sp.Runs.neBF Tryd.underlying4 rfl rfl (by decide)) ?_
          refine Sp.L.pure (by kernel_rfl) (Sp.Runs.pickF rfl rfl) ?_
          refine Sp.L.pure (by kernel_rfl) (Sp.Runs.move rfl) ?_
          refine Sp.L.pure (by kernel_rfl) (Sp.Runs.move rfl) ?_
          refine Sp.L.pure (by kernel_rfl) (Sp.Runs.move rfl) ?_
          refine Sp.L.pure (by kernel_rfl) (Sp.Runs.move rfl) ?_
          refine Sp.L.pure (by kernel_rfl) (Sp.Runs.move rfl) ?_
          have CC := implAreFacing_any w16 facing hf z1
          rw [e7] at CC
          refine Sp.L.call (by kernel_rfl) (CC) rfl rfl (by kernel_rfl) ?_
          clear CC
          rintro e w17 ⟨rfl, b⟩
          replace B0 := Lib.hid (B0.out.trans (b.mono B0.out.size))
          replace B1 := Lib.hid (B1.out.trans (b.mono B1.out.size))
          replace HS := Lib.hid (HS.out.below b)
          replace HU := Lib.hid (HU.out.below b)
          replace HYa := Lib.hid (HYa.out.below b)
          replace HYb := Lib.hid (HYb.out.below b)
          clear b
          refine ⟨_, rfl, ?_⟩
          refine Sp.L.pure (by kernel_rfl) (Sp.Runs.pickT rfl rfl) ?_
          refine Sp.L.pure (by kernel_rfl) (Sp.Runs.neBF Tryd.underlying4 rfl rfl (by first | rfl | assumption)) ?_
          refine Sp.L.pure (by kernel_rfl) (Sp.Runs.pickF rfl rfl) ?_
          refine Sp.L.pure (by kernel_rfl) (Sp.Runs.move rfl) ?_
          refine Sp.L.pure (by kernel_rfl) (Sp.Runs.move rfl) ?_
          have CC := implAreFacing_any w17 facing hf z1
          rw [e7] at CC
          refine Sp.L.call (by kernel_rfl) (CC) rfl rfl (by kernel_rfl) ?_
          clear CC
          rintro e w18 ⟨rfl, b⟩
          replace B0 := Lib.hid (B0.out.trans (b.mono B0.out.size))
          replace B1 := Lib.hid (B1.out.trans (b.mono B1.out.size))
          replace HS := Lib.hid (HS.out.below b)
          replace HU := Lib.hid (HU.out.below b)
          replace HYa := Lib.hid (HYa.out.below b)
          replace HYb := Lib.hid (HYb.out.below b)
          clear b
          refine ⟨_, rfl, ?_⟩
          refine Sp.L.pure (by kernel_rfl) (Sp.Runs.move rfl) ?_
          have CC := specAreFacing_any w18 facing hf z1
          rw [e7] at CC
          refine Sp.L.call (by kernel_rfl) (CC) rfl rfl (by kernel_rfl) ?_
          clear CC
          rintro e w19 ⟨rfl, b⟩
          replace B0 := Lib.hid (B0.out.trans (b.mono B0.out.size))
          replace B1 := Lib.hid (B1.out.trans (b.mono B1.out.size))
          replace HS := Lib.hid (HS.out.below b)
          replace HU := Lib.hid (HU.out.below b)
          replace HYa := Lib.hid (HYa.out.below b)
          replace HYb := Lib.hid (HYb.out.below b)
          clear b
          refine ⟨_, rfl, ?_⟩
          refine Sp.L.pure (by kernel_rfl) (Sp.Runs.neBF Tryd.underlying4 rfl rfl (by first | rfl | assumption)) ?_
          refine Sp.L.pure (by kernel_rfl) (Sp.Runs.pickF rfl rfl) ?_
          refine Sp.L.nil ?_
          refine hK20 _ _ (Sp.Cd.sub (S' := [(1, _), (5, _), (6, _), (7, _), (8, _), (11, _), (12, _), (15, _), (19, _), (23, _), (27, _), (262, _)]) ⟨rfl, rfl, rfl, rfl, rfl, rfl, rfl, rfl, rfl, rfl, rfl, rfl, trivial⟩ ?_)
          clear hK20 K20
          refine Sp.Cd.condF rfl ?_
          refine Sp.Cd.skip ?_
          refine Sp.Nx.post () ⟨rfl, rfl, rfl, rfl, rfl, rfl, rfl, rfl, rfl, rfl, rfl, trivial⟩ (B1.out)
    · intro w14 b
      replace B0 := Lib.hid (B0.out.trans (b.mono B0.out.size))
      replace HS := Lib.hid (HS.out.below b)
      replace HU := Lib.hid (HU.out.below b)
      replace HYa := Lib.hid (HYa.out.below b)
      replace HYb := Lib.hid (HYb.out.below b)
      clear b
      refine Sp.Cd.cutK [(1, _), (5, _), (7, _), (8, _), (11, _), (15, _), (19, _)] ⟨rfl, rfl, rfl, rfl, rfl, rfl, rfl, trivial⟩ ?_ ?_
      · have B1 : Hid (Below w14.heap.size w14 w14) := Lib.hid (Below.refl _ _)
        rcases wb with _ | _
        · refine Sp.Cd.seq fun K21 hK21 => ?_
          refine Sp.Cd.region ?_
          refine Sp.L.pure (by kernel_rfl) (Sp.Runs.move rfl) ?_
          refine Sp.L.nil ?_
          refine hK21 _ _ (Sp.Cd.sub (S' := [(1, _), (5, _), (6, _), (7, _), (8, _), (11, _), (15, _), (19, _), (23, _), (27, _), (263, _)]) ⟨rfl, rfl, rfl, rfl, rfl, rfl, rfl, rfl, rfl, rfl, rfl, trivial⟩ ?_)
          clear hK21 K21
          refine Sp.Cd.condF rfl ?_
          refine Sp.Cd.skip ?_
          refine Sp.Nx.post () ⟨rfl, rfl, rfl, rfl, rfl, rfl, rfl, trivial⟩ (B1.out)
        · have X := WF rfl
          obtain ⟨ts, hts⟩ : ∃ x, x = tsOf word := ⟨_, rfl⟩
          rw [← hts] at X
          have q1 := X.net0
          have q2 := X.short0
          have q3 := X.mir0
          have q4 := X.bak0
          have q5 := X.rep0
          rw [← htn] at q1
          rw [← hsh] at q2
          rw [← hmi] at q3
          rw [← hbk] at q4
          rw [← htm] at q5
          have n4 := net_lt ts
          have n5 := net_other X.lt
          have hsz : sh.size ≤ 60 := by rw [q2, size_word]; exact X.sho.len
          have bsz : bk.size = word.size := by rw [q4, X.eq, size_word, size_word, List.length_reverse, List.length_map]
          have msz : mi.size = word.size := by rw [q3, X.eq, size_word, size_word, List.length_map]
          have wsz : word.size ≤ 60 := by rw [X.eq, size_word]; exact X.len
          have ml : maxLen = 9223372036854775807 := rfl
          have p1 : outNetTurn_0 sh = tn := by rw [q2, X.sho.net0, net_short, q1]
          have p1b : outNetTurn_1 sh = true := by rw [q2]; exact X.sho.good
          have p2 : outNetTurn_0 bk = (net (ts.map other) : Nat) := by rw [q4, X.bak.net0, net_rev]
          have p2b : outNetTurn_1 bk = true := by rw [q4]; exact X.bak.good
          have p3 : outNetTurn_0 mi = (net (ts.map other) : Nat) := by rw [q3, X.mir.net0]
          have p3b : outNetTurn_1 mi = true := by rw [q3]; exact X.mir.good
          have p4 : outMirrorCommands_0 mi = word := by rw [q3, X.mir.mir0, map_other2 ts X.lt]; exact X.eq.symm
          have p4b : outMirrorCommands_1 mi = true := by rw [q3]; exact X.mir.good
          have p5 : outBackCommands_0 bk = word := by rw [q4, X.bak.bak0, bak_bak X.lt]; exact X.eq.symm
          have p5b : outBackCommands_1 bk = true := by rw [q4]; exact X.bak.good
          have hsh1 : sh.size ≤ 1 := by rw [q2, size_word]; unfold shortL; split <;> simp
          have htb1 : 1 ≤ tm ∧ tm ≤ 4 ∧ (tm * tn) % 4 = 0 ∧ tm * tn ≤ 16 ∧ 0 ≤ tm * tn := by rw [q5, q1]; rcases (by omega : net ts = 0 ∨ net ts = 1 ∨ net ts = 2 ∨ net ts = 3) with e | e | e | e <;> rw [e] <;> decide
          have q1b : 0 ≤ tn ∧ tn ≤ 3 := by rw [q1]; omega
          have n6 : ((net (ts.map other) : Nat) : Int) < 4 := by have := net_lt (ts.map other); omega
          refine Sp.Cd.seq fun K22 hK22 => ?_
          refine Sp.Cd.region ?_
          refine Sp.L.pure (by kernel_rfl) (Sp.Runs.move rfl) ?_
          refine Sp.L.nil ?_
          refine hK22 _ _ (Sp.Cd.sub (S' := [(1, _), (5, _), (6, _), (7, _), (8, _), (11, _), (15, _), (19, _), (23, _), (27, _), (263, _)]) ⟨rfl, rfl, rfl, rfl, rfl, rfl, rfl, rfl, rfl, rfl, rfl, trivial⟩ ?_)
          clear hK22 K22
          refine Sp.Cd.condT rfl ?_
          refine Sp.Cd.seq fun K23 hK23 => ?_
          refine Sp.Cd.region ?_
          refine Sp.L.pure (by kernel_rfl) (Sp.Runs.move rfl) ?_
          have CC := implNetTurn_any w14 sh (by omega) (by omega) HS.out
          rw [p1, p1b] at CC
          refine Sp.L.call (by kernel_rfl) (CC) rfl rfl (by kernel_rfl) ?_
          clear CC
          rintro e w15 ⟨rfl, b⟩
          replace B0 := Lib.hid (B0.out.trans (b.mono B0.out.size))
          replace B1 := Lib.hid (B1.out.trans (b.mono B1.out.size))
          replace HS := Lib.hid (HS.out.below b)
          replace HU := Lib.hid (HU.out.below b)
          replace HYa := Lib.hid (HYa.out.below b)
          replace HYb := Lib.hid (HYb.out.below b)
          clear b
          refine ⟨_, rfl, ?_⟩
          refine Sp.L.pure (by kernel_rfl) (Sp.Runs.move rfl) ?_
          refine Sp.L.pure (by kernel_rfl) (Sp.Runs.extract rfl rfl) ?_
          refine Sp.L.pure (by kernel_rfl) (Sp.Runs.extract rfl rfl) ?_
          refine Sp.L.pure (by kernel_rfl) (Sp.Runs.assign rfl) ?_
          refine Sp.L.pure (by kernel_rfl) (Sp.Runs.assign rfl) ?_
          refine Sp.L.nil ?_
          refine hK23 _ _ (Sp.Cd.sub (S' := [(1, _), (5, _), (6, _), (7, _), (8, _), (11, _), (15, _), (19, _), (23, _), (27, _), (31, _), (32, _)]) ⟨rfl, rfl, rfl, rfl, rfl, rfl, rfl, rfl, rfl, rfl, rfl, rfl, trivial⟩ ?_)
          clear hK23 K23
          refine Sp.Cd.seq fun K24 hK24 => ?_
          refine Sp.Cd.region ?_
          refine Sp.L.pure (by kernel_rfl) (Sp.Runs.move rfl) ?_
          have CC := implNetTurn_any w15 bk (by omega) (by omega) HS.out
          rw [p2, p2b] at CC
          refine Sp.L.call (by kernel_rfl) (CC) rfl rfl (by kernel_rfl) ?_
          clear CC
          rintro e w16 ⟨rfl, b⟩
          replace B0 := Lib.hid (B0.out.trans (b.mono B0.out.size))
          replace B1 := Lib.hid (B1.out.trans (b.mono B1.out.size))
          replace HS := Lib.hid (HS.out.below b)
          replace HU := Lib.hid (HU.out.below b)
          replace HYa := Lib.hid (HYa.out.below b)
          replace HYb := Lib.hid (HYb.out.below b)
          clear b
          refine ⟨_, rfl, ?_⟩
          refine Sp.L.pure (by kernel_rfl) (Sp.Runs.move rfl) ?_
          refine Sp.L.pure (by kernel_rfl) (Sp.Runs.extract rfl rfl) ?_
          refine Sp.L.pure (by kernel_rfl) (Sp.Runs.extract rfl rfl) ?_
          refine Sp.L.pure (by kernel_rfl) (Sp.Runs.assign rfl) ?_
          refine Sp.L.pure (by kernel_rfl) (Sp.Runs.assign rfl) ?_
          refine Sp.L.nil ?_
          refine hK24 _ _ (Sp.Cd.sub (S' := [(1, _), (5, _), (6, _), (7, _), (8, _), (11, _), (15, _), (19, _), (23, _), (27, _), (31, _), (32, _), (33, _), (34, _)]) ⟨rfl, rfl, rfl, rfl, rfl, rfl, rfl, rfl, rfl, rfl, rfl, rfl, rfl, rfl, trivial⟩ ?_)
          clear hK24 K24
          refine Sp.Cd.seq fun K25 hK25 => ?_
          refine Sp.Cd.region ?_
          refine Sp.L.pure (by kernel_rfl) (Sp.Runs.move rfl) ?_
          have CC := implNetTurn_any w16 mi (by omega) (by omega) HS.out
          rw [p3, p3b] at CC
          refine Sp.L.call (by kernel_rfl) (CC) rfl rfl (by kernel_rfl) ?_
          clear CC
          rintro e w17 ⟨rfl, b⟩
          replace B0 := Lib.hid (B0.out.trans (b.mono B0.out.size))
          replace B1 := Lib.hid (B1.out.trans (b.mono B1.out.size))
          replace HS := Lib.hid (HS.out.below b)
          replace HU := Lib.hid (HU.out.below b)
          replace HYa := Lib.hid (HYa.out.below b)
          replace HYb := Lib.hid (HYb.out.below b)
          clear b
          refine ⟨_, rfl, ?_⟩
          refine Sp.L.pure (by kernel_rfl) (Sp.Runs.move rfl) ?_
          refine Sp.L.pure (by kernel_rfl) (Sp.Runs.extract rfl rfl) ?_
          refine Sp.L.pure (by kernel_rfl) (Sp.Runs.extract rfl rfl) ?_
          refine Sp.L.pure (by kernel_rfl) (Sp.Runs.assign rfl) ?_
          refine Sp.L.pure (by kernel_rfl) (Sp.Runs.assign rfl) ?_
          refine Sp.L.nil ?_
          refine hK25 _ _ (Sp.Cd.sub (S' := [(1, _), (5, _), (6, _), (7, _), (8, _), (11, _), (15, _), (19, _), (23, _), (27, _), (31, _), (32, _), (33, _), (34, _), (35, _), (36, _)]) ⟨rfl, rfl, rfl, rfl, rfl, rfl, rfl, rfl, rfl, rfl, rfl, rfl, rfl, rfl, rfl, rfl, trivial⟩ ?_)
          clear hK25 K25
          refine Sp.Cd.seq fun K26 hK26 => ?_
          refine Sp.Cd.region ?_
          refine Sp.L.pure (by kernel_rfl) (Sp.Runs.move rfl) ?_
          have CC := implMirrorCommands_any w17 mi (by omega) (by omega) HS.out
          rw [p4, p4b] at CC
          refine Sp.L.call (by kernel_rfl) (CC) rfl rfl (by kernel_rfl) ?_
          clear CC
          rintro e w18 ⟨rfl, b⟩
          replace B0 := Lib.hid (B0.out.trans (b.mono B0.out.size))
          replace B1 := Lib.hid (B1.out.trans (b.mono B1.out.size))
          replace HS := Lib.hid (HS.out.below b)
          replace HU := Lib.hid (HU.out.below b)
          replace HYa := Lib.hid (HYa.out.below b)
          replace HYb := Lib.hid (HYb.out.below b)
          clear b
          refine ⟨_, rfl, ?_⟩
          refine Sp.L.pure (by kernel_rfl) (Sp.Runs.move rfl) ?_
          refine Sp.L.pure (by kernel_rfl) (Sp.Runs.extract rfl rfl) ?_
          refine Sp.L.pure (by kernel_rfl) (Sp.Runs.extract rfl rfl) ?_
          refine Sp.L.pure (by kernel_rfl) (Sp.Runs.assign rfl) ?_
          refine Sp.L.pure (by kernel_rfl) (Sp.Runs.assign rfl) ?_
          refine Sp.L.nil ?_
          refine hK26 _ _ (Sp.Cd.sub (S' := [(1, _), (5, _), (6, _), (7, _), (8, _), (11, _), (15, _), (19, _), (27, _), (31, _), (32, _), (33, _), (34, _), (35, _), (36, _), (37, _), (38, _)]) ⟨rfl, rfl, rfl, rfl, rfl, rfl, rfl, rfl, rfl, rfl, rfl, rfl, rfl, rfl, rfl, rfl, rfl, trivial⟩ ?_)
          clear hK26 K26
          refine Sp.Cd.seq fun K27 hK27 => ?_
          refine Sp.Cd.region ?_
          refine Sp.L.pure (by kernel_rfl) (Sp.Runs.move rfl) ?_
          have CC := implBackCommands_any w18 bk (by omega) (by omega) HS.out
          rw [p5, p5b] at CC
          refine Sp.L.call (by kernel_rfl) (CC) rfl rfl (by kernel_rfl) ?_
          clear CC
          rintro e w19 ⟨rfl, b⟩
          replace B0 := Lib.hid (B0.out.trans (b.mono B0.out.size))
          replace B1 := Lib.hid (B1.out.trans (b.mono B1.out.size))
          replace HS := Lib.hid (HS.out.below b)
          replace HU := Lib.hid (HU.out.below b)
          replace HYa := Lib.hid (HYa.out.below b)
          replace HYb := Lib.hid (HYb.out.below b)
          clear b
          refine ⟨_, rfl, ?_⟩
          refine Sp.L.pure (by kernel_rfl) (Sp.Runs.move rfl) ?_
          refine Sp.L.pure (by kernel_rfl) (Sp.Runs.extract rfl rfl) ?_
          refine Sp.L.pure (by kernel_rfl) (Sp.Runs.extract rfl rfl) ?_
          refine Sp.L.pure (by kernel_rfl) (Sp.Runs.assign rfl) ?_
          refine Sp.L.pure (by kernel_rfl) (Sp.Runs.assign rfl) ?_
          refine Sp.L.nil ?_
          refine hK27 _ _ (Sp.Cd.sub (S' := [(1, _), (5, _), (6, _), (7, _), (8, _), (11, _), (15, _), (19, _), (27, _), (31, _), (32, _), (33, _), (34, _), (35, _), (36, _), (37, _), (38, _), (39, _), (40, _)]) ⟨rfl, rfl, rfl, rfl, rfl, rfl, rfl, rfl, rfl, rfl, rfl, rfl, rfl, rfl, rfl, rfl, rfl, rfl, rfl, trivial⟩ ?_)
          clear hK27 K27
          refine Sp.Cd.seq fun K28 hK28 => ?_
          refine Sp.Cd.region ?_
          refine Sp.L.pure (by kernel_rfl) (Sp.Runs.move rfl) ?_
          refine Sp.L.pure (by kernel_rfl) (Sp.Runs.ltIF rfl rfl (by first | rfl | assumption | omega)) ?_
          refine Sp.L.pure (by kernel_rfl) (Sp.Runs.move rfl) ?_
          refine Sp.L.pure (by kernel_rfl) (Sp.Runs.move rfl) ?_
          refine Sp.L.pure (by kernel_rfl) (Sp.Runs.gtIF rfl rfl (by first | rfl | assumption | omega)) ?_
          refine Sp.L.pure (by kernel_rfl) (Sp.Runs.pickF rfl rfl) ?_
          refine Sp.L.pure (by kernel_rfl) (Sp.Runs.move rfl) ?_
          refine Sp.L.pure (by kernel_rfl) (Sp.Runs.move rfl) ?_
          refine Sp.L.pure (by kernel_rfl) (Sp.Runs.lenS Tryd.underlying9 rfl) ?_
          refine Sp.L.pure (by kernel_rfl) (Sp.Runs.gtIF rfl rfl (by first | rfl | assumption | omega)) ?_
          refine Sp.L.pure (by kernel_rfl) (Sp.Runs.pickF rfl rfl) ?_
          refine Sp.L.pure (by kernel_rfl) (Sp.Runs.move rfl) ?_
          refine Sp.L.pure (by kernel_rfl) (Sp.Runs.move rfl) ?_
          refine Sp.L.pure (by kernel_rfl) (Sp.Runs.notF rfl) ?_
          refine Sp.L.pure (by kernel_rfl) (Sp.Runs.pickF rfl rfl) ?_
          refine Sp.L.pure (by kernel_rfl) (Sp.Runs.move rfl) ?_
          refine Sp.L.pure (by kernel_rfl) (Sp.Runs.move rfl) ?_
          refine Sp.L.pure (by kernel_rfl) (Sp.Runs.move rfl) ?_
          refine Sp.L.pure (by kernel_rfl) (Sp.Runs.neIF rfl rfl (by first | rfl | assumption | omega)) ?_
          refine Sp.L.pure (by kernel_rfl) (Sp.Runs.pickF rfl rfl) ?_
          refine Sp.L.pure (by kernel_rfl) (Sp.Runs.move rfl) ?_
          refine Sp.L.pure (by kernel_rfl) (Sp.Runs.move rfl) ?_
          refine Sp.L.pure (by kernel_rfl) (Sp.Runs.notF rfl) ?_
          refine Sp.L.pure (by kernel_rfl) (Sp.Runs.pickF rfl rfl) ?_
          refine Sp.L.pure (by kernel_rfl) (Sp.Runs.move rfl) ?_
          refine Sp.L.pure (by kernel_rfl) (Sp.Runs.move rfl) ?_
          refine Sp.L.pure (by kernel_rfl) (Sp.Runs.move rfl) ?_
          refine Sp.L.pure (by kernel_rfl) (Sp.Runs.addI rfl rfl (Sp.wrapI (by omega) (by omega))) ?_
          refine Sp.L.pure (by kernel_rfl) (Sp.Runs.remI rfl rfl (by decide) (Sp.tmod_nn (by omega))) ?_
          refine Sp.L.pure (by kernel_rfl) (Sp.Runs.neIF rfl rfl (by first | rfl | assumption | omega)) ?_
          refine Sp.L.pure (by kernel_rfl) (Sp.Runs.pickF rfl rfl) ?_
          refine Sp.L.pure (by kernel_rfl) (Sp.Runs.move rfl) ?_
          refine Sp.L.pure (by kernel_rfl) (Sp.Runs.move rfl) ?_
          refine Sp.L.pure (by kernel_rfl) (Sp.Runs.notF rfl) ?_
          refine Sp.L.pure (by kernel_rfl) (Sp.Runs.pickF rfl rfl) ?_
          refine Sp.L.pure (by kernel_rfl) (Sp.Runs.move rfl) ?_
          refine Sp.L.pure (by kernel_rfl) (Sp.Runs.move rfl) ?_
          refine Sp.L.pure (by kernel_rfl) (Sp.Runs.move rfl) ?_
          refine Sp.L.pure (by kernel_rfl) (Sp.Runs.neIF rfl rfl (by first | rfl | assumption | omega)) ?_
          refine Sp.L.pure (by kernel_rfl) (Sp.Runs.pickF rfl rfl) ?_
          refine Sp.L.pure (by kernel_rfl) (Sp.Runs.move rfl) ?_
          refine Sp.L.pure (by kernel_rfl) (Sp.Runs.move rfl) ?_
          refine Sp.L.pure (by kernel_rfl) (Sp.Runs.notF rfl) ?_
          refine Sp.L.pure (by kernel_rfl) (Sp.Runs.pickF rfl rfl) ?_
          refine Sp.L.pure (by kernel_rfl) (Sp.Runs.move rfl) ?_
          refine Sp.L.pure (by kernel_rfl) (Sp.Runs.move rfl) ?_
          refine Sp.L.pure (by kernel_rfl) (Sp.Runs.move rfl) ?_
          refine Sp.L.pure (by kernel_rfl) (Sp.Runs.neSF rfl rfl (by first | rfl | assumption)) ?_
          refine Sp.L.pure (by kernel_rfl) (Sp.Runs.pickF rfl rfl) ?_
          refine Sp.L.pure (by kernel_rfl) (Sp.Runs.move rfl) ?_
          refine Sp.L.pure (by kernel_rfl) (Sp.Runs.move rfl) ?_
          refine Sp.L.pure (by kernel_rfl) (Sp.Runs.notF rfl) ?_
          refine Sp.L.pure (by kernel_rfl) (Sp.Runs.pickF rfl rfl) ?_
          refine Sp.L.pure (by kernel_rfl) (Sp.Runs.move rfl) ?_
          refine Sp.L.pure (by kernel_rfl) (Sp.Runs.move rfl) ?_
          refine Sp.L.pure (by kernel_rfl) (Sp.Runs.move rfl) ?_
          refine Sp.L.pure (by kernel_rfl) (Sp.Runs.neSF rfl rfl (by first | rfl | assumption)) ?_
          refine Sp.L.pure (by kernel_rfl) (Sp.Runs.pickF rfl rfl) ?_
          refine Sp.L.pure (by kernel_rfl) (Sp.Runs.move rfl) ?_
          refine Sp.L.pure (by kernel_rfl) (Sp.Runs.move rfl) ?_
          refine Sp.L.pure (by kernel_rfl) (Sp.Runs.lenS Tryd.underlying9 rfl) ?_
          refine Sp.L.pure (by kernel_rfl) (Sp.Runs.move rfl) ?_
          refine Sp.L.pure (by kernel_rfl) (Sp.Runs.lenS Tryd.underlying9 rfl) ?_
          refine Sp.L.pure (by kernel_rfl) (Sp.Runs.neIF rfl rfl (congrArg (fun n : Nat => (n : Int)) bsz)) ?_
          refine Sp.L.pure (by kernel_rfl) (Sp.Runs.pickF rfl rfl) ?_
          refine Sp.L.pure (by kernel_rfl) (Sp.Runs.move rfl) ?_
          refine Sp.L.pure (by kernel_rfl) (Sp.Runs.move rfl) ?_
          refine Sp.L.pure (by kernel_rfl) (Sp.Runs.ltIF rfl rfl (by first | rfl | assumption | omega)) ?_
          refine Sp.L.pure (by kernel_rfl) (Sp.Runs.pickF rfl rfl) ?_
          refine Sp.L.pure (by kernel_rfl) (Sp.Runs.move rfl) ?_
          refine Sp.L.pure (by kernel_rfl) (Sp.Runs.move rfl) ?_
          refine Sp.L.pure (by kernel_rfl) (Sp.Runs.move rfl) ?_
          refine Sp.L.pure (by kernel_rfl) (Sp.Runs.mulI rfl rfl (Sp.wrapI (by omega) (by omega))) ?_
          refine Sp.L.pure (by kernel_rfl) (Sp.Runs.remI rfl rfl (by decide) (Sp.tmod_nn (by omega))) ?_
          refine Sp.L.pure (by kernel_rfl) (Sp.Runs.neIF rfl rfl htb1.2.2.1) ?_
          refine Sp.L.pure (by kernel_rfl) (Sp.Runs.pickF rfl rfl) ?_
          refine Sp.L.pure (by kernel_rfl) (Sp.Runs.move rfl) ?_
          refine Sp.L.pure (by kernel_rfl) (Sp.Runs.move rfl) ?_
          refine Sp.L.pure (by kernel_rfl) (Sp.Runs.gtIF rfl rfl (by first | rfl | assumption | omega)) ?_
          refine Sp.L.pure (by kernel_rfl) (Sp.Runs.pickF rfl rfl) ?_
          refine Sp.L.nil ?_
          refine hK28 _ _ (Sp.Cd.sub (S' := [(1, _), (5, _), (7, _), (8, _), (11, _), (15, _), (19, _), (368, _)]) ⟨rfl, rfl, rfl, rfl, rfl, rfl, rfl, rfl, trivial⟩ ?_)
          clear hK28 K28
          refine Sp.Cd.condF rfl ?_
          refine Sp.Cd.skip ?_
          refine Sp.Nx.post () ⟨rfl, rfl, rfl, rfl, rfl, rfl, rfl, trivial⟩ (B1.out)
      · intro w15 b
        replace B0 := Lib.hid (B0.out.trans (b.mono B0.out.size))
        replace HS := Lib.hid (HS.out.below b)
        replace HU := Lib.hid (HU.out.below b)
        replace HYa := Lib.hid (HYa.out.below b)
        replace HYb := Lib.hid (HYb.out.below b)
        clear b
        refine Sp.Cd.cutK [(1, _)] ⟨rfl, trivial⟩ ?_ ?_
        · have B1 : Hid (Below w15.heap.size w15 w15) := Lib.hid (Below.refl _ _)
          rcases ok with _ | _
          · refine Sp.Cd.seq fun K29 hK29 => ?_
            refine Sp.Cd.region ?_
            refine Sp.L.pure (by kernel_rfl) (Sp.Runs.move rfl) ?_
            refine Sp.L.nil ?_
            refine hK29 _ _ (Sp.Cd.sub (S' := [(1, _), (5, _), (7, _), (11, _), (15, _), (19, _), (369, _)]) ⟨rfl, rfl, rfl, rfl, rfl, rfl, rfl, trivial⟩ ?_)
            clear hK29 K29
            refine Sp.Cd.condF rfl ?_
            refine Sp.Cd.skip ?_
            refine Sp.Nx.post () ⟨rfl, trivial⟩ (B1.out)
          · obtain ⟨rfl, rfl⟩ : fb = true ∧ wb = true := by rw [eq_comm, Bool.and_eq_true] at hok2; exact hok2
            have X := WF rfl
            obtain ⟨ts, hts⟩ : ∃ x, x = tsOf word := ⟨_, rfl⟩
            rw [← hts] at X
            have Y := FF rfl
            obtain ⟨fs, hfs⟩ : ∃ x, x = fsOf facing := ⟨_, rfl⟩
            rw [← hfs] at Y
            have q1 := X.net0
            have q2 := X.short0
            have q4 := X.bak0
            rw [← htn] at q1
            rw [← hsh] at q2
            rw [← hbk] at q4
            have qa := after0 Y X
            rw [← haf] at qa
            have n4 := net_lt ts
            have n5 := net_other X.lt
            have YT := Y.turn (net ts)
            have ml : maxLen = 9223372036854775807 := rfl
            have hsz : sh.size ≤ 60 := by rw [q2, size_word]; exact X.sho.len
            have bsz : bk.size ≤ 60 := by rw [q4, size_word]; exact X.bak.len
            have fsz : facing.size ≤ 30 := by rw [Y.size]; exact Y.len
            have asz : af.size = facing.size := by rw [qa, YT.size, Y.size]; unfold turnL; rw [List.length_map]
            have p1 : outFacingAfter_0 af bk = facing := by rw [qa, q4, after0 YT X.bak, net_rev, turn_turn fs _ _ (by omega) Y.lt]; exact Y.eq.symm
            have p1b : outFacingAfter_1 af bk = true := by rw [qa, q4]; unfold outFacingAfter_1; rw [YT.good, X.bak.good]; rfl
            have p2 : outFacingAfter_0 facing sh = af := by rw [q2, after0 Y X.sho, net_short, qa]
            have p2b : outFacingAfter_1 facing sh = true := by rw [q2]; unfold outFacingAfter_1; rw [Y.good, X.sho.good]; rfl
            have p3 : outCommandsBetween_0 facing af = comTo fs (turnL fs (net ts)) fs.length := by rw [qa]; exact betw0 Y _
            have p3b : outCommandsBetween_1 facing af = true := by rw [qa]; exact betwB_yes Y _
            obtain ⟨bt, hbt⟩ : ∃ x, x = comTo fs (turnL fs (net ts)) fs.length := ⟨_, rfl⟩
            rw [← hbt] at p3
            have btz : bt.size = facing.size := by rw [hbt, size_comTo, Y.size]
            refine Sp.Cd.seq fun K30 hK30 => ?_
            refine Sp.Cd.region ?_
            refine Sp.L.pure (by kernel_rfl) (Sp.Runs.move rfl) ?_
            refine Sp.L.nil ?_
            refine hK30 _ _ (Sp.Cd.sub (S' := [(1, _), (5, _), (7, _), (11, _), (15, _), (19, _), (369, _)]) ⟨rfl, rfl, rfl, rfl, rfl, rfl, rfl, trivial⟩ ?_)
            clear hK30 K30
            refine Sp.Cd.condT rfl ?_
            refine Sp.Cd.seq fun K31 hK31 => ?_
            refine Sp.Cd.region ?_
            refine Sp.L.pure (by kernel_rfl) (Sp.Runs.move rfl) ?_
            refine Sp.L.pure (by kernel_rfl) (Sp.Runs.move rfl) ?_
            have CC := implFacingAfter_any w15 af bk (by omega) (by omega) (by omega) (by omega) HS.out
            rw [p1, p1b] at CC
            refine Sp.L.call (by kernel_rfl) (CC) rfl rfl (by kernel_rfl) ?_
            clear CC
            rintro e w16 ⟨rfl, b⟩
            replace B0 := Lib.hid (B0.out.trans (b.mono B0.out.size))
            replace B1 := Lib.hid (B1.out.trans (b.mono B1.out.size))
            replace HS := Lib.hid (HS.out.below b)
            replace HU := Lib.hid (HU.out.below b)
            replace HYa := Lib.hid (HYa.out.below b)
            replace HYb := Lib.hid (HYb.out.below b)
            clear b
            refine ⟨_, rfl, ?_⟩
            refine Sp.L.pure (by kernel_rfl) (Sp.Runs.move rfl) ?_
            refine Sp.L.pure (by kernel_rfl) (Sp.Runs.extract rfl rfl) ?_
            refine Sp.L.pure (by kernel_rfl) (Sp.Runs.extract rfl rfl) ?_
            refine Sp.L.pure (by kernel_rfl) (Sp.Runs.assign rfl) ?_
            refine Sp.L.pure (by kernel_rfl) (Sp.Runs.assign rfl) ?_
            refine Sp.L.nil ?_
            refine hK31 _ _ (Sp.Cd.sub (S' := [(1, _), (5, _), (7, _), (11, _), (15, _), (41, _), (42, _)]) ⟨rfl, rfl, rfl, rfl, rfl, rfl, rfl, trivial⟩ ?_)
            clear hK31 K31
            refine Sp.Cd.seq fun K32 hK32 => ?_
            refine Sp.Cd.region ?_
            refine Sp.L.pure (by kernel_rfl) (Sp.Runs.move rfl) ?_
            refine Sp.L.pure (by kernel_rfl) (Sp.Runs.move rfl) ?_
            have CC := implFacingAfter_any w16 facing sh (by omega) (by omega) (by omega) (by omega) HS.out
            rw [p2, p2b] at CC
            refine Sp.L.call (by kernel_rfl) (CC) rfl rfl (by kernel_rfl) ?_
            clear CC
            rintro e w17 ⟨rfl, b⟩
            replace B0 := Lib.hid (B0.out.trans (b.mono B0.out.size))
            replace B1 := Lib.hid (B1.out.trans (b.mono B1.out.size))
            replace HS := Lib.hid (HS.out.below b)
            replace HU := Lib.hid (HU.out.below b)
            replace HYa := Lib.hid (HYa.out.below b)
            replace HYb := Lib.hid (HYb.out.below b)
            clear b
            refine ⟨_, rfl, ?_⟩
            refine Sp.L.pure (by kernel_rfl) (Sp.Runs.move rfl) ?_
            refine Sp.L.pure (by kernel_rfl) (Sp.Runs.extract rfl rfl) ?_
            refine Sp.L.pure (by kernel_rfl) (Sp.Runs.extract rfl rfl) ?_
            refine Sp.L.pure (by kernel_rfl) (Sp.Runs.assign rfl) ?_
            refine Sp.L.pure (by kernel_rfl) (Sp.Runs.assign rfl) ?_
            refine Sp.L.nil ?_
            refine hK32 _ _ (Sp.Cd.sub (S' := [(1, _), (5, _), (7, _), (11, _), (41, _), (42, _), (43, _), (44, _)]) ⟨rfl, rfl, rfl, rfl, rfl, rfl, rfl, rfl, trivial⟩ ?_)
            clear hK32 K32
            refine Sp.Cd.seq fun K33 hK33 => ?_
            refine Sp.Cd.region ?_
            refine Sp.L.pure (by kernel_rfl) (Sp.Runs.move rfl) ?_
            refine Sp.L.pure (by kernel_rfl) (Sp.Runs.move rfl) ?_
            have CC := implCommandsBetween_any w17 facing af (by omega) (by omega) (by omega) (by omega) HS.out
            rw [p3, p3b] at CC
            refine Sp.L.call (by kernel_rfl) (CC) rfl rfl (by kernel_rfl) ?_
            clear CC
            rintro e w18 ⟨rfl, b⟩
            replace B0 := Lib.hid (B0.out.trans (b.mono B0.out.size))
            replace B1 := Lib.hid (B1.out.trans (b.mono B1.out.size))
            replace HS := Lib.hid (HS.out.below b)
            replace HU := Lib.hid (HU.out.below b)
            replace HYa := Lib.hid (HYa.out.below b)
            replace HYb := Lib.hid (HYb.out.below b)
            clear b
            refine ⟨_, rfl, ?_⟩
            refine Sp.L.pure (by kernel_rfl) (Sp.Runs.move rfl) ?_
            refine Sp.L.pure (by kernel_rfl) (Sp.Runs.extract rfl rfl) ?_
            refine Sp.L.pure (by kernel_rfl) (Sp.Runs.extract rfl rfl) ?_
            refine Sp.L.pure (by kernel_rfl) (Sp.Runs.assign rfl) ?_
            refine Sp.L.pure (by kernel_rfl) (Sp.Runs.assign rfl) ?_
            refine Sp.L.nil ?_
            refine hK33 _ _ (Sp.Cd.sub (S' := [(1, _), (5, _), (7, _), (11, _), (41, _), (42, _), (43, _), (44, _), (45, _), (46, _)]) ⟨rfl, rfl, rfl, rfl, rfl, rfl, rfl, rfl, rfl, rfl, trivial⟩ ?_)
            clear hK33 K33
            refine Sp.Cd.seq fun K34 hK34 => ?_
            refine Sp.Cd.seq fun K35 hK35 => ?_
            refine Sp.Cd.region ?_
            refine Sp.L.pure (by kernel_rfl) (Sp.Runs.move rfl) ?_
            refine Sp.L.pure (by kernel_rfl) (Sp.Runs.notF rfl) ?_
            refine Sp.L.pure (by kernel_rfl) (Sp.Runs.move rfl) ?_
            refine Sp.L.pure (by kernel_rfl) (Sp.Runs.move rfl) ?_
            refine Sp.L.pure (by kernel_rfl) (Sp.Runs.move rfl) ?_
            refine Sp.L.pure (by kernel_rfl) (Sp.Runs.neSF rfl rfl (by first | rfl | assumption)) ?_
            refine Sp.L.pure (by kernel_rfl) (Sp.Runs.pickF rfl rfl) ?_
            refine Sp.L.pure (by kernel_rfl) (Sp.Runs.move rfl) ?_
            refine Sp.L.pure (by kernel_rfl) (Sp.Runs.move rfl) ?_
            refine Sp.L.pure (by kernel_rfl) (Sp.Runs.notF rfl) ?_
            refine Sp.L.pure (by kernel_rfl) (Sp.Runs.pickF rfl rfl) ?_
            refine Sp.L.pure (by kernel_rfl) (Sp.Runs.move rfl) ?_
            refine Sp.L.pure (by kernel_rfl) (Sp.Runs.move rfl) ?_
            refine Sp.L.pure (by kernel_rfl) (Sp.Runs.move rfl) ?_
            refine Sp.L.pure (by kernel_rfl) (Sp.Runs.neSF rfl rfl (by first | rfl | assumption)) ?_
            refine Sp.L.pure (by kernel_rfl) (Sp.Runs.pickF rfl rfl) ?_
            refine Sp.L.pure (by kernel_rfl) (Sp.Runs.move rfl) ?_
            refine Sp.L.pure (by kernel_rfl) (Sp.Runs.move rfl) ?_
            refine Sp.L.pure (by kernel_rfl) (Sp.Runs.notF rfl) ?_
            refine Sp.L.pure (by kernel_rfl) (Sp.Runs.pickF rfl rfl) ?_
            refine Sp.L.pure (by kernel_rfl) (Sp.Runs.move rfl) ?_
            refine Sp.L.pure (by kernel_rfl) (Sp.Runs.move rfl) ?_
            refine Sp.L.pure (by kernel_rfl) (Sp.Runs.lenS Tryd.underlying9 rfl) ?_
            refine Sp.L.pure (by kernel_rfl) (Sp.Runs.move rfl) ?_
            refine Sp.L.pure (by kernel_rfl) (Sp.Runs.lenS Tryd.underlying9 rfl) ?_
            refine Sp.L.pure (by kernel_rfl) (Sp.Runs.neIF rfl rfl (congrArg (fun n : Nat => (n : Int)) btz)) ?_
            refine Sp.L.pure (by kernel_rfl) (Sp.Runs.pickF rfl rfl) ?_
            refine Sp.L.nil ?_
            refine hK35 _ _ (Sp.Cd.sub (S' := [(1, _), (11, _), (45, _), (414, _)]) ⟨rfl, rfl, rfl, rfl, trivial⟩ ?_)
            clear hK35 K35
            refine Sp.Cd.condF rfl ?_
            refine Sp.Cd.skip ?_
            refine hK34 _ _ (Sp.Cd.sub (S' := [(1, _), (11, _), (45, _)]) ⟨rfl, rfl, rfl, trivial⟩ ?_)
            clear hK34 K34
            refine Sp.Cd.seq fun K36 hK36 => ?_
            refine Sp.Cd.region ?_
            refine Sp.L.pure (by kernel_rfl) (Sp.Runs.move rfl) ?_
            have B2 : Hid (Below w18.heap.size w18 w18) := Lib.hid (Below.refl _ _)
            refine Sp.L.rangeS Tryd.underlying9 rfl (by kernel_rfl) ?_
            obtain ⟨w19, hw⟩ : ∃ x, x = w18.iter bt 0 := ⟨_, rfl⟩
            rw [← hw]
            have HI : Hid (w19.heap[w18.heap.size]? = some (.stringIter bt 0)) := Lib.hid (by rw [hw]; exact World.iter_heap w18 bt 0)
            replace B2 : Hid (Below w18.heap.size w18 w19) := Lib.hid (by rw [hw]; exact (Below.refl _ w18).alloc (Nat.le_refl _) _)
            clear hw
            refine Sp.L.nil ?_
            refine hK36 _ _ (Sp.Cd.sub (S' := [(1, _), (11, _), (45, _), (416, _)]) ⟨rfl, rfl, rfl, rfl, trivial⟩ ?_)
            clear hK36 K36
            refine Sp.Cd.block ?_
            refine Sp.Cd.loop (ι := Nat) [(1, _), (11, _), (45, _), (416, _)] (fun i1 => []) (fun i1 w' => Hid (Below w18.heap.size w18 w') ∧ Hid (w'.heap[w18.heap.size]? = some (.stringIter bt i1)) ∧ (i1 ≤ bt.size)) (fun i1 => bt.size - i1) 0 ⟨rfl, rfl, rfl, rfl, trivial⟩ ⟨B2, HI, Nat.zero_le _⟩ ?_
            clear B2 HI
            rintro i1 w20 ⟨B2, HI, hrel⟩
            refine Sp.Cd.sub (S' := [(1, _), (11, _), (45, _), (416, _)]) ⟨rfl, rfl, rfl, rfl, trivial⟩ ?_
            by_cases hlt : i1 < bt.size
            · have hi1 : i1 < fs.length := by rw [← Y.size, ← btz]; exact hlt
              have ex : bt.extract i1 (i1 + 1) = Dr.word [net ts] := by rw [hbt]; exact com_each Y (net ts) n4 i1 hi1
              have asc : (bt[i1]'hlt).toNat < 128 := word_asc (by rw [hbt]; rfl) (fun t ht => by obtain ⟨x, _, rfl⟩ := List.mem_map.1 ht; exact comAt_lt _ _ _) i1 hlt
              have p4 : outNetTurn_0 (Dr.word [net ts]) = tn := by rw [(one_word _ n4).net0, Dt.net_one _ n4, q1]
              have p4b : outNetTurn_1 (Dr.word [net ts]) = true := (one_word _ n4).good
              have sz4 : (Dr.word [net ts]).size = 1 := size_word _
              refine Sp.Cd.seq fun K37 hK37 => ?_
              refine Sp.Cd.region ?_
              refine Sp.L.next rfl (Lib.run_next_ascii_at w20 w18.heap.size bt i1 _ HI.out hlt asc) (by kernel_rfl) ?_
              obtain ⟨w21, hw⟩ : ∃ x, x = w20.iterAt w18.heap.size bt (i1 + 1) := ⟨_, rfl⟩
              rw [← hw]
              replace HI : Hid (w21.heap[w18.heap.size]? = some (.stringIter bt (i1 + 1))) := Lib.hid (by rw [hw]; exact Lib.iterAt_heap w20 w18.heap.size bt i1 (i1 + 1) HI.out)
              replace B2 : Hid (Below w18.heap.size w18 w21) := Lib.hid (by rw [hw]; exact Lib.below_iterAt B2.out (Nat.le_refl _) bt (i1 + 1))
              clear hw
              refine Sp.L.pure (by kernel_rfl) (Sp.Runs.extract rfl rfl) ?_
              refine Sp.L.nil ?_
              refine hK37 _ _ (Sp.Cd.sub (S' := [(1, _), (11, _), (45, _), (416, _), (417, _), (418, _)]) ⟨rfl, rfl, rfl, rfl, rfl, rfl, trivial⟩ ?_)
              clear hK37 K37
              refine Sp.Cd.seq fun K38 hK38 => ?_
              refine Sp.Cd.condT rfl ?_
              refine Sp.Cd.skip ?_
              refine hK38 _ _ (Sp.Cd.sub (S' := [(1, _), (11, _), (45, _), (416, _), (417, _)]) ⟨rfl, rfl, rfl, rfl, rfl, trivial⟩ ?_)
              clear hK38 K38
              refine Sp.Cd.block ?_
              refine Sp.Cd.seq fun K39 hK39 => ?_
              refine Sp.Cd.region ?_
              refine Sp.L.pure (by kernel_rfl) (Sp.Runs.extract rfl rfl) ?_
              refine Sp.L.pure (by kernel_rfl) (Sp.Runs.assign rfl) ?_
              refine Sp.L.nil ?_
              refine hK39 _ _ (Sp.Cd.sub (S' := [(1, _), (11, _), (45, _), (47, _), (416, _)]) ⟨rfl, rfl, rfl, rfl, rfl, trivial⟩ ?_)
              clear hK39 K39
              refine Sp.Cd.seq fun K40 hK40 => ?_
              refine Sp.Cd.region ?_
              refine Sp.L.pure (by kernel_rfl) (Sp.Runs.move rfl) ?_
              refine Sp.L.pure (by kernel_rfl) (Sp.Runs.move rfl) ?_
              refine Sp.L.pure (by kernel_rfl) (Sp.Runs.move rfl) ?_
              refine Sp.L.pure (by kernel_rfl) (Sp.Runs.addI rfl rfl (Sp.wrapI (by omega) (by omega))) ?_
              refine Sp.L.pure (by kernel_rfl) (Sp.Runs.slice rfl rfl rfl rfl (ex ▸ Sp.slice_str Tryd.underlying9 i1 (i1 + 1) rfl (by omega) (by omega) (by omega))) ?_
              have CC := implNetTurn_any w21 (Dr.word [net ts]) (by omega) (by omega) (HS.out.below B2.out)
              rw [p4, p4b] at CC
              refine Sp.L.call (by kernel_rfl) (CC) rfl rfl (by kernel_rfl) ?_
              clear CC
              rintro e w22 ⟨rfl, b⟩
              replace B2 := Lib.hid (B2.out.trans (b.mono B2.out.size))
              replace HI := Lib.hid ((b.block _ (lt_of_block HI.out)).trans HI.out)
              clear b
              refine ⟨_, rfl, ?_⟩
              refine Sp.L.pure (by kernel_rfl) (Sp.Runs.move rfl) ?_
              refine Sp.L.pure (by kernel_rfl) (Sp.Runs.extract rfl rfl) ?_
              refine Sp.L.pure (by kernel_rfl) (Sp.Runs.extract rfl rfl) ?_
              refine Sp.L.pure (by kernel_rfl) (Sp.Runs.assign rfl) ?_
              refine Sp.L.pure (by kernel_rfl) (Sp.Runs.assign rfl) ?_
              refine Sp.L.nil ?_
              refine hK40 _ _ (Sp.Cd.sub (S' := [(1, _), (11, _), (45, _), (48, _), (49, _), (416, _)]) ⟨rfl, rfl, rfl, rfl, rfl, rfl, trivial⟩ ?_)
              clear hK40 K40
              refine Sp.Cd.seq fun K41 hK41 => ?_
              refine Sp.Cd.region ?_
              refine Sp.L.pure (by kernel_rfl) (Sp.Runs.move rfl) ?_
              refine Sp.L.pure (by kernel_rfl) (Sp.Runs.notF rfl) ?_
              refine Sp.L.pure (by kernel_rfl) (Sp.Runs.move rfl) ?_
              refine Sp.L.pure (by kernel_rfl) (Sp.Runs.move rfl) ?_
              refine Sp.L.pure (by kernel_rfl) (Sp.Runs.move rfl) ?_
              refine Sp.L.pure (by kernel_rfl) (Sp.Runs.neIF rfl rfl (by first | rfl | assumption | omega)) ?_
              refine Sp.L.pure (by kernel_rfl) (Sp.Runs.pickF rfl rfl) ?_
              refine Sp.L.nil ?_
              refine hK41 _ _ (Sp.Cd.sub (S' := [(1, _), (11, _), (45, _), (416, _), (435, _)]) ⟨rfl, rfl, rfl, rfl, rfl, trivial⟩ ?_)
              clear hK41 K41
              refine Sp.Cd.condF rfl ?_
              refine Sp.Cd.skip ?_
              refine Sp.Nx.block ?_
              refine Sp.Nx.again (i1 + 1) ⟨rfl, rfl, rfl, rfl, trivial⟩ ⟨B2, HI, hlt⟩ (by omega)
            · refine Sp.Cd.seq fun K42 hK42 => ?_
              refine Sp.Cd.region ?_
              refine Sp.L.next rfl (Lib.run_next_end_at w20 w18.heap.size bt i1 _ HI.out hlt) (by kernel_rfl) ?_
              refine Sp.L.pure (by kernel_rfl) (Sp.Runs.extract rfl rfl) ?_
              refine Sp.L.nil ?_
              refine hK42 _ _ (Sp.Cd.sub (S' := [(1, _), (11, _), (45, _), (416, _), (417, _), (418, _)]) ⟨rfl, rfl, rfl, rfl, rfl, rfl, trivial⟩ ?_)
              clear hK42 K42
              refine Sp.Cd.seq fun K43 hK43 => ?_
              refine Sp.Cd.condF rfl ?_
              refine Sp.Cd.exit ?_
              refine Sp.Ex.then ?_
              clear hK43 K43
              refine Sp.Ex.then ?_
              have b := B2.out
              replace B0 := Lib.hid (B0.out.trans (b.mono B0.out.size))
              replace B1 := Lib.hid (B1.out.trans (b.mono B1.out.size))
              replace HS := Lib.hid (HS.out.below b)
              replace HU := Lib.hid (HU.out.below b)
              replace HYa := Lib.hid (HYa.out.below b)
              replace HYb := Lib.hid (HYb.out.below b)
              clear b HI
              clear B2
              refine Sp.Ex.hit ?_
              refine Sp.Nx.post () ⟨rfl, trivial⟩ (B1.out)
        · intro w16 b
          replace B0 := Lib.hid (B0.out.trans (b.mono B0.out.size))
          replace HS := Lib.hid (HS.out.below b)
          replace HU := Lib.hid (HU.out.below b)
          replace HYa := Lib.hid (HYa.out.below b)
          replace HYb := Lib.hid (HYb.out.below b)
          clear b
          refine Sp.Cd.seq fun K44 hK44 => ?_
          refine Sp.Cd.region ?_
          refine Sp.L.pure (by kernel_rfl) (Sp.Runs.move rfl) ?_
          refine Sp.L.call (by kernel_rfl) (drawCountCommandWords_p w16 xb lb cb' h2 HYb.out) rfl rfl (by kernel_rfl) ?_
          rintro e w17 ⟨length, way, wl, wy, rfl, b9⟩
          replace B0 := Lib.hid (B0.out.trans (b9.mono B0.out.size))
          replace HS := Lib.hid (HS.out.below b9)
          replace HU := Lib.hid (HU.out.below b9)
          replace HYa := Lib.hid (HYa.out.below b9)
          replace HYb := Lib.hid (HYb.out.below b9)
          clear b9
          refine ⟨_, rfl, ?_⟩
          obtain ⟨cb, hcb⟩ : ∃ x, x = cntB length way := ⟨_, rfl⟩
          refine Sp.L.pure (by kernel_rfl) (Sp.Runs.move rfl) ?_
          refine Sp.L.pure (by kernel_rfl) (Sp.Runs.extract rfl rfl) ?_
          refine Sp.L.pure (by kernel_rfl) (Sp.Runs.extract rfl rfl) ?_
          refine Sp.L.pure (by kernel_rfl) (Sp.Runs.assign rfl) ?_
          refine Sp.L.pure (by kernel_rfl) (Sp.Runs.assign rfl) ?_
          refine Sp.L.nil ?_
          refine hK44 _ _ (Sp.Cd.sub (S' := [(1, _), (50, _), (51, _)]) ⟨rfl, rfl, rfl, trivial⟩ ?_)
          clear hK44 K44
          refine Sp.Cd.seq fun K45 hK45 => ?_
          refine Sp.Cd.region ?_
          refine Sp.L.pure (by kernel_rfl) (Sp.Runs.move rfl) ?_
          refine Sp.L.pure (by kernel_rfl) (Sp.Runs.move rfl) ?_
          have CC := implCountCommandWords_any w17 length way wl wy
          rw [show outCountCommandWords_1 length way = cb from hcb.symm] at CC
          refine Sp.L.call (by kernel_rfl) (CC) rfl rfl (by kernel_rfl) ?_
          clear CC
          rintro e w18 ⟨rfl, b⟩
          replace B0 := Lib.hid (B0.out.trans (b.mono B0.out.size))
          replace HS := Lib.hid (HS.out.below b)
          replace HU := Lib.hid (HU.out.below b)
          replace HYa := Lib.hid (HYa.out.below b)
          replace HYb := Lib.hid (HYb.out.below b)
          clear b
          refine ⟨_, rfl, ?_⟩
          refine Sp.L.pure (by kernel_rfl) (Sp.Runs.move rfl) ?_
          refine Sp.L.pure (by kernel_rfl) (Sp.Runs.extract rfl rfl) ?_
          refine Sp.L.pure (by kernel_rfl) (Sp.Runs.extract rfl rfl) ?_
          refine Sp.L.pure (by kernel_rfl) (Sp.Runs.assign rfl) ?_
          refine Sp.L.pure (by kernel_rfl) (Sp.Runs.assign rfl) ?_
          refine Sp.L.nil ?_
          refine hK45 _ _ (Sp.Cd.sub (S' := [(1, _), (50, _), (51, _), (52, _), (53, _)]) ⟨rfl, rfl, rfl, rfl, rfl, trivial⟩ ?_)
          clear hK45 K45
          refine Sp.Cd.seq fun K46 hK46 => ?_
          refine Sp.Cd.region ?_
          refine Sp.L.pure (by kernel_rfl) (Sp.Runs.move rfl) ?_
          refine Sp.L.pure (by kernel_rfl) (Sp.Runs.move rfl) ?_
          have CC := specCountCommandWords_any w18 length way wl wy
          rw [show outCountCommandWords_1 length way = cb from hcb.symm] at CC
          refine Sp.L.call (by kernel_rfl) (CC) rfl rfl (by kernel_rfl) ?_
          clear CC
          rintro e w19 ⟨rfl, b⟩
          replace B0 := Lib.hid (B0.out.trans (b.mono B0.out.size))
          replace HS := Lib.hid (HS.out.below b)
          replace HU := Lib.hid (HU.out.below b)
          replace HYa := Lib.hid (HYa.out.below b)
          replace HYb := Lib.hid (HYb.out.below b)
          clear b
          refine ⟨_, rfl, ?_⟩
          refine Sp.L.pure (by kernel_rfl) (Sp.Runs.move rfl) ?_
          refine Sp.L.pure (by kernel_rfl) (Sp.Runs.extract rfl rfl) ?_
          refine Sp.L.pure (by kernel_rfl) (Sp.Runs.extract rfl rfl) ?_
          refine Sp.L.pure (by kernel_rfl) (Sp.Runs.assign rfl) ?_
          refine Sp.L.pure (by kernel_rfl) (Sp.Runs.assign rfl) ?_
          refine Sp.L.nil ?_
          refine hK46 _ _ (Sp.Cd.sub (S' := [(1, _), (50, _), (52, _), (53, _), (54, _), (55, _)]) ⟨rfl, rfl, rfl, rfl, rfl, rfl, trivial⟩ ?_)
          clear hK46 K46
          refine Sp.Cd.seq fun K47 hK47 => ?_
          refine Sp.Cd.region ?_
          refine Sp.L.pure (by kernel_rfl) (Sp.Runs.move rfl) ?_
          refine Sp.L.call (by kernel_rfl) (drawCommandsBetween_p w19 xb lb cb' h2 HYb.out) rfl rfl (by kernel_rfl) ?_
          rintro e w20 ⟨a, b, ha0, hb0, rfl, b9⟩
          replace B0 := Lib.hid (B0.out.trans (b9.mono B0.out.size))
          replace HS := Lib.hid (HS.out.below b9)
          replace HU := Lib.hid (HU.out.below b9)
          replace HYa := Lib.hid (HYa.out.below b9)
          replace HYb := Lib.hid (HYb.out.below b9)
          clear b9
          refine ⟨_, rfl, ?_⟩
          have z3 : a.size ≤ 1048576 := by omega
          have z4 : b.size ≤ 1048576 := by omega
          have ml0 : maxLen = 9223372036854775807 := rfl
          have ha : a.size ≤ maxLen := by omega
          have hb : b.size ≤ maxLen := by omega
          clear ml0
          obtain ⟨tb, htb⟩ : ∃ x, x = betwB a b := ⟨_, rfl⟩
          refine Sp.L.pure (by kernel_rfl) (Sp.Runs.move rfl) ?_
          refine Sp.L.pure (by kernel_rfl) (Sp.Runs.extract rfl rfl) ?_
          refine Sp.L.pure (by kernel_rfl) (Sp.Runs.extract rfl rfl) ?_
          refine Sp.L.pure (by kernel_rfl) (Sp.Runs.assign rfl) ?_
          refine Sp.L.pure (by kernel_rfl) (Sp.Runs.assign rfl) ?_
          refine Sp.L.nil ?_
          refine hK47 _ _ (Sp.Cd.sub (S' := [(1, _), (50, _), (52, _), (53, _), (54, _), (55, _), (56, _), (57, _)]) ⟨rfl, rfl, rfl, rfl, rfl, rfl, rfl, rfl, trivial⟩ ?_)
          clear hK47 K47
          refine Sp.Cd.seq fun K48 hK48 => ?_
          refine Sp.Cd.region ?_
          refine Sp.L.pure (by kernel_rfl) (Sp.Runs.move rfl) ?_
          refine Sp.L.pure (by kernel_rfl) (Sp.Runs.move rfl) ?_
          have CC := implCommandsBetween_any w20 a b ha hb z3 z4 HS.out
          rw [show outCommandsBetween_1 a b = tb from htb.symm] at CC
          refine Sp.L.call (by kernel_rfl) (CC) rfl rfl (by kernel_rfl) ?_
          clear CC
          rintro e w21 ⟨rfl, b⟩
          replace B0 := Lib.hid (B0.out.trans (b.mono B0.out.size))
          replace HS := Lib.hid (HS.out.below b)
          replace HU := Lib.hid (HU.out.below b)
          replace HYa := Lib.hid (HYa.out.below b)
          replace HYb := Lib.hid (HYb.out.below b)
          clear b
          refine ⟨_, rfl, ?_⟩
          refine Sp.L.pure (by kernel_rfl) (Sp.Runs.move rfl) ?_
          refine Sp.L.pure (by kernel_rfl) (Sp.Runs.extract rfl rfl) ?_
          refine Sp.L.pure (by kernel_rfl) (Sp.Runs.extract rfl rfl) ?_
          refine Sp.L.pure (by kernel_rfl) (Sp.Runs.assign rfl) ?_
          refine Sp.L.pure (by kernel_rfl) (Sp.Runs.assign rfl) ?_
          refine Sp.L.nil ?_
          refine hK48 _ _ (Sp.Cd.sub (S' := [(1, _), (50, _), (52, _), (53, _), (54, _), (55, _), (56, _), (57, _), (58, _), (59, _)]) ⟨rfl, rfl, rfl, rfl, rfl, rfl, rfl, rfl, rfl, rfl, trivial⟩ ?_)
          clear hK48 K48
          refine Sp.Cd.seq fun K49 hK49 => ?_
          refine Sp.Cd.region ?_
          refine Sp.L.pure (by kernel_rfl) (Sp.Runs.move rfl) ?_
          refine Sp.L.pure (by kernel_rfl) (Sp.Runs.move rfl) ?_
          have CC := specCommandsBetween_any w21 a b ha hb z3 z4
          rw [show outCommandsBetween_1 a b = tb from htb.symm] at CC
          refine Sp.L.call (by kernel_rfl) (CC) rfl rfl (by kernel_rfl) ?_
          clear CC
          rintro e w22 ⟨rfl, b⟩
          replace B0 := Lib.hid (B0.out.trans (b.mono B0.out.size))
          replace HS := Lib.hid (HS.out.below b)
          replace HU := Lib.hid (HU.out.below b)
          replace HYa := Lib.hid (HYa.out.below b)
          replace HYb := Lib.hid (HYb.out.below b)
          clear b
          refine ⟨_, rfl, ?_⟩
          refine Sp.L.pure (by kernel_rfl) (Sp.Runs.move rfl) ?_
          refine Sp.L.pure (by kernel_rfl) (Sp.Runs.extract rfl rfl) ?_
          refine Sp.L.pure (by kernel_rfl) (Sp.Runs.extract rfl rfl) ?_
          refine Sp.L.pure (by kernel_rfl) (Sp.Runs.assign rfl) ?_
          refine Sp.L.pure (by kernel_rfl) (Sp.Runs.assign rfl) ?_
          refine Sp.L.nil ?_
          refine hK49 _ _ (Sp.Cd.sub (S' := [(1, _), (50, _), (52, _), (53, _), (54, _), (55, _), (58, _), (59, _), (60, _), (61, _)]) ⟨rfl, rfl, rfl, rfl, rfl, rfl, rfl, rfl, rfl, rfl, trivial⟩ ?_)
          clear hK49 K49
          refine Sp.Cd.seq fun K50 hK50 => ?_
          refine Sp.Cd.region ?_
          refine Sp.L.pure (by kernel_rfl) (Sp.Runs.move rfl) ?_
          refine Sp.L.call (by kernel_rfl) (drawBestCommand_p w22 xb lb cb' h2 HYb.out) rfl rfl (by kernel_rfl) ?_
          rintro e w23 ⟨f, w, hf1, ww, rfl, b9⟩
          replace B0 := Lib.hid (B0.out.trans (b9.mono B0.out.size))
          replace HS := Lib.hid (HS.out.below b9)
          replace HU := Lib.hid (HU.out.below b9)
          replace HYa := Lib.hid (HYa.out.below b9)
          replace HYb := Lib.hid (HYb.out.below b9)
          clear b9
          refine ⟨_, rfl, ?_⟩
          have z5 : f.size ≤ 1048576 := by omega
          have ml0 : maxLen = 9223372036854775807 := rfl
          have hff : f.size ≤ maxLen := by omega
          clear ml0
          obtain ⟨bb, hbb⟩ : ∃ x, x = outBestCommand_2 f w := ⟨_, rfl⟩
          refine Sp.L.pure (by kernel_rfl) (Sp.Runs.move rfl) ?_
          refine Sp.L.pure (by kernel_rfl) (Sp.Runs.extract rfl rfl) ?_
          refine Sp.L.pure (by kernel_rfl) (Sp.Runs.extract rfl rfl) ?_
          refine Sp.L.pure (by kernel_rfl) (Sp.Runs.assign rfl) ?_
          refine Sp.L.pure (by kernel_rfl) (Sp.Runs.assign rfl) ?_
          refine Sp.L.nil ?_
          refine hK50 _ _ (Sp.Cd.sub (S' := [(1, _), (50, _), (52, _), (53, _), (54, _), (55, _), (58, _), (59, _), (60, _), (61, _), (62, _), (63, _)]) ⟨rfl, rfl, rfl, rfl, rfl, rfl, rfl, rfl, rfl, rfl, rfl, rfl, trivial⟩ ?_)
          clear hK50 K50
          refine Sp.Cd.seq fun K51 hK51 => ?_
          refine Sp.Cd.region ?_
          refine Sp.L.pure (by kernel_rfl) (Sp.Runs.move rfl) ?_
          refine Sp.L.pure (by kernel_rfl) (Sp.Runs.move rfl) ?_
          have CC := implBestCommand_any w23 f w hff ww z5 HS.out HU.out
          rw [← hbb] at CC
          refine Sp.L.call (by kernel_rfl) (CC) rfl rfl (by kernel_rfl) ?_
          clear CC
          rintro e w24 ⟨rfl, b⟩
          replace B0 := Lib.hid (B0.out.trans (b.mono B0.out.size))
          replace HS := Lib.hid (HS.out.below b)
          replace HU := Lib.hid (HU.out.below b)
          replace HYa := Lib.hid (HYa.out.below b)
          replace HYb := Lib.hid (HYb.out.below b)
          clear b
          refine ⟨_, rfl, ?_⟩
          refine Sp.L.pure (by kernel_rfl) (Sp.Runs.move rfl) ?_
          refine Sp.L.pure (by kernel_rfl) (Sp.Runs.extract rfl rfl) ?_
          refine Sp.L.pure (by kernel_rfl) (Sp.Runs.extract rfl rfl) ?_
          refine Sp.L.pure (by kernel_rfl) (Sp.Runs.extract rfl rfl) ?_
          refine Sp.L.pure (by kernel_rfl) (Sp.Runs.assign rfl) ?_
          refine Sp.L.pure (by kernel_rfl) (Sp.Runs.assign rfl) ?_
          refine Sp.L.pure (by kernel_rfl) (Sp.Runs.assign rfl) ?_
          refine Sp.L.nil ?_
          refine hK51 _ _ (Sp.Cd.sub (S' := [(1, _), (50, _), (52, _), (53, _), (54, _), (55, _), (58, _), (59, _), (60, _), (61, _), (62, _), (63, _), (64, _), (65, _), (66, _)]) ⟨rfl, rfl, rfl, rfl, rfl, rfl, rfl, rfl, rfl, rfl, rfl, rfl, rfl, rfl, rfl, trivial⟩ ?_)
          clear hK51 K51
          refine Sp.Cd.seq fun K52 hK52 => ?_
          refine Sp.Cd.region ?_
          refine Sp.L.pure (by kernel_rfl) (Sp.Runs.move rfl) ?_
          refine Sp.L.pure (by kernel_rfl) (Sp.Runs.move rfl) ?_
          have CC := specBestCommand_any w24 f w hff ww z5
          rw [← hbb] at CC
          refine Sp.L.call (by kernel_rfl) (CC) rfl rfl (by kernel_rfl) ?_
          clear CC
          rintro e w25 ⟨rfl, b⟩
          replace B0 := Lib.hid (B0.out.trans (b.mono B0.out.size))
          replace HS := Lib.hid (HS.out.below b)
          replace HU := Lib.hid (HU.out.below b)
          replace HYa := Lib.hid (HYa.out.below b)
          replace HYb := Lib.hid (HYb.out.below b)
          clear b
          refine ⟨_, rfl, ?_⟩
          refine Sp.L.pure (by kernel_rfl) (Sp.Runs.move rfl) ?_
          refine Sp.L.pure (by kernel_rfl) (Sp.Runs.extract rfl rfl) ?_
          refine Sp.L.pure (by kernel_rfl) (Sp.Runs.extract rfl rfl) ?_
          refine Sp.L.pure (by kernel_rfl) (Sp.Runs.extract rfl rfl) ?_
          refine Sp.L.pure (by kernel_rfl) (Sp.Runs.assign rfl) ?_
          refine Sp.L.pure (by kernel_rfl) (Sp.Runs.assign rfl) ?_
          refine Sp.L.pure (by kernel_rfl) (Sp.Runs.assign rfl) ?_
          refine Sp.L.nil ?_
          refine hK52 _ _ (Sp.Cd.sub (S' := [(1, _), (50, _), (52, _), (53, _), (54, _), (55, _), (58, _), (59, _), (60, _), (61, _), (62, _), (64, _), (65, _), (66, _), (67, _), (68, _), (69, _)]) ⟨rfl, rfl, rfl, rfl, rfl, rfl, rfl, rfl, rfl, rfl, rfl, rfl, rfl, rfl, rfl, rfl, rfl, trivial⟩ ?_)
          clear hK52 K52
          refine Sp.Cd.seq fun K53 hK53 => ?_
          refine Sp.Cd.region ?_
          refine Sp.L.pure (by kernel_rfl) (Sp.Runs.move rfl) ?_
          refine Sp.L.call (by kernel_rfl) (drawMostFaced_p w25 xb lb cb' h2 HYb.out) rfl rfl (by kernel_rfl) ?_
          rintro e w26 ⟨g, hg0, rfl, b9⟩
          replace B0 := Lib.hid (B0.out.trans (b9.mono B0.out.size))
          replace HS := Lib.hid (HS.out.below b9)
          replace HU := Lib.hid (HU.out.below b9)
          replace HYa := Lib.hid (HYa.out.below b9)
          replace HYb := Lib.hid (HYb.out.below b9)
          clear b9
          refine ⟨_, rfl, ?_⟩
          have z6 : g.size ≤ 1048576 := by omega
          have ml0 : maxLen = 9223372036854775807 := rfl
          have hg : g.size ≤ maxLen := by omega
          clear ml0
          obtain ⟨gb, hgb⟩ : ∃ x, x = faceB g := ⟨_, rfl⟩
          refine Sp.L.pure (by kernel_rfl) (Sp.Runs.assign rfl) ?_
          refine Sp.L.nil ?_
          refine hK53 _ _ (Sp.Cd.sub (S' := [(50, _), (52, _), (53, _), (54, _), (55, _), (58, _), (59, _), (60, _), (61, _), (62, _), (64, _), (65, _), (66, _), (67, _), (68, _), (69, _), (70, _)]) ⟨rfl, rfl, rfl, rfl, rfl, rfl, rfl, rfl, rfl, rfl, rfl, rfl, rfl, rfl, rfl, rfl, rfl, trivial⟩ ?_)
          clear hK53 K53
          refine Sp.Cd.seq fun K54 hK54 => ?_
          refine Sp.Cd.region ?_
          refine Sp.L.pure (by kernel_rfl) (Sp.Runs.move rfl) ?_
          have CC := implMostFaced_any w26 g hg z6
          rw [show outMostFaced_2 g = gb from hgb.symm] at CC
          refine Sp.L.call (by kernel_rfl) (CC) rfl rfl (by kernel_rfl) ?_
          clear CC
          rintro e w27 ⟨rfl, b⟩
          replace B0 := Lib.hid (B0.out.trans (b.mono B0.out.size))
          replace HS := Lib.hid (HS.out.below b)
          replace HU := Lib.hid (HU.out.below b)
          replace HYa := Lib.hid (HYa.out.below b)
          replace HYb := Lib.hid (HYb.out.below b)
          clear b
          refine ⟨_, rfl, ?_⟩
          refine Sp.L.pure (by kernel_rfl) (Sp.Runs.move rfl) ?_
          refine Sp.L.pure (by kernel_rfl) (Sp.Runs.extract rfl rfl) ?_
          refine Sp.L.pure (by kernel_rfl) (Sp.Runs.extract rfl rfl) ?_
          refine Sp.L.pure (by kernel_rfl) (Sp.Runs.extract rfl rfl) ?_
          refine Sp.L.pure (by kernel_rfl) (Sp.Runs.assign rfl) ?_
          refine Sp.L.pure (by kernel_rfl) (Sp.Runs.assign rfl) ?_
          refine Sp.L.pure (by kernel_rfl) (Sp.Runs.assign rfl) ?_
          refine Sp.L.nil ?_
          refine hK54 _ _ (Sp.Cd.sub (S' := [(50, _), (52, _), (53, _), (54, _), (55, _), (58, _), (59, _), (60, _), (61, _), (62, _), (64, _), (65, _), (66, _), (67, _), (68, _), (69, _), (70, _), (71, _), (72, _), (73, _)]) ⟨rfl, rfl, rfl, rfl, rfl, rfl, rfl, rfl, rfl, rfl, rfl, rfl, rfl, rfl, rfl, rfl, rfl, rfl, rfl, rfl, trivial⟩ ?_)
          clear hK54 K54
          refine Sp.Cd.seq fun K55 hK55 => ?_
          refine Sp.Cd.region ?_
          refine Sp.L.pure (by kernel_rfl) (Sp.Runs.move rfl) ?_
          have CC := specMostFaced_any w27 g hg z6
          rw [show outMostFaced_2 g = gb from hgb.symm] at CC
          refine Sp.L.call (by kernel_rfl) (CC) rfl rfl (by kernel_rfl) ?_
          clear CC
          rintro e w28 ⟨rfl, b⟩
          replace B0 := Lib.hid (B0.out.trans (b.mono B0.out.size))
          replace HS := Lib.hid (HS.out.below b)
          replace HU := Lib.hid (HU.out.below b)
          replace HYa := Lib.hid (HYa.out.below b)
          replace HYb := Lib.hid (HYb.out.below b)
          clear b
          refine ⟨_, rfl, ?_⟩
          refine Sp.L.pure (by kernel_rfl) (Sp.Runs.move rfl) ?_
          refine Sp.L.pure (by kernel_rfl) (Sp.Runs.extract rfl rfl) ?_
          refine Sp.L.pure (by kernel_rfl) (Sp.Runs.extract rfl rfl) ?_
          refine Sp.L.pure (by kernel_rfl) (Sp.Runs.extract rfl rfl) ?_
          refine Sp.L.pure (by kernel_rfl) (Sp.Runs.assign rfl) ?_
          refine Sp.L.pure (by kernel_rfl) (Sp.Runs.assign rfl) ?_
          refine Sp.L.pure (by kernel_rfl) (Sp.Runs.assign rfl) ?_
          refine Sp.L.nil ?_
          refine hK55 _ _ (Sp.Cd.sub (S' := [(50, _), (52, _), (53, _), (54, _), (55, _), (58, _), (59, _), (60, _), (61, _), (62, _), (64, _), (65, _), (66, _), (67, _), (68, _), (69, _), (70, _), (71, _), (72, _), (73, _), (74, _), (75, _), (76, _)]) ⟨rfl, rfl, rfl, rfl, rfl, rfl, rfl, rfl, rfl, rfl, rfl, rfl, rfl, rfl, rfl, rfl, rfl, rfl, rfl, rfl, rfl, rfl, rfl, trivial⟩ ?_)
          clear hK55 K55
          refine Sp.Cd.seq fun K56 hK56 => ?_
          refine Sp.Cd.seq fun K57 hK57 => ?_
          refine Sp.Cd.region ?_
          refine Sp.L.pure (by kernel_rfl) (Sp.Runs.move rfl) ?_
          refine Sp.L.pure (by kernel_rfl) (Sp.Runs.move rfl) ?_
          refine Sp.L.pure (by kernel_rfl) (Sp.Runs.neBF Tryd.underlying4 rfl rfl (by first | rfl | assumption)) ?_
          refine Sp.L.pure (by kernel_rfl) (Sp.Runs.move rfl) ?_
          refine Sp.L.pure (by kernel_rfl) (Sp.Runs.move rfl) ?_
          refine Sp.L.pure (by kernel_rfl) (Sp.Runs.move rfl) ?_
          refine Sp.L.pure (by kernel_rfl) (Sp.Runs.neIF rfl rfl (by first | rfl | assumption | omega)) ?_
          refine Sp.L.pure (by kernel_rfl) (Sp.Runs.pickF rfl rfl) ?_
          refine Sp.L.pure (by kernel_rfl) (Sp.Runs.move rfl) ?_
          refine Sp.L.pure (by kernel_rfl) (Sp.Runs.move rfl) ?_
          refine Sp.L.pure (by kernel_rfl) (Sp.Runs.move rfl) ?_
          refine Sp.L.pure (by kernel_rfl) (Sp.Runs.neBF Tryd.underlying4 rfl rfl (by first | rfl | assumption)) ?_
          refine Sp.L.pure (by kernel_rfl) (Sp.Runs.pickF rfl rfl) ?_
          refine Sp.L.pure (by kernel_rfl) (Sp.Runs.move rfl) ?_
          refine Sp.L.pure (by kernel_rfl) (Sp.Runs.move rfl) ?_
          refine Sp.L.pure (by kernel_rfl) (Sp.Runs.move rfl) ?_
          refine Sp.L.pure (by kernel_rfl) (Sp.Runs.neSF rfl rfl (by first | rfl | assumption)) ?_
          refine Sp.L.pure (by kernel_rfl) (Sp.Runs.pickF rfl rfl) ?_
          refine Sp.L.pure (by kernel_rfl) (Sp.Runs.move rfl) ?_
          refine Sp.L.pure (by kernel_rfl) (Sp.Runs.move rfl) ?_
          refine Sp.L.pure (by kernel_rfl) (Sp.Runs.move rfl) ?_
          refine Sp.L.pure (by kernel_rfl) (Sp.Runs.neBF Tryd.underlying4 rfl rfl (by first | rfl | assumption)) ?_
          refine Sp.L.pure (by kernel_rfl) (Sp.Runs.pickF rfl rfl) ?_
          refine Sp.L.pure (by kernel_rfl) (Sp.Runs.move rfl) ?_
          refine Sp.L.pure (by kernel_rfl) (Sp.Runs.move rfl) ?_
          refine Sp.L.pure (by kernel_rfl) (Sp.Runs.move rfl) ?_
          refine Sp.L.pure (by kernel_rfl) (Sp.Runs.neSF rfl rfl (by first | rfl | assumption)) ?_
          refine Sp.L.pure (by kernel_rfl) (Sp.Runs.pickF rfl rfl) ?_
          refine Sp.L.pure (by kernel_rfl) (Sp.Runs.move rfl) ?_
          refine Sp.L.pure (by kernel_rfl) (Sp.Runs.move rfl) ?_
          refine Sp.L.pure (by kernel_rfl) (Sp.Runs.move rfl) ?_
          refine Sp.L.pure (by kernel_rfl) (Sp.Runs.neIF rfl rfl (by first | rfl | assumption | omega)) ?_
          refine Sp.L.pure (by kernel_rfl) (Sp.Runs.pickF rfl rfl) ?_
          refine Sp.L.pure (by kernel_rfl) (Sp.Runs.move rfl) ?_
          refine Sp.L.pure (by kernel_rfl) (Sp.Runs.move rfl) ?_
          refine Sp.L.pure (by kernel_rfl) (Sp.Runs.move rfl) ?_
          refine Sp.L.pure (by kernel_rfl) (Sp.Runs.neBF Tryd.underlying4 rfl rfl (by first | rfl | assumption)) ?_
          refine Sp.L.pure (by kernel_rfl) (Sp.Runs.pickF rfl rfl) ?_
          refine Sp.L.pure (by kernel_rfl) (Sp.Runs.move rfl) ?_
          refine Sp.L.pure (by kernel_rfl) (Sp.Runs.move rfl) ?_
          refine Sp.L.pure (by kernel_rfl) (Sp.Runs.move rfl) ?_
          refine Sp.L.pure (by kernel_rfl) (Sp.Runs.neIF rfl rfl (by first | rfl | assumption | omega)) ?_
          refine Sp.L.pure (by kernel_rfl) (Sp.Runs.pickF rfl rfl) ?_
          refine Sp.L.pure (by kernel_rfl) (Sp.Runs.move rfl) ?_
          refine Sp.L.pure (by kernel_rfl) (Sp.Runs.move rfl) ?_
          refine Sp.L.pure (by kernel_rfl) (Sp.Runs.move rfl) ?_
          refine Sp.L.pure (by kernel_rfl) (Sp.Runs.neIF rfl rfl (by first | rfl | assumption | omega)) ?_
          refine Sp.L.pure (by kernel_rfl) (Sp.Runs.pickF rfl rfl) ?_
          refine Sp.L.nil ?_
          refine hK57 _ _ (Sp.Cd.sub (S' := [(50, _), (53, _), (62, _), (64, _), (65, _), (66, _), (70, _), (71, _), (72, _), (73, _), (550, _)]) ⟨rfl, rfl, rfl, rfl, rfl, rfl, rfl, rfl, rfl, rfl, rfl, trivial⟩ ?_)
          clear hK57 K57
          refine Sp.Cd.condF rfl ?_
          refine Sp.Cd.skip ?_
          refine hK56 _ _ (Sp.Cd.sub (S' := [(50, _), (53, _), (62, _), (64, _), (65, _), (66, _), (70, _), (71, _), (72, _), (73, _)]) ⟨rfl, rfl, rfl, rfl, rfl, rfl, rfl, rfl, rfl, rfl, trivial⟩ ?_)
          clear hK56 K56
          refine Sp.Cd.cutK [(62, _), (64, _), (65, _), (66, _), (70, _), (71, _), (72, _), (73, _)] ⟨rfl, rfl, rfl, rfl, rfl, rfl, rfl, rfl, trivial⟩ ?_ ?_
          · have B1 : Hid (Below w28.heap.size w28 w28) := Lib.hid (Below.refl _ _)
            rcases cb with _ | _
            · refine Sp.Cd.seq fun K58 hK58 => ?_
              refine Sp.Cd.region ?_
              refine Sp.L.pure (by kernel_rfl) (Sp.Runs.move rfl) ?_
              refine Sp.L.nil ?_
              refine hK58 _ _ (Sp.Cd.sub (S' := [(50, _), (62, _), (64, _), (65, _), (66, _), (70, _), (71, _), (72, _), (73, _), (551, _)]) ⟨rfl, rfl, rfl, rfl, rfl, rfl, rfl, rfl, rfl, rfl, trivial⟩ ?_)
              clear hK58 K58
              refine Sp.Cd.condF rfl ?_
              refine Sp.Cd.skip ?_
              refine Sp.Nx.post () ⟨rfl, rfl, rfl, rfl, rfl, rfl, rfl, rfl, trivial⟩ (B1.out)
            · obtain ⟨i1, i2⟩ : inB length 0 24 = true ∧ inB way 0 3 = true := by unfold cntB at hcb; rw [eq_comm, Bool.and_eq_true] at hcb; exact hcb
              obtain ⟨i3, i4⟩ := inB_yes' i1
              obtain ⟨N, hN⟩ : ∃ N : Nat, length = (N : Int) := ⟨length.toNat, by omega⟩
              subst hN
              have ca := cnt_all (N : Int) i1
              rw [Int.toNat_natCast] at ca
              have cd := fun t => cnt_bd (N : Int) t i1
              simp only [Int.toNat_natCast] at cd
              have pb : ∀ k, k ≤ 24 → 4 ^ k ≤ 281474976710656 := fun k hk => Nat.le_trans (Nat.pow_le_pow_right (by omega) hk) (by decide)
              have pn := pb N (by omega)
              obtain ⟨P4, hP4⟩ : ∃ x : Nat, x = 4 ^ N := ⟨_, rfl⟩
              rw [← hP4] at ca pn
              simp only [← hP4] at cd
              refine Sp.Cd.seq fun K59 hK59 => ?_
              refine Sp.Cd.region ?_
              refine Sp.L.pure (by kernel_rfl) (Sp.Runs.move rfl) ?_
              refine Sp.L.nil ?_
              refine hK59 _ _ (Sp.Cd.sub (S' := [(50, _), (62, _), (64, _), (65, _), (66, _), (70, _), (71, _), (72, _), (73, _), (551, _)]) ⟨rfl, rfl, rfl, rfl, rfl, rfl, rfl, rfl, rfl, rfl, trivial⟩ ?_)
              clear hK59 K59
              refine Sp.Cd.condT rfl ?_
              refine Sp.Cd.seq fun K60 hK60 => ?_
              refine Sp.Cd.region ?_
              refine Sp.L.pure (by kernel_rfl) (Sp.Runs.assign rfl) ?_
              refine Sp.L.pure (by kernel_rfl) (Sp.Runs.assign rfl) ?_
              refine Sp.L.nil ?_
              refine hK60 _ _ (Sp.Cd.sub (S' := [(50, _), (62, _), (64, _), (65, _), (66, _), (70, _), (71, _), (72, _), (73, _), (77, _), (78, _)]) ⟨rfl, rfl, rfl, rfl, rfl, rfl, rfl, rfl, rfl, rfl, rfl, trivial⟩ ?_)
              clear hK60 K60
              refine Sp.Cd.seq fun K61 hK61 => ?_
              refine Sp.Cd.seq fun K62 hK62 => ?_
              refine Sp.Cd.region ?_
              refine Sp.L.pure (by kernel_rfl) (Sp.Runs.assign rfl) ?_
              refine Sp.L.nil ?_
              refine hK62 _ _ (Sp.Cd.sub (S' := [(50, _), (62, _), (64, _), (65, _), (66, _), (70, _), (71, _), (72, _), (73, _), (77, _), (78, _), (79, _)]) ⟨rfl, rfl, rfl, rfl, rfl, rfl, rfl, rfl, rfl, rfl, rfl, rfl, trivial⟩ ?_)
              clear hK62 K62
              refine Sp.Cd.block ?_
              have B2 : Hid (Below w28.heap.size w28 w28) := Lib.hid (Below.refl _ _)
              refine Sp.Cd.loop (ι := Nat) [(50, _), (62, _), (64, _), (65, _), (66, _), (70, _), (71, _), (72, _), (73, _), (77, _)] (fun k2 => [(78, .int .i64 ((4 ^ k2 : Nat) : Int)), (79, .int .i64 (k2 : Nat))]) (fun k2 w' => Hid (Below w28.heap.size w28 w') ∧ (k2 ≤ N)) (fun k2 => N - k2) 0 ⟨rfl, rfl, rfl, rfl, rfl, rfl, rfl, rfl, rfl, rfl, rfl, rfl, trivial⟩ ⟨B2, Nat.zero_le _⟩ ?_
              clear B2
              rintro k2 w29 ⟨B2, hrel⟩
              have b := B2.out
              replace B0 := Lib.hid (B0.out.trans (b.mono B0.out.size))
              replace B1 := Lib.hid (B1.out.trans (b.mono B1.out.size))
              replace HS := Lib.hid (HS.out.below b)
              replace HU := Lib.hid (HU.out.below b)
              replace HYa := Lib.hid (HYa.out.below b)
              replace HYb := Lib.hid (HYb.out.below b)
              clear b
              refine Sp.Cd.sub (S' := [(78, _), (79, _), (50, _), (62, _), (64, _), (65, _), (66, _), (70, _), (71, _), (72, _), (73, _), (77, _)]) ⟨rfl, rfl, rfl, rfl, rfl, rfl, rfl, rfl, rfl, rfl, rfl, rfl, trivial⟩ ?_
              by_cases hlt2 : k2 < N
              · have p2 := pb k2 (by omega)
                have p3 : 4 ^ (k2 + 1) = 4 ^ k2 * 4 := Nat.pow_succ ..
                obtain ⟨x, hx⟩ : ∃ x : Nat, x = 4 ^ k2 := ⟨_, rfl⟩
                rw [← hx] at p2 p3
                simp only [← hx]
                refine Sp.Cd.seq fun K63 hK63 => ?_
                refine Sp.Cd.seq fun K64 hK64 => ?_
                refine Sp.Cd.region ?_
                refine Sp.L.pure (by kernel_rfl) (Sp.Runs.move rfl) ?_
                refine Sp.L.pure (by kernel_rfl) (Sp.Runs.move rfl) ?_
                refine Sp.L.pure (by kernel_rfl) (Sp.Runs.ltIT rfl rfl (by omega)) ?_
                refine Sp.L.nil ?_
                refine hK64 _ _ (Sp.Cd.sub (S' := [(50, _), (62, _), (64, _), (65, _), (66, _), (70, _), (71, _), (72, _), (73, _), (77, _), (78, _), (79, _), (554, _)]) ⟨rfl, rfl, rfl, rfl, rfl, rfl, rfl, rfl, rfl, rfl, rfl, rfl, rfl, trivial⟩ ?_)
                clear hK64 K64
                refine Sp.Cd.condT rfl ?_
                refine Sp.Cd.skip ?_
                refine hK63 _ _ (Sp.Cd.sub (S' := [(50, _), (62, _), (64, _), (65, _), (66, _), (70, _), (71, _), (72, _), (73, _), (77, _), (78, _), (79, _)]) ⟨rfl, rfl, rfl, rfl, rfl, rfl, rfl, rfl, rfl, rfl, rfl, rfl, trivial⟩ ?_)
                clear hK63 K63
                refine Sp.Cd.seq fun K65 hK65 => ?_
                refine Sp.Cd.block ?_
                refine Sp.Cd.region ?_
                refine Sp.L.pure (by kernel_rfl) (Sp.Runs.move rfl) ?_
                refine Sp.L.pure (by kernel_rfl) (Sp.Runs.mulI rfl rfl (Sp.wrapI (by omega) (by omega))) ?_
                refine Sp.L.pure (by kernel_rfl) (Sp.Runs.assign rfl) ?_
                refine Sp.L.nil ?_
                refine Sp.Nx.block ?_
                refine hK65 _ _ (Sp.Cd.sub (S' := [(50, _), (62, _), (64, _), (65, _), (66, _), (70, _), (71, _), (72, _), (73, _), (77, _), (78, _), (79, _)]) ⟨rfl, rfl, rfl, rfl, rfl, rfl, rfl, rfl, rfl, rfl, rfl, rfl, trivial⟩ ?_)
                clear hK65 K65
                refine Sp.Cd.region ?_
                refine Sp.L.pure (by kernel_rfl) (Sp.Runs.move rfl) ?_
                refine Sp.L.pure (by kernel_rfl) (Sp.Runs.addI rfl rfl (Sp.wrapI (by omega) (by omega))) ?_
                refine Sp.L.pure (by kernel_rfl) (Sp.Runs.assign rfl) ?_
                refine Sp.L.nil ?_
                refine Sp.Nx.again (k2 + 1) ⟨(Sp.lkI rfl (by rw [p3]; omega)), (Sp.lkI rfl (by omega)), rfl, rfl, rfl, rfl, rfl, rfl, rfl, rfl, rfl, rfl, trivial⟩ ⟨B2, hlt2⟩ (by omega)
              · obtain rfl : N = k2 := by omega
                refine Sp.Cd.seq fun K66 hK66 => ?_
                refine Sp.Cd.seq fun K67 hK67 => ?_
                refine Sp.Cd.region ?_
                refine Sp.L.pure (by kernel_rfl) (Sp.Runs.move rfl) ?_
                refine Sp.L.pure (by kernel_rfl) (Sp.Runs.move rfl) ?_
                refine Sp.L.pure (by kernel_rfl) (Sp.Runs.ltIF rfl rfl (by omega)) ?_
                refine Sp.L.nil ?_
                refine hK67 _ _ (Sp.Cd.sub (S' := [(50, _), (62, _), (64, _), (65, _), (66, _), (70, _), (71, _), (72, _), (73, _), (77, _), (78, _), (79, _), (554, _)]) ⟨rfl, rfl, rfl, rfl, rfl, rfl, rfl, rfl, rfl, rfl, rfl, rfl, rfl, trivial⟩ ?_)
                clear hK67 K67
                refine Sp.Cd.condF rfl ?_
                refine Sp.Cd.exit ?_
                refine Sp.Ex.then ?_
                clear hK66 K66
                refine Sp.Ex.then ?_
                clear B2
                refine Sp.Ex.hit ?_
                refine hK61 _ _ (Sp.Cd.sub (S' := [(50, _), (62, _), (64, _), (65, _), (66, _), (70, _), (71, _), (72, _), (73, _), (77, _), (78, _)]) ⟨rfl, rfl, rfl, rfl, rfl, rfl, rfl, rfl, rfl, rfl, rfl, trivial⟩ ?_)
                clear hK61 K61
                refine Sp.Cd.seq fun K68 hK68 => ?_
                refine Sp.Cd.seq fun K69 hK69 => ?_
                refine Sp.Cd.region ?_
                refine Sp.L.pure (by kernel_rfl) (Sp.Runs.assign rfl) ?_
                refine Sp.L.nil ?_
                refine hK69 _ _ (Sp.Cd.sub (S' := [(50, _), (62, _), (64, _), (65, _), (66, _), (70, _), (71, _), (72, _), (73, _), (77, _), (78, _), (80, _)]) ⟨rfl, rfl, rfl, rfl, rfl, rfl, rfl, rfl, rfl, rfl, rfl, rfl, trivial⟩ ?_)
                clear hK69 K69
                refine Sp.Cd.block ?_
                have B2 : Hid (Below w29.heap.size w29 w29) := Lib.hid (Below.refl _ _)
                refine Sp.Cd.loop (ι := Nat) [(50, _), (62, _), (64, _), (65, _), (66, _), (70, _), (71, _), (72, _), (73, _), (78, _)] (fun k3 => [(77, .int .i64 (sumC (N : Int) k3)), (80, .int .i64 (k3 : Nat))]) (fun k3 w' => Hid (Below w29.heap.size w29 w') ∧ (k3 ≤ 4)) (fun k3 => 4 - k3) 0 ⟨rfl, rfl, rfl, rfl, rfl, rfl, rfl, rfl, rfl, rfl, rfl, rfl, trivial⟩ ⟨B2, Nat.zero_le _⟩ ?_
                clear B2
                rintro k3 w30 ⟨B2, hrel⟩
                have b := B2.out
                replace B0 := Lib.hid (B0.out.trans (b.mono B0.out.size))
                replace B1 := Lib.hid (B1.out.trans (b.mono B1.out.size))
                replace HS := Lib.hid (HS.out.below b)
                replace HU := Lib.hid (HU.out.below b)
                replace HYa := Lib.hid (HYa.out.below b)
                replace HYb := Lib.hid (HYb.out.below b)
                clear b
                refine Sp.Cd.sub (S' := [(77, _), (80, _), (50, _), (62, _), (64, _), (65, _), (66, _), (70, _), (71, _), (72, _), (73, _), (78, _)]) ⟨rfl, rfl, rfl, rfl, rfl, rfl, rfl, rfl, rfl, rfl, rfl, rfl, trivial⟩ ?_
                have sm1 := cd 0
                have sm2 := cd 1
                have sm3 := cd 2
                have sm4 := cd 3
                by_cases hlt3 : k3 < 4
                · have sb := sumC_bd (N : Int) k3 (by omega) P4 cd
                  have sc := sumC_succ (N : Int) k3
                  have sb2 : (k3 : Int) * (P4 : Int) ≤ 3 * (P4 : Int) := Int.mul_le_mul_of_nonneg_right (by omega) (by omega)
                  have ck := cd (k3 : Int)
                  have wk3 : (Lit.int .i64 (k3 : Int)).wf = true := WalkArith.wf_i64 ⟨by omega, by omega⟩
                  have cb3 : outCountCommandWords_1 (N : Int) (k3 : Int) = true := by unfold outCountCommandWords_1 cntB; rw [i1]; unfold inB; simp; omega
                  refine Sp.Cd.seq fun K70 hK70 => ?_
                  refine Sp.Cd.seq fun K71 hK71 => ?_
                  refine Sp.Cd.region ?_
                  refine Sp.L.pure (by kernel_rfl) (Sp.Runs.move rfl) ?_
                  refine Sp.L.pure (by kernel_rfl) (Sp.Runs.ltIT rfl rfl (by omega)) ?_
                  refine Sp.L.nil ?_
                  refine hK71 _ _ (Sp.Cd.sub (S' := [(50, _), (62, _), (64, _), (65, _), (66, _), (70, _), (71, _), (72, _), (73, _), (77, _), (78, _), (80, _), (560, _)]) ⟨rfl, rfl, rfl, rfl, rfl, rfl, rfl, rfl, rfl, rfl, rfl, rfl, rfl, trivial⟩ ?_)
                  clear hK71 K71
                  refine Sp.Cd.condT rfl ?_
                  refine Sp.Cd.skip ?_
                  refine hK70 _ _ (Sp.Cd.sub (S' := [(50, _), (62, _), (64, _), (65, _), (66, _), (70, _), (71, _), (72, _), (73, _), (77, _), (78, _), (80, _)]) ⟨rfl, rfl, rfl, rfl, rfl, rfl, rfl, rfl, rfl, rfl, rfl, rfl, trivial⟩ ?_)
                  clear hK70 K70
                  refine Sp.Cd.seq fun K72 hK72 => ?_
                  refine Sp.Cd.block ?_
                  refine Sp.Cd.seq fun K73 hK73 => ?_
                  refine Sp.Cd.region ?_
                  refine Sp.L.pure (by kernel_rfl) (Sp.Runs.move rfl) ?_
                  refine Sp.L.pure (by kernel_rfl) (Sp.Runs.move rfl) ?_
                  have CC := implCountCommandWords_any w30 (N : Int) (k3 : Int) wl wk3
                  rw [cb3] at CC
                  refine Sp.L.call (by kernel_rfl) (CC) rfl rfl (by kernel_rfl) ?_
                  clear CC
                  rintro e w31 ⟨rfl, b⟩
                  replace B0 := Lib.hid (B0.out.trans (b.mono B0.out.size))
                  replace B1 := Lib.hid (B1.out.trans (b.mono B1.out.size))
                  replace B2 := Lib.hid (B2.out.trans (b.mono B2.out.size))
                  replace HS := Lib.hid (HS.out.below b)
                  replace HU := Lib.hid (HU.out.below b)
                  replace HYa := Lib.hid (HYa.out.below b)
                  replace HYb := Lib.hid (HYb.out.below b)
                  clear b
                  refine ⟨_, rfl, ?_⟩
                  refine Sp.L.pure (by kernel_rfl) (Sp.Runs.move rfl) ?_
                  refine Sp.L.pure (by kernel_rfl) (Sp.Runs.extract rfl rfl) ?_
                  refine Sp.L.pure (by kernel_rfl) (Sp.Runs.extract rfl rfl) ?_
                  refine Sp.L.pure (by kernel_rfl) (Sp.Runs.assign rfl) ?_
                  refine Sp.L.pure (by kernel_rfl) (Sp.Runs.assign rfl) ?_
                  refine Sp.L.nil ?_
                  refine hK73 _ _ (Sp.Cd.sub (S' := [(50, _), (62, _), (64, _), (65, _), (66, _), (70, _), (71, _), (72, _), (73, _), (77, _), (78, _), (80, _), (81, _), (82, _)]) ⟨rfl, rfl, rfl, rfl, rfl, rfl, rfl, rfl, rfl, rfl, rfl, rfl, rfl, rfl, trivial⟩ ?_)
                  clear hK73 K73
                  refine Sp.Cd.seq fun K74 hK74 => ?_
                  refine Sp.Cd.seq fun K75 hK75 => ?_
                  refine Sp.Cd.region ?_
                  refine Sp.L.pure (by kernel_rfl) (Sp.Runs.move rfl) ?_
                  refine Sp.L.pure (by kernel_rfl) (Sp.Runs.notF rfl) ?_
                  refine Sp.L.nil ?_
                  refine hK75 _ _ (Sp.Cd.sub (S' := [(50, _), (62, _), (64, _), (65, _), (66, _), (70, _), (71, _), (72, _), (73, _), (77, _), (78, _), (80, _), (81, _), (570, _)]) ⟨rfl, rfl, rfl, rfl, rfl, rfl, rfl, rfl, rfl, rfl, rfl, rfl, rfl, rfl, trivial⟩ ?_)
                  clear hK75 K75
                  refine Sp.Cd.condF rfl ?_
                  refine Sp.Cd.skip ?_
                  refine hK74 _ _ (Sp.Cd.sub (S' := [(50, _), (62, _), (64, _), (65, _), (66, _), (70, _), (71, _), (72, _), (73, _), (77, _), (78, _), (80, _), (81, _)]) ⟨rfl, rfl, rfl, rfl, rfl, rfl, rfl, rfl, rfl, rfl, rfl, rfl, rfl, trivial⟩ ?_)
                  clear hK74 K74
                  refine Sp.Cd.region ?_
                  refine Sp.L.pure (by kernel_rfl) (Sp.Runs.move rfl) ?_
                  refine Sp.L.pure (by kernel_rfl) (Sp.Runs.move rfl) ?_
                  refine Sp.L.pure (by kernel_rfl) (Sp.Runs.addI rfl rfl (Sp.wrapI (by omega) (by omega))) ?_
                  refine Sp.L.pure (by kernel_rfl) (Sp.Runs.assign rfl) ?_
                  refine Sp.L.nil ?_
                  refine Sp.Nx.block ?_
                  refine hK72 _ _ (Sp.Cd.sub (S' := [(50, _), (62, _), (64, _), (65, _), (66, _), (70, _), (71, _), (72, _), (73, _), (77, _), (78, _), (80, _)]) ⟨rfl, rfl, rfl, rfl, rfl, rfl, rfl, rfl, rfl, rfl, rfl, rfl, trivial⟩ ?_)
                  clear hK72 K72
                  refine Sp.Cd.region ?_
                  refine Sp.L.pure (by kernel_rfl) (Sp.Runs.move rfl) ?_
                  refine Sp.L.pure (by kernel_rfl) (Sp.Runs.addI rfl rfl (Sp.wrapI (by omega) (by omega))) ?_
                  refine Sp.L.pure (by kernel_rfl) (Sp.Runs.assign rfl) ?_
                  refine Sp.L.nil ?_
                  refine Sp.Nx.again (k3 + 1) ⟨(Sp.lkI rfl sc.symm), (Sp.lkI rfl (by omega)), rfl, rfl, rfl, rfl, rfl, rfl, rfl, rfl, rfl, rfl, trivial⟩ ⟨B2, hlt3⟩ (by omega)
                · obtain rfl : k3 = 4 := by omega
                  refine Sp.Cd.seq fun K76 hK76 => ?_
                  refine Sp.Cd.seq fun K77 hK77 => ?_
                  refine Sp.Cd.region ?_
                  refine Sp.L.pure (by kernel_rfl) (Sp.Runs.move rfl) ?_
                  refine Sp.L.pure (by kernel_rfl) (Sp.Runs.ltIF rfl rfl (by omega)) ?_
                  refine Sp.L.nil ?_
                  refine hK77 _ _ (Sp.Cd.sub (S' := [(50, _), (62, _), (64, _), (65, _), (66, _), (70, _), (71, _), (72, _), (73, _), (77, _), (78, _), (80, _), (560, _)]) ⟨rfl, rfl, rfl, rfl, rfl, rfl, rfl, rfl, rfl, rfl, rfl, rfl, rfl, trivial⟩ ?_)
                  clear hK77 K77
                  refine Sp.Cd.condF rfl ?_
                  refine Sp.Cd.exit ?_
                  refine Sp.Ex.then ?_
                  clear hK76 K76
                  refine Sp.Ex.then ?_
                  clear B2
                  refine Sp.Ex.hit ?_
                  refine hK68 _ _ (Sp.Cd.sub (S' := [(62, _), (64, _), (65, _), (66, _), (70, _), (71, _), (72, _), (73, _), (77, _), (78, _)]) ⟨rfl, rfl, rfl, rfl, rfl, rfl, rfl, rfl, rfl, rfl, trivial⟩ ?_)
                  clear hK68 K68
                  refine Sp.Cd.seq fun K78 hK78 => ?_
                  refine Sp.Cd.region ?_
                  refine Sp.L.pure (by kernel_rfl) (Sp.Runs.move rfl) ?_
                  refine Sp.L.pure (by kernel_rfl) (Sp.Runs.move rfl) ?_
                  refine Sp.L.pure (by kernel_rfl) (Sp.Runs.neIF rfl rfl (by rw [← hP4]; exact (sumC_four _).trans ca)) ?_
                  refine Sp.L.nil ?_
                  refine hK78 _ _ (Sp.Cd.sub (S' := [(62, _), (64, _), (65, _), (66, _), (70, _), (71, _), (72, _), (73, _), (576, _)]) ⟨rfl, rfl, rfl, rfl, rfl, rfl, rfl, rfl, rfl, trivial⟩ ?_)
                  clear hK78 K78
                  refine Sp.Cd.condF rfl ?_
                  refine Sp.Cd.skip ?_
                  refine Sp.Nx.post () ⟨rfl, rfl, rfl, rfl, rfl, rfl, rfl, rfl, trivial⟩ (B1.out)
          · intro w29 b
            replace B0 := Lib.hid (B0.out.trans (b.mono B0.out.size))
            replace HS := Lib.hid (HS.out.below b)
            replace HU := Lib.hid (HU.out.below b)
            replace HYa := Lib.hid (HYa.out.below b)
            replace HYb := Lib.hid (HYb.out.below b)
            clear b
            refine Sp.Cd.cutK [(70, _), (71, _), (72, _), (73, _)] ⟨rfl, rfl, rfl, rfl, trivial⟩ ?_ ?_
            · have B1 : Hid (Below w29.heap.size w29 w29) := Lib.hid (Below.refl _ _)
              rcases bb with _ | _
              · refine Sp.Cd.seq fun K79 hK79 => ?_
                refine Sp.Cd.region ?_
                refine Sp.L.pure (by kernel_rfl) (Sp.Runs.move rfl) ?_
                refine Sp.L.nil ?_
                refine hK79 _ _ (Sp.Cd.sub (S' := [(62, _), (64, _), (65, _), (70, _), (71, _), (72, _), (73, _), (577, _)]) ⟨rfl, rfl, rfl, rfl, rfl, rfl, rfl, rfl, trivial⟩ ?_)
                clear hK79 K79
                refine Sp.Cd.condF rfl ?_
                refine Sp.Cd.skip ?_
                refine Sp.Nx.post () ⟨rfl, rfl, rfl, rfl, trivial⟩ (B1.out)
              · obtain ⟨j1, j2⟩ : faceB f = true ∧ inB w 0 3 = true := by unfold outBestCommand_2 at hbb; rw [eq_comm, Bool.and_eq_true] at hbb; exact hbb
                have Z := faceF j1
                obtain ⟨j3, j4⟩ := inB_yes' j2
                obtain ⟨b1, t, b2, b3⟩ := best_most (fsOf f) Z.n1 Z.lt w.toNat (by omega)
                have r1 : outMostFaced_1 f = outBestCommand_1 f w := by unfold outMostFaced_1 outBestCommand_1; rw [j1, j2]; simp only [if_true]; exact b1.symm
                have r2 : (outBestCommand_0 f w).size = 1 := by unfold outBestCommand_0; rw [j1, j2]; simp only [if_true]; rw [b3]; rfl
                refine Sp.Cd.seq fun K80 hK80 => ?_
                refine Sp.Cd.region ?_
                refine Sp.L.pure (by kernel_rfl) (Sp.Runs.move rfl) ?_
                refine Sp.L.nil ?_
                refine hK80 _ _ (Sp.Cd.sub (S' := [(62, _), (64, _), (65, _), (70, _), (71, _), (72, _), (73, _), (577, _)]) ⟨rfl, rfl, rfl, rfl, rfl, rfl, rfl, rfl, trivial⟩ ?_)
                clear hK80 K80
                refine Sp.Cd.condT rfl ?_
                refine Sp.Cd.seq fun K81 hK81 => ?_
                refine Sp.Cd.region ?_
                refine Sp.L.pure (by kernel_rfl) (Sp.Runs.move rfl) ?_
                have CC := implMostFaced_any w29 f hff z5
                rw [show outMostFaced_2 f = true from j1, r1] at CC
                refine Sp.L.call (by kernel_rfl) (CC) rfl rfl (by kernel_rfl) ?_
                clear CC
                rintro e w30 ⟨rfl, b⟩
                replace B0 := Lib.hid (B0.out.trans (b.mono B0.out.size))
                replace B1 := Lib.hid (B1.out.trans (b.mono B1.out.size))
                replace HS := Lib.hid (HS.out.below b)
                replace HU := Lib.hid (HU.out.below b)
                replace HYa := Lib.hid (HYa.out.below b)
                replace HYb := Lib.hid (HYb.out.below b)
                clear b
                refine ⟨_, rfl, ?_⟩
                refine Sp.L.pure (by kernel_rfl) (Sp.Runs.move rfl) ?_
                refine Sp.L.pure (by kernel_rfl) (Sp.Runs.extract rfl rfl) ?_
                refine Sp.L.pure (by kernel_rfl) (Sp.Runs.extract rfl rfl) ?_
                refine Sp.L.pure (by kernel_rfl) (Sp.Runs.extract rfl rfl) ?_
                refine Sp.L.pure (by kernel_rfl) (Sp.Runs.assign rfl) ?_
                refine Sp.L.pure (by kernel_rfl) (Sp.Runs.assign rfl) ?_
                refine Sp.L.pure (by kernel_rfl) (Sp.Runs.assign rfl) ?_
                refine Sp.L.nil ?_
                refine hK81 _ _ (Sp.Cd.sub (S' := [(64, _), (65, _), (70, _), (71, _), (72, _), (73, _), (84, _), (85, _)]) ⟨rfl, rfl, rfl, rfl, rfl, rfl, rfl, rfl, trivial⟩ ?_)
                clear hK81 K81
                refine Sp.Cd.seq fun K82 hK82 => ?_
                refine Sp.Cd.region ?_
                refine Sp.L.pure (by kernel_rfl) (Sp.Runs.move rfl) ?_
                refine Sp.L.pure (by kernel_rfl) (Sp.Runs.notF rfl) ?_
                refine Sp.L.pure (by kernel_rfl) (Sp.Runs.move rfl) ?_
                refine Sp.L.pure (by kernel_rfl) (Sp.Runs.move rfl) ?_
                refine Sp.L.pure (by kernel_rfl) (Sp.Runs.move rfl) ?_
                refine Sp.L.pure (by kernel_rfl) (Sp.Runs.neIF rfl rfl (by first | rfl | assumption | omega)) ?_
                refine Sp.L.pure (by kernel_rfl) (Sp.Runs.pickF rfl rfl) ?_
                refine Sp.L.pure (by kernel_rfl) (Sp.Runs.move rfl) ?_
                refine Sp.L.pure (by kernel_rfl) (Sp.Runs.move rfl) ?_
                refine Sp.L.pure (by kernel_rfl) (Sp.Runs.lenS Tryd.underlying9 rfl) ?_
                refine Sp.L.pure (by kernel_rfl) (Sp.Runs.neIF rfl rfl (congrArg (fun n : Nat => (n : Int)) r2)) ?_
                refine Sp.L.pure (by kernel_rfl) (Sp.Runs.pickF rfl rfl) ?_
                refine Sp.L.nil ?_
                refine hK82 _ _ (Sp.Cd.sub (S' := [(70, _), (71, _), (72, _), (73, _), (595, _)]) ⟨rfl, rfl, rfl, rfl, rfl, trivial⟩ ?_)
                clear hK82 K82
                refine Sp.Cd.condF rfl ?_
                refine Sp.Cd.skip ?_
                refine Sp.Nx.post () ⟨rfl, rfl, rfl, rfl, trivial⟩ (B1.out)
            · intro w30 b
              replace B0 := Lib.hid (B0.out.trans (b.mono B0.out.size))
              replace HS := Lib.hid (HS.out.below b)
              replace HU := Lib.hid (HU.out.below b)
              replace HYa := Lib.hid (HYa.out.below b)
              replace HYb := Lib.hid (HYb.out.below b)
              clear b
              rcases gb with _ | _
              · refine Sp.Cd.seq fun K83 hK83 => ?_
                refine Sp.Cd.region ?_
                refine Sp.L.pure (by kernel_rfl) (Sp.Runs.move rfl) ?_
                refine Sp.L.pure (by kernel_rfl) (Sp.Runs.notT rfl) ?_
                refine Sp.L.pure (by kernel_rfl) (Sp.Runs.move rfl) ?_
                refine Sp.L.skip (by kernel_rfl) ?_
                refine Sp.L.skip (by kernel_rfl) ?_
                refine Sp.L.skip (by kernel_rfl) ?_
                refine Sp.L.skip (by kernel_rfl) ?_
                refine Sp.L.skip (by kernel_rfl) ?_
                refine Sp.L.skip (by kernel_rfl) ?_
                refine Sp.L.skip (by kernel_rfl) ?_
                refine Sp.L.skip (by kernel_rfl) ?_
                refine Sp.L.skip (by kernel_rfl) ?_
                refine Sp.L.skip (by kernel_rfl) ?_
                refine Sp.L.skip (by kernel_rfl) ?_
                refine Sp.L.skip (by kernel_rfl) ?_
                refine Sp.L.skip (by kernel_rfl) ?_
                refine Sp.L.pure (by kernel_rfl) (Sp.Runs.pickT rfl rfl) ?_
                refine Sp.L.pure (by kernel_rfl) (Sp.Runs.assign rfl) ?_
                refine Sp.L.nil ?_
                refine hK83 _ _ (Sp.Cd.sub (S' := [(4, _)]) ⟨rfl, trivial⟩ ?_)
                clear hK83 K83
                refine Sp.Cd.ret ?_
                refine Sp.Rt.body rfl rfl ?_
                exact ⟨rfl, B0.out⟩
              · have Z := faceF hgb.symm
                obtain ⟨g1, g2⟩ := most_all (fsOf g) Z.n1 Z.lt
                have g3 := (most_le (fsOf g) 4).2
                have g4 := Z.len
                have g5 : outMostFaced_1 g = ((most (fsOf g) 4).2 : Nat) := by unfold outMostFaced_1; rw [← hgb]; rfl
                have g6 : outMostFaced_0 g = ((most (fsOf g) 4).1 : Nat) := by unfold outMostFaced_0; rw [← hgb]; rfl
                have g7 := Z.size
                refine Sp.Cd.seq fun K84 hK84 => ?_
                refine Sp.Cd.region ?_
                refine Sp.L.pure (by kernel_rfl) (Sp.Runs.move rfl) ?_
                refine Sp.L.pure (by kernel_rfl) (Sp.Runs.notF rfl) ?_
                refine Sp.L.pure (by kernel_rfl) (Sp.Runs.move rfl) ?_
                refine Sp.L.pure (by kernel_rfl) (Sp.Runs.move rfl) ?_
                refine Sp.L.pure (by kernel_rfl) (Sp.Runs.mulI rfl rfl (Sp.wrapI (by omega) (by omega))) ?_
                refine Sp.L.pure (by kernel_rfl) (Sp.Runs.move rfl) ?_
                refine Sp.L.pure (by kernel_rfl) (Sp.Runs.lenS Tryd.underlying9 rfl) ?_
                refine Sp.L.pure (by kernel_rfl) (Sp.Runs.geIT rfl rfl (by omega)) ?_
                refine Sp.L.pure (by kernel_rfl) (Sp.Runs.move rfl) ?_
                refine Sp.L.pure (by kernel_rfl) (Sp.Runs.move rfl) ?_
                refine Sp.L.pure (by kernel_rfl) (Sp.Runs.geIT rfl rfl (by omega)) ?_
                refine Sp.L.pure (by kernel_rfl) (Sp.Runs.pickT rfl rfl) ?_
                refine Sp.L.pure (by kernel_rfl) (Sp.Runs.move rfl) ?_
                refine Sp.L.pure (by kernel_rfl) (Sp.Runs.move rfl) ?_
                refine Sp.L.pure (by kernel_rfl) (Sp.Runs.ltIT rfl rfl (by omega)) ?_
                refine Sp.L.pure (by kernel_rfl) (Sp.Runs.pickT rfl rfl) ?_
                refine Sp.L.pure (by kernel_rfl) (Sp.Runs.pickF rfl rfl) ?_
                refine Sp.L.pure (by kernel_rfl) (Sp.Runs.assign rfl) ?_
                refine Sp.L.nil ?_
                refine hK84 _ _ (Sp.Cd.sub (S' := [(4, _)]) ⟨rfl, trivial⟩ ?_)
                clear hK84 K84
                refine Sp.Cd.ret ?_
                refine Sp.Rt.body rfl rfl ?_
                exact ⟨rfl, B0.out⟩
  · refine Sp.Cd.condT rfl ?_
    refine Sp.Cd.seq fun K85 hK85 => ?_
    refine Sp.Cd.region ?_
    refine Sp.L.pure (by kernel_rfl) (Sp.Runs.assign rfl) ?_
    refine Sp.L.nil ?_
    refine hK85 _ _ (Sp.Cd.sub (S' := [(4, _)]) ⟨rfl, trivial⟩ ?_)
    clear hK85 K85
    refine Sp.Cd.ret ?_
    refine Sp.Rt.then ?_
    refine Sp.Rt.body rfl rfl ?_
    exact ⟨rfl, B0.out⟩
end Go.Proofs.YtjbomclildkjaaaDoor
