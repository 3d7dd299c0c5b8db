/- The walk of the composite law FnDrillsMistakenOfAll. Written by a program of mine (tools/sp/w_dm.py). -/
import Derived.Test.YtjbomclildkjaaaDoorQmk
import Derived.Test.YtjbomclildkjaaaDoorIb
import Derived.Test.YtjbomclildkjaaaDoorIp
import Derived.Test.YtjbomclildkjaaaDoorIq
import Derived.Test.YtjbomclildkjaaaDoorIs
import Derived.Test.YtjbomclildkjaaaDoorIl
import Derived.Lib.OthersKept
namespace Go.Proofs.YtjbomclildkjaaaDoor
open Go.ChangeShapes Go.WideShapes Go.ChangeAt Go.RowKit
open Dr Dt Dm Qs
set_option maxRecDepth 20000 in
set_option maxHeartbeats 40000000 in
theorem walkFnDrillsMistakenOfAll (facing word : ByteArray) (am : Option Addr) (lm cm : Nat) (ps : List RMistake) (sw : ByteArray) (k turn soldiers : Int) (said : ByteArray) (an : Option Addr) (ln cn : Nat) (qs : List RMistake) (hf : facing.size ≤ maxLen) (hw : word.size ≤ maxLen) (hs : sw.size ≤ maxLen) (wk : (Lit.int .i64 k).wf = true) (wt : (Lit.int .i64 turn).wf = true) (wso : (Lit.int .i64 soldiers).wf = true) (hsd : said.size ≤ maxLen) (w0 : World)
    (hm : CameMistake w0 am lm ps) (hmc : lm ≤ cm ∧ cm ≤ 9223372036854775807) (hn : CameMistake w0 an ln qs) (hnc : ln ≤ cn ∧ cn ≤ 9223372036854775807) (ht_signOfTurn : Tab_signOfTurn w0) :
    Calls Tryd.prog 6 #[.string facing, .string word, .slice am lm cm, .string sw, .int .i64 k, .int .i64 turn, .int .i64 soldiers, .string said, .slice an ln cn] w0 fun e w' => e = .returned (.bool true) ∧ Below w0.heap.size w0 w' := by
  have B0 : Hid (Below w0.heap.size w0 w0) := Lib.hid (Below.refl _ _)
  have HS := Lib.hid ht_signOfTurn
  have HM := Lib.hid hm
  have HN := Lib.hid hn
  have hml := hm.1
  clear ht_signOfTurn hm hn
  obtain ⟨ok, hok⟩ : ∃ x, x = outFacingWithMistakes_1 facing word ps := ⟨_, rfl⟩
  obtain ⟨af, haf⟩ : ∃ x, x = outFacingWithMistakes_0 facing word ps := ⟨_, rfl⟩
  obtain ⟨wr, hwr⟩ : ∃ x, x = outWrongSoldiers_0 facing word ps := ⟨_, rfl⟩
  obtain ⟨co, hco⟩ : ∃ x, x = outCorrectionsOf_0 facing word ps := ⟨_, rfl⟩
  obtain ⟨pl, hpl⟩ : ∃ x, x = outFacingAfter_0 facing word := ⟨_, rfl⟩
  obtain ⟨b5, hb5⟩ : ∃ x, x = outWaysToFace_1 sw k turn := ⟨_, rfl⟩
  obtain ⟨wy, hwy⟩ : ∃ x, x = outWaysToFace_0 sw k turn := ⟨_, rfl⟩
  obtain ⟨bl, hbl⟩ : ∃ x, x = outAreMistakes_0 soldiers said qs := ⟨_, rfl⟩
  have MF : ok = true → MistF facing word ps af wr co pl facing.size := fun h => by rw [haf, hwr, hco, hpl]; exact mistF (hok.symm.trans h)
  have le1 : facing.size ≤ 1048576 → word.size ≤ 1048576 → wr.length ≤ 4611686018427387904 := fun x y => by rw [hwr]; exact lenWrongSoldiers_0 facing word ps x y
  have e2 : outWrongSoldiers_1 facing word ps = ok := hok.symm
  have e3 : outCorrectionsOf_1 facing word ps = ok := hok.symm
  have ml : maxLen = 9223372036854775807 := rfl
  by_cases z1 : facing.size ≤ 1048576
  · by_cases z2 : word.size ≤ 1048576
    · by_cases z3 : lm ≤ 10000
      · by_cases z4 : sw.size ≤ 1048576
        · by_cases z5 : said.size ≤ 1048576
          · by_cases z6 : ln ≤ 10000
            · refine Sp.enter (N := 385) (args := [.string facing, .string word, .slice am lm cm, .string sw, .int .i64 k, .int .i64 turn, .int .i64 soldiers, .string said, .slice an ln cn]) Tryd.func6 rfl rfl (by kernel_rfl) ?_
              refine Sp.Cd.seq fun K1 hK1 => ?_
              refine Sp.Cd.region ?_
              refine Sp.L.pure (by kernel_rfl) (Sp.Runs.assign rfl) ?_
              refine Sp.L.nil ?_
              refine hK1 _ _ (Sp.Cd.sub (S' := [(0, _), (1, _), (2, _), (3, _), (4, _), (5, _), (6, _), (7, _), (8, _)]) ⟨rfl, rfl, rfl, rfl, rfl, rfl, rfl, rfl, rfl, trivial⟩ ?_)
              clear hK1 K1
              refine Sp.Cd.seq fun K2 hK2 => ?_
              refine Sp.Cd.seq fun K3 hK3 => ?_
              refine Sp.Cd.region ?_
              refine Sp.L.pure (by kernel_rfl) (Sp.Runs.move rfl) ?_
              refine Sp.L.pure (by kernel_rfl) (Sp.Runs.lenS Tryd.underlying9 rfl) ?_
              refine Sp.L.pure (by kernel_rfl) (Sp.Runs.gtIF rfl rfl (by omega)) ?_
              refine Sp.L.pure (by kernel_rfl) (Sp.Runs.move rfl) ?_
              refine Sp.L.pure (by kernel_rfl) (Sp.Runs.move rfl) ?_
              refine Sp.L.pure (by kernel_rfl) (Sp.Runs.lenS Tryd.underlying9 rfl) ?_
              refine Sp.L.pure (by kernel_rfl) (Sp.Runs.gtIF rfl rfl (by omega)) ?_
              refine Sp.L.pure (by kernel_rfl) (Sp.Runs.pickF rfl rfl) ?_
              refine Sp.L.pure (by kernel_rfl) (Sp.Runs.move rfl) ?_
              refine Sp.L.pure (by kernel_rfl) (Sp.Runs.move rfl) ?_
              refine Sp.L.pure (by kernel_rfl) (Sp.Runs.lenL Tryd.underlying43 rfl) ?_
              refine Sp.L.pure (by kernel_rfl) (Sp.Runs.gtIF rfl rfl (by omega)) ?_
              refine Sp.L.pure (by kernel_rfl) (Sp.Runs.pickF rfl rfl) ?_
              refine Sp.L.pure (by kernel_rfl) (Sp.Runs.move rfl) ?_
              refine Sp.L.pure (by kernel_rfl) (Sp.Runs.move rfl) ?_
              refine Sp.L.pure (by kernel_rfl) (Sp.Runs.lenS Tryd.underlying9 rfl) ?_
              refine Sp.L.pure (by kernel_rfl) (Sp.Runs.gtIF rfl rfl (by omega)) ?_
              refine Sp.L.pure (by kernel_rfl) (Sp.Runs.pickF rfl rfl) ?_
              refine Sp.L.pure (by kernel_rfl) (Sp.Runs.move rfl) ?_
              refine Sp.L.pure (by kernel_rfl) (Sp.Runs.move rfl) ?_
              refine Sp.L.pure (by kernel_rfl) (Sp.Runs.lenS Tryd.underlying9 rfl) ?_
              refine Sp.L.pure (by kernel_rfl) (Sp.Runs.gtIF rfl rfl (by omega)) ?_
              refine Sp.L.pure (by kernel_rfl) (Sp.Runs.pickF rfl rfl) ?_
              refine Sp.L.pure (by kernel_rfl) (Sp.Runs.move rfl) ?_
              refine Sp.L.pure (by kernel_rfl) (Sp.Runs.move rfl) ?_
              refine Sp.L.pure (by kernel_rfl) (Sp.Runs.lenL Tryd.underlying43 rfl) ?_
              refine Sp.L.pure (by kernel_rfl) (Sp.Runs.gtIF rfl rfl (by omega)) ?_
              refine Sp.L.pure (by kernel_rfl) (Sp.Runs.pickF rfl rfl) ?_
              refine Sp.L.nil ?_
              refine hK3 _ _ (Sp.Cd.sub (S' := [(0, _), (1, _), (2, _), (3, _), (4, _), (5, _), (6, _), (7, _), (8, _), (80, _)]) ⟨rfl, rfl, rfl, rfl, rfl, rfl, rfl, rfl, rfl, rfl, trivial⟩ ?_)
              clear hK3 K3
              refine Sp.Cd.condF rfl ?_
              refine Sp.Cd.skip ?_
              refine hK2 _ _ (Sp.Cd.sub (S' := [(0, _), (1, _), (2, _), (3, _), (4, _), (5, _), (6, _), (7, _), (8, _)]) ⟨rfl, rfl, rfl, rfl, rfl, rfl, rfl, rfl, rfl, trivial⟩ ?_)
              clear hK2 K2
              refine Sp.Cd.seq fun K4 hK4 => ?_
              refine Sp.Cd.region ?_
              refine Sp.L.pure (by kernel_rfl) (Sp.Runs.move rfl) ?_
              refine Sp.L.pure (by kernel_rfl) (Sp.Runs.move rfl) ?_
              refine Sp.L.pure (by kernel_rfl) (Sp.Runs.move rfl) ?_
              have CC := implFacingWithMistakes_any w0 facing word am lm cm ps hf hw z1 z2 (by omega) HM.out hmc HS.out
              rw [← haf, ← hok] at CC
              refine Sp.L.call (by kernel_rfl) (CC) rfl rfl (by kernel_rfl) ?_
              clear CC
              rintro e w1 ⟨rfl, b⟩
              replace B0 := Lib.hid (B0.out.trans (b.mono B0.out.size))
              replace HS := Lib.hid (HS.out.below b)
              replace HM := Lib.hid (HM.out.below b)
              replace HN := Lib.hid (HN.out.below b)
              clear b
              refine ⟨_, rfl, ?_⟩
              refine Sp.L.pure (by kernel_rfl) (Sp.Runs.move rfl) ?_
              refine Sp.L.pure (by kernel_rfl) (Sp.Runs.extract rfl rfl) ?_
              refine Sp.L.pure (by kernel_rfl) (Sp.Runs.extract rfl rfl) ?_
              refine Sp.L.pure (by kernel_rfl) (Sp.Runs.assign rfl) ?_
              refine Sp.L.pure (by kernel_rfl) (Sp.Runs.assign rfl) ?_
              refine Sp.L.nil ?_
              refine hK4 _ _ (Sp.Cd.sub (S' := [(0, _), (1, _), (2, _), (3, _), (4, _), (5, _), (6, _), (7, _), (8, _), (19, _), (20, _)]) ⟨rfl, rfl, rfl, rfl, rfl, rfl, rfl, rfl, rfl, rfl, rfl, trivial⟩ ?_)
              clear hK4 K4
              refine Sp.Cd.seq fun K5 hK5 => ?_
              refine Sp.Cd.region ?_
              refine Sp.L.pure (by kernel_rfl) (Sp.Runs.move rfl) ?_
              refine Sp.L.pure (by kernel_rfl) (Sp.Runs.move rfl) ?_
              refine Sp.L.pure (by kernel_rfl) (Sp.Runs.move rfl) ?_
              have CC := specFacingWithMistakes_any w1 facing word am lm cm ps hf hw z1 z2 (by omega) HM.out hmc
              rw [← haf, ← hok] at CC
              refine Sp.L.call (by kernel_rfl) (CC) rfl rfl (by kernel_rfl) ?_
              clear CC
              rintro e w2 ⟨rfl, b⟩
              replace B0 := Lib.hid (B0.out.trans (b.mono B0.out.size))
              replace HS := Lib.hid (HS.out.below b)
              replace HM := Lib.hid (HM.out.below b)
              replace HN := Lib.hid (HN.out.below b)
              clear b
              refine ⟨_, rfl, ?_⟩
              refine Sp.L.pure (by kernel_rfl) (Sp.Runs.move rfl) ?_
              refine Sp.L.pure (by kernel_rfl) (Sp.Runs.extract rfl rfl) ?_
              refine Sp.L.pure (by kernel_rfl) (Sp.Runs.extract rfl rfl) ?_
              refine Sp.L.pure (by kernel_rfl) (Sp.Runs.assign rfl) ?_
              refine Sp.L.pure (by kernel_rfl) (Sp.Runs.assign rfl) ?_
              refine Sp.L.nil ?_
              refine hK5 _ _ (Sp.Cd.sub (S' := [(0, _), (1, _), (2, _), (3, _), (4, _), (5, _), (6, _), (7, _), (8, _), (19, _), (20, _), (21, _), (22, _)]) ⟨rfl, rfl, rfl, rfl, rfl, rfl, rfl, rfl, rfl, rfl, rfl, rfl, rfl, trivial⟩ ?_)
              clear hK5 K5
              refine Sp.Cd.seq fun K6 hK6 => ?_
              refine Sp.Cd.region ?_
              refine Sp.L.pure (by kernel_rfl) (Sp.Runs.move rfl) ?_
              refine Sp.L.pure (by kernel_rfl) (Sp.Runs.move rfl) ?_
              refine Sp.L.pure (by kernel_rfl) (Sp.Runs.move rfl) ?_
              have CC := implWrongSoldiers_any w2 facing word am lm cm ps hf hw z1 z2 (by omega) HM.out hmc HS.out
              rw [← hwr, e2] at CC
              refine Sp.L.call (by kernel_rfl) (CC) rfl rfl (by kernel_rfl) ?_
              clear CC
              rintro e w3 ⟨vwri, rfl, owri, b⟩
              replace B0 := Lib.hid (B0.out.trans (b.mono B0.out.size))
              replace HS := Lib.hid (HS.out.below b)
              replace HM := Lib.hid (HM.out.below b)
              replace HN := Lib.hid (HN.out.below b)
              clear b
              obtain ⟨awri, cwri, ewri, hwri, pwri, qwri⟩ := owri.cameC
              obtain ⟨lwri, hlwri⟩ : ∃ n, n = (wr).length := ⟨_, rfl⟩
              rw [← hlwri] at ewri hwri pwri
              have Hwri := Lib.hid hwri
              have Lwri := Lib.hid hlwri
              have Pwri := Lib.hid (And.intro pwri qwri)
              clear hwri hlwri pwri qwri owri
              subst ewri
              refine ⟨_, rfl, ?_⟩
              refine Sp.L.pure (by kernel_rfl) (Sp.Runs.move rfl) ?_
              refine Sp.L.pure (by kernel_rfl) (Sp.Runs.extract rfl rfl) ?_
              refine Sp.L.pure (by kernel_rfl) (Sp.Runs.extract rfl rfl) ?_
              refine Sp.L.pure (by kernel_rfl) (Sp.Runs.assign rfl) ?_
              refine Sp.L.pure (by kernel_rfl) (Sp.Runs.assign rfl) ?_
              refine Sp.L.nil ?_
              refine hK6 _ _ (Sp.Cd.sub (S' := [(0, _), (1, _), (2, _), (3, _), (4, _), (5, _), (6, _), (7, _), (8, _), (19, _), (20, _), (21, _), (22, _), (23, _), (24, _)]) ⟨rfl, rfl, rfl, rfl, rfl, rfl, rfl, rfl, rfl, rfl, rfl, rfl, rfl, rfl, rfl, trivial⟩ ?_)
              clear hK6 K6
              refine Sp.Cd.seq fun K7 hK7 => ?_
              refine Sp.Cd.region ?_
              refine Sp.L.pure (by kernel_rfl) (Sp.Runs.move rfl) ?_
              refine Sp.L.pure (by kernel_rfl) (Sp.Runs.move rfl) ?_
              refine Sp.L.pure (by kernel_rfl) (Sp.Runs.move rfl) ?_
              have CC := specWrongSoldiers_any w3 facing word am lm cm ps hf hw z1 z2 (by omega) HM.out hmc
              rw [← hwr, e2] at CC
              refine Sp.L.call (by kernel_rfl) (CC) rfl rfl (by kernel_rfl) ?_
              clear CC
              rintro e w4 ⟨vwrs, rfl, owrs, b⟩
              replace B0 := Lib.hid (B0.out.trans (b.mono B0.out.size))
              replace HS := Lib.hid (HS.out.below b)
              replace HM := Lib.hid (HM.out.below b)
              replace HN := Lib.hid (HN.out.below b)
              replace Hwri := Lib.hid (Hwri.out.below b)
              clear b
              obtain ⟨awrs, cwrs, ewrs, hwrs, pwrs, qwrs⟩ := owrs.cameC
              obtain ⟨lwrs, hlwrs⟩ : ∃ n, n = (wr).length := ⟨_, rfl⟩
              rw [← hlwrs] at ewrs hwrs pwrs
              have Hwrs := Lib.hid hwrs
              have Lwrs := Lib.hid hlwrs
              have Pwrs := Lib.hid (And.intro pwrs qwrs)
              clear hwrs hlwrs pwrs qwrs owrs
              subst ewrs
              refine ⟨_, rfl, ?_⟩
              refine Sp.L.pure (by kernel_rfl) (Sp.Runs.move rfl) ?_
              refine Sp.L.pure (by kernel_rfl) (Sp.Runs.extract rfl rfl) ?_
              refine Sp.L.pure (by kernel_rfl) (Sp.Runs.extract rfl rfl) ?_
              refine Sp.L.pure (by kernel_rfl) (Sp.Runs.assign rfl) ?_
              refine Sp.L.pure (by kernel_rfl) (Sp.Runs.assign rfl) ?_
              refine Sp.L.nil ?_
              refine hK7 _ _ (Sp.Cd.sub (S' := [(0, _), (1, _), (2, _), (3, _), (4, _), (5, _), (6, _), (7, _), (8, _), (19, _), (20, _), (21, _), (22, _), (23, _), (24, _), (25, _), (26, _)]) ⟨rfl, rfl, rfl, rfl, rfl, rfl, rfl, rfl, rfl, rfl, rfl, rfl, rfl, rfl, rfl, rfl, rfl, trivial⟩ ?_)
              clear hK7 K7
              refine Sp.Cd.seq fun K8 hK8 => ?_
              refine Sp.Cd.region ?_
              refine Sp.L.pure (by kernel_rfl) (Sp.Runs.move rfl) ?_
              refine Sp.L.pure (by kernel_rfl) (Sp.Runs.move rfl) ?_
              refine Sp.L.pure (by kernel_rfl) (Sp.Runs.move rfl) ?_
              have CC := implCorrectionsOf_any w4 facing word am lm cm ps hf hw z1 z2 (by omega) HM.out hmc HS.out
              rw [← hco, e3] at CC
              refine Sp.L.call (by kernel_rfl) (CC) rfl rfl (by kernel_rfl) ?_
              clear CC
              rintro e w5 ⟨rfl, b⟩
              replace B0 := Lib.hid (B0.out.trans (b.mono B0.out.size))
              replace HS := Lib.hid (HS.out.below b)
              replace HM := Lib.hid (HM.out.below b)
              replace HN := Lib.hid (HN.out.below b)
              replace Hwri := Lib.hid (Hwri.out.below b)
              replace Hwrs := Lib.hid (Hwrs.out.below b)
              clear b
              refine ⟨_, rfl, ?_⟩
              refine Sp.L.pure (by kernel_rfl) (Sp.Runs.move rfl) ?_
              refine Sp.L.pure (by kernel_rfl) (Sp.Runs.extract rfl rfl) ?_
              refine Sp.L.pure (by kernel_rfl) (Sp.Runs.extract rfl rfl) ?_
              refine Sp.L.pure (by kernel_rfl) (Sp.Runs.assign rfl) ?_
              refine Sp.L.pure (by kernel_rfl) (Sp.Runs.assign rfl) ?_
              refine Sp.L.nil ?_
              refine hK8 _ _ (Sp.Cd.sub (S' := [(0, _), (1, _), (2, _), (3, _), (4, _), (5, _), (6, _), (7, _), (8, _), (19, _), (20, _), (21, _), (22, _), (23, _), (24, _), (25, _), (26, _), (27, _), (28, _)]) ⟨rfl, rfl, rfl, rfl, rfl, rfl, rfl, rfl, rfl, rfl, rfl, rfl, rfl, rfl, rfl, rfl, rfl, rfl, rfl, trivial⟩ ?_)
              clear hK8 K8
              refine Sp.Cd.seq fun K9 hK9 => ?_
              refine Sp.Cd.region ?_
              refine Sp.L.pure (by kernel_rfl) (Sp.Runs.move rfl) ?_
              refine Sp.L.pure (by kernel_rfl) (Sp.Runs.move rfl) ?_
              refine Sp.L.pure (by kernel_rfl) (Sp.Runs.move rfl) ?_
              have CC := specCorrectionsOf_any w5 facing word am lm cm ps hf hw z1 z2 (by omega) HM.out hmc
              rw [← hco, e3] at CC
              refine Sp.L.call (by kernel_rfl) (CC) rfl rfl (by kernel_rfl) ?_
              clear CC
              rintro e w6 ⟨rfl, b⟩
              replace B0 := Lib.hid (B0.out.trans (b.mono B0.out.size))
              replace HS := Lib.hid (HS.out.below b)
              replace HM := Lib.hid (HM.out.below b)
              replace HN := Lib.hid (HN.out.below b)
              replace Hwri := Lib.hid (Hwri.out.below b)
              replace Hwrs := Lib.hid (Hwrs.out.below b)
              clear b
              refine ⟨_, rfl, ?_⟩
              refine Sp.L.pure (by kernel_rfl) (Sp.Runs.move rfl) ?_
              refine Sp.L.pure (by kernel_rfl) (Sp.Runs.extract rfl rfl) ?_
              refine Sp.L.pure (by kernel_rfl) (Sp.Runs.extract rfl rfl) ?_
              refine Sp.L.pure (by kernel_rfl) (Sp.Runs.assign rfl) ?_
              refine Sp.L.pure (by kernel_rfl) (Sp.Runs.assign rfl) ?_
              refine Sp.L.nil ?_
              refine hK9 _ _ (Sp.Cd.sub (S' := [(0, _), (1, _), (2, _), (3, _), (4, _), (5, _), (6, _), (7, _), (8, _), (19, _), (20, _), (21, _), (22, _), (23, _), (24, _), (25, _), (26, _), (27, _), (28, _), (29, _), (30, _)]) ⟨rfl, rfl, rfl, rfl, rfl, rfl, rfl, rfl, rfl, rfl, rfl, rfl, rfl, rfl, rfl, rfl, rfl, rfl, rfl, rfl, rfl, trivial⟩ ?_)
              clear hK9 K9
              refine Sp.Cd.seq fun K10 hK10 => ?_
              refine Sp.Cd.seq fun K11 hK11 => ?_
              refine Sp.Cd.region ?_
              refine Sp.L.pure (by kernel_rfl) (Sp.Runs.move rfl) ?_
              refine Sp.L.pure (by kernel_rfl) (Sp.Runs.move rfl) ?_
              refine Sp.L.pure (by kernel_rfl) (Sp.Runs.neBF Tryd.underlying4 rfl rfl (by first | rfl | assumption)) ?_
              refine Sp.L.pure (by kernel_rfl) (Sp.Runs.move rfl) ?_
              refine Sp.L.pure (by kernel_rfl) (Sp.Runs.move rfl) ?_
              refine Sp.L.pure (by kernel_rfl) (Sp.Runs.move rfl) ?_
              refine Sp.L.pure (by kernel_rfl) (Sp.Runs.neSF rfl rfl (by first | rfl | assumption)) ?_
              refine Sp.L.pure (by kernel_rfl) (Sp.Runs.pickF rfl rfl) ?_
              refine Sp.L.pure (by kernel_rfl) (Sp.Runs.move rfl) ?_
              refine Sp.L.pure (by kernel_rfl) (Sp.Runs.move rfl) ?_
              refine Sp.L.pure (by kernel_rfl) (Sp.Runs.move rfl) ?_
              refine Sp.L.pure (by kernel_rfl) (Sp.Runs.neBF Tryd.underlying4 rfl rfl (by first | rfl | assumption)) ?_
              refine Sp.L.pure (by kernel_rfl) (Sp.Runs.pickF rfl rfl) ?_
              refine Sp.L.pure (by kernel_rfl) (Sp.Runs.move rfl) ?_
              refine Sp.L.pure (by kernel_rfl) (Sp.Runs.move rfl) ?_
              refine Sp.L.pure (by kernel_rfl) (Sp.Runs.move rfl) ?_
              have CC := vSame_small w6 awri awrs lwri cwri lwrs cwrs wr wr (by rw [Lwri.out]; exact le1 z1 z2) Hwri.out Hwrs.out
              rw [sameL_refl] at CC
              refine Sp.L.call (by kernel_rfl) (CC) rfl rfl (by kernel_rfl) ?_
              clear CC
              rintro e w7 ⟨rfl, b⟩
              replace B0 := Lib.hid (B0.out.trans (b.mono B0.out.size))
              replace HS := Lib.hid (HS.out.below b)
              replace HM := Lib.hid (HM.out.below b)
              replace HN := Lib.hid (HN.out.below b)
              replace Hwri := Lib.hid (Hwri.out.below b)
              replace Hwrs := Lib.hid (Hwrs.out.below b)
              clear b
              refine ⟨_, rfl, ?_⟩
              refine Sp.L.pure (by kernel_rfl) (Sp.Runs.notF rfl) ?_
              refine Sp.L.pure (by kernel_rfl) (Sp.Runs.pickF rfl rfl) ?_
              refine Sp.L.pure (by kernel_rfl) (Sp.Runs.move rfl) ?_
              refine Sp.L.pure (by kernel_rfl) (Sp.Runs.move rfl) ?_
              refine Sp.L.pure (by kernel_rfl) (Sp.Runs.move rfl) ?_
              refine Sp.L.pure (by kernel_rfl) (Sp.Runs.neBF Tryd.underlying4 rfl rfl (by first | rfl | assumption)) ?_
              refine Sp.L.pure (by kernel_rfl) (Sp.Runs.pickF rfl rfl) ?_
              refine Sp.L.pure (by kernel_rfl) (Sp.Runs.move rfl) ?_
              refine Sp.L.pure (by kernel_rfl) (Sp.Runs.move rfl) ?_
              refine Sp.L.pure (by kernel_rfl) (Sp.Runs.move rfl) ?_
              refine Sp.L.pure (by kernel_rfl) (Sp.Runs.neSF rfl rfl (by first | rfl | assumption)) ?_
              refine Sp.L.pure (by kernel_rfl) (Sp.Runs.pickF rfl rfl) ?_
              refine Sp.L.pure (by kernel_rfl) (Sp.Runs.move rfl) ?_
              refine Sp.L.pure (by kernel_rfl) (Sp.Runs.move rfl) ?_
              refine Sp.L.pure (by kernel_rfl) (Sp.Runs.move rfl) ?_
              refine Sp.L.pure (by kernel_rfl) (Sp.Runs.neBF Tryd.underlying4 rfl rfl (by first | rfl | assumption)) ?_
              refine Sp.L.pure (by kernel_rfl) (Sp.Runs.pickF rfl rfl) ?_
              refine Sp.L.pure (by kernel_rfl) (Sp.Runs.move rfl) ?_
              refine Sp.L.pure (by kernel_rfl) (Sp.Runs.move rfl) ?_
              refine Sp.L.pure (by kernel_rfl) (Sp.Runs.move rfl) ?_
              refine Sp.L.pure (by kernel_rfl) (Sp.Runs.neBF Tryd.underlying4 rfl rfl (by first | rfl | assumption)) ?_
              refine Sp.L.pure (by kernel_rfl) (Sp.Runs.pickF rfl rfl) ?_
              refine Sp.L.nil ?_
              refine hK11 _ _ (Sp.Cd.sub (S' := [(0, _), (1, _), (2, _), (3, _), (4, _), (5, _), (6, _), (7, _), (8, _), (19, _), (20, _), (23, _), (27, _), (161, _)]) ⟨rfl, rfl, rfl, rfl, rfl, rfl, rfl, rfl, rfl, rfl, rfl, rfl, rfl, rfl, trivial⟩ ?_)
              clear hK11 K11
              refine Sp.Cd.condF rfl ?_
              refine Sp.Cd.skip ?_
              refine hK10 _ _ (Sp.Cd.sub (S' := [(0, _), (1, _), (2, _), (3, _), (4, _), (5, _), (6, _), (7, _), (8, _), (19, _), (20, _), (23, _), (27, _)]) ⟨rfl, rfl, rfl, rfl, rfl, rfl, rfl, rfl, rfl, rfl, rfl, rfl, rfl, trivial⟩ ?_)
              clear hK10 K10
              refine Sp.Cd.cutK [(3, _), (4, _), (5, _), (6, _), (7, _), (8, _)] ⟨rfl, rfl, rfl, rfl, rfl, rfl, trivial⟩ ?_ ?_
              · have B1 : Hid (Below w7.heap.size w7 w7) := Lib.hid (Below.refl _ _)
                rcases ok with _ | _
                · refine Sp.Cd.seq fun K12 hK12 => ?_
                  refine Sp.Cd.region ?_
                  refine Sp.L.pure (by kernel_rfl) (Sp.Runs.move rfl) ?_
                  refine Sp.L.nil ?_
                  refine hK12 _ _ (Sp.Cd.sub (S' := [(0, _), (1, _), (2, _), (3, _), (4, _), (5, _), (6, _), (7, _), (8, _), (19, _), (23, _), (27, _), (162, _)]) ⟨rfl, rfl, rfl, rfl, rfl, rfl, rfl, rfl, rfl, rfl, rfl, rfl, rfl, trivial⟩ ?_)
                  clear hK12 K12
                  refine Sp.Cd.condF rfl ?_
                  refine Sp.Cd.skip ?_
                  refine Sp.Nx.post () ⟨rfl, rfl, rfl, rfl, rfl, rfl, trivial⟩ (B1.out)
                · clear Hwrs
                  have F := MF rfl
                  obtain ⟨n, hn⟩ : ∃ x, x = facing.size := ⟨_, rfl⟩
                  rw [← hn] at F
                  have n1 := F.n1
                  have n2 := F.n2
                  have az := F.az
                  have cz := F.cz
                  have pz := F.pz
                  have wz := F.wz
                  have wn : (Lit.int .i64 (n : Int)).wf = true := WalkArith.wf_i64 ⟨by omega, by omega⟩
                  have lz := Lwri.out
                  have wl := F.wl
                  refine Sp.Cd.seq fun K13 hK13 => ?_
                  refine Sp.Cd.region ?_
                  refine Sp.L.pure (by kernel_rfl) (Sp.Runs.move rfl) ?_
                  refine Sp.L.nil ?_
                  refine hK13 _ _ (Sp.Cd.sub (S' := [(0, _), (1, _), (2, _), (3, _), (4, _), (5, _), (6, _), (7, _), (8, _), (19, _), (23, _), (27, _), (162, _)]) ⟨rfl, rfl, rfl, rfl, rfl, rfl, rfl, rfl, rfl, rfl, rfl, rfl, rfl, trivial⟩ ?_)
                  clear hK13 K13
                  refine Sp.Cd.condT rfl ?_
                  refine Sp.Cd.seq fun K14 hK14 => ?_
                  refine Sp.Cd.region ?_
                  refine Sp.L.pure (by kernel_rfl) (Sp.Runs.move rfl) ?_
                  refine Sp.L.pure (by kernel_rfl) (Sp.Runs.move rfl) ?_
                  have CC := implFacingAfter_any w7 facing word hf hw z1 z2 HS.out
                  rw [← hpl, F.good] at CC
                  refine Sp.L.call (by kernel_rfl) (CC) rfl rfl (by kernel_rfl) ?_
                  clear CC
                  rintro e w8 ⟨rfl, b⟩
                  replace B0 := Lib.hid (B0.out.trans (b.mono B0.out.size))
                  replace B1 := Lib.hid (B1.out.trans (b.mono B1.out.size))
                  replace HS := Lib.hid (HS.out.below b)
                  replace HM := Lib.hid (HM.out.below b)
                  replace HN := Lib.hid (HN.out.below b)
                  replace Hwri := Lib.hid (Hwri.out.below b)
                  clear b
                  refine ⟨_, rfl, ?_⟩
                  refine Sp.L.pure (by kernel_rfl) (Sp.Runs.move rfl) ?_
                  refine Sp.L.pure (by kernel_rfl) (Sp.Runs.extract rfl rfl) ?_
                  refine Sp.L.pure (by kernel_rfl) (Sp.Runs.extract rfl rfl) ?_
                  refine Sp.L.pure (by kernel_rfl) (Sp.Runs.assign rfl) ?_
                  refine Sp.L.pure (by kernel_rfl) (Sp.Runs.assign rfl) ?_
                  refine Sp.L.nil ?_
                  refine hK14 _ _ (Sp.Cd.sub (S' := [(0, _), (1, _), (2, _), (3, _), (4, _), (5, _), (6, _), (7, _), (8, _), (19, _), (23, _), (27, _), (31, _), (32, _)]) ⟨rfl, rfl, rfl, rfl, rfl, rfl, rfl, rfl, rfl, rfl, rfl, rfl, rfl, rfl, trivial⟩ ?_)
                  clear hK14 K14
                  refine Sp.Cd.seq fun K15 hK15 => ?_
                  refine Sp.Cd.seq fun K16 hK16 => ?_
                  refine Sp.Cd.region ?_
                  refine Sp.L.pure (by kernel_rfl) (Sp.Runs.move rfl) ?_
                  refine Sp.L.pure (by kernel_rfl) (Sp.Runs.notF rfl) ?_
                  refine Sp.L.pure (by kernel_rfl) (Sp.Runs.move rfl) ?_
                  refine Sp.L.pure (by kernel_rfl) (Sp.Runs.move rfl) ?_
                  refine Sp.L.pure (by kernel_rfl) (Sp.Runs.lenS Tryd.underlying9 rfl) ?_
                  refine Sp.L.pure (by kernel_rfl) (Sp.Runs.move rfl) ?_
                  refine Sp.L.pure (by kernel_rfl) (Sp.Runs.lenS Tryd.underlying9 rfl) ?_
                  refine Sp.L.pure (by kernel_rfl) (Sp.Runs.neIF rfl rfl (congrArg (fun n : Nat => (n : Int)) (az.trans hn))) ?_
                  refine Sp.L.pure (by kernel_rfl) (Sp.Runs.pickF rfl rfl) ?_
                  refine Sp.L.pure (by kernel_rfl) (Sp.Runs.move rfl) ?_
                  refine Sp.L.pure (by kernel_rfl) (Sp.Runs.move rfl) ?_
                  refine Sp.L.pure (by kernel_rfl) (Sp.Runs.lenS Tryd.underlying9 rfl) ?_
                  refine Sp.L.pure (by kernel_rfl) (Sp.Runs.move rfl) ?_
                  refine Sp.L.pure (by kernel_rfl) (Sp.Runs.lenS Tryd.underlying9 rfl) ?_
                  refine Sp.L.pure (by kernel_rfl) (Sp.Runs.neIF rfl rfl (congrArg (fun n : Nat => (n : Int)) (cz.trans hn))) ?_
                  refine Sp.L.pure (by kernel_rfl) (Sp.Runs.pickF rfl rfl) ?_
                  refine Sp.L.pure (by kernel_rfl) (Sp.Runs.move rfl) ?_
                  refine Sp.L.pure (by kernel_rfl) (Sp.Runs.move rfl) ?_
                  have CC := vRises_q w8 awri lwri cwri wr (by rw [Lwri.out]; exact le1 z1 z2) Hwri.out
                  rw [F.rise] at CC
                  refine Sp.L.call (by kernel_rfl) (CC) rfl rfl (by kernel_rfl) ?_
                  clear CC
                  rintro e w9 ⟨rfl, b⟩
                  replace B0 := Lib.hid (B0.out.trans (b.mono B0.out.size))
                  replace B1 := Lib.hid (B1.out.trans (b.mono B1.out.size))
                  replace HS := Lib.hid (HS.out.below b)
                  replace HM := Lib.hid (HM.out.below b)
                  replace HN := Lib.hid (HN.out.below b)
                  replace Hwri := Lib.hid (Hwri.out.below b)
                  clear b
                  refine ⟨_, rfl, ?_⟩
                  refine Sp.L.pure (by kernel_rfl) (Sp.Runs.notF rfl) ?_
                  refine Sp.L.pure (by kernel_rfl) (Sp.Runs.pickF rfl rfl) ?_
                  refine Sp.L.pure (by kernel_rfl) (Sp.Runs.move rfl) ?_
                  refine Sp.L.pure (by kernel_rfl) (Sp.Runs.move rfl) ?_
                  refine Sp.L.pure (by kernel_rfl) (Sp.Runs.lenS Tryd.underlying9 rfl) ?_
                  refine Sp.L.pure (by kernel_rfl) (Sp.Runs.move rfl) ?_
                  refine Sp.L.pure (by kernel_rfl) (Sp.Runs.move rfl) ?_
                  rw [show (facing.size : Int) = (n : Int) by omega]
                  have CC := implAreMistakes_any w9 (n : Int) word am lm cm ps wn hw z2 (by omega) HM.out hmc HS.out
                  rw [F.mis] at CC
                  refine Sp.L.call (by kernel_rfl) (CC) rfl rfl (by kernel_rfl) ?_
                  clear CC
                  rintro e w10 ⟨rfl, b⟩
                  replace B0 := Lib.hid (B0.out.trans (b.mono B0.out.size))
                  replace B1 := Lib.hid (B1.out.trans (b.mono B1.out.size))
                  replace HS := Lib.hid (HS.out.below b)
                  replace HM := Lib.hid (HM.out.below b)
                  replace HN := Lib.hid (HN.out.below b)
                  replace Hwri := Lib.hid (Hwri.out.below b)
                  clear b
                  refine ⟨_, rfl, ?_⟩
                  refine Sp.L.pure (by kernel_rfl) (Sp.Runs.notF rfl) ?_
                  refine Sp.L.pure (by kernel_rfl) (Sp.Runs.pickF rfl rfl) ?_
                  refine Sp.L.nil ?_
                  refine hK16 _ _ (Sp.Cd.sub (S' := [(0, _), (2, _), (3, _), (4, _), (5, _), (6, _), (7, _), (8, _), (19, _), (23, _), (27, _), (31, _), (197, _)]) ⟨rfl, rfl, rfl, rfl, rfl, rfl, rfl, rfl, rfl, rfl, rfl, rfl, rfl, trivial⟩ ?_)
                  clear hK16 K16
                  refine Sp.Cd.condF rfl ?_
                  refine Sp.Cd.skip ?_
                  refine hK15 _ _ (Sp.Cd.sub (S' := [(0, _), (2, _), (3, _), (4, _), (5, _), (6, _), (7, _), (8, _), (19, _), (23, _), (27, _), (31, _)]) ⟨rfl, rfl, rfl, rfl, rfl, rfl, rfl, rfl, rfl, rfl, rfl, rfl, trivial⟩ ?_)
                  clear hK15 K15
                  refine Sp.Cd.seq fun K17 hK17 => ?_
                  refine Sp.Cd.seq fun K18 hK18 => ?_
                  refine Sp.Cd.region ?_
                  refine Sp.L.pure (by kernel_rfl) (Sp.Runs.move rfl) ?_
                  have B2 : Hid (Below w10.heap.size w10 w10) := Lib.hid (Below.refl _ _)
                  refine Sp.L.rangeS Tryd.underlying9 rfl (by kernel_rfl) ?_
                  obtain ⟨w11, hw⟩ : ∃ x, x = w10.iter facing 0 := ⟨_, rfl⟩
                  rw [← hw]
                  have HI : Hid (w11.heap[w10.heap.size]? = some (.stringIter facing 0)) := Lib.hid (by rw [hw]; exact World.iter_heap w10 facing 0)
                  replace B2 : Hid (Below w10.heap.size w10 w11) := Lib.hid (by rw [hw]; exact (Below.refl _ w10).alloc (Nat.le_refl _) _)
                  clear hw
                  refine Sp.L.nil ?_
                  refine hK18 _ _ (Sp.Cd.sub (S' := [(2, _), (3, _), (4, _), (5, _), (6, _), (7, _), (8, _), (19, _), (23, _), (27, _), (31, _), (199, _)]) ⟨rfl, rfl, rfl, rfl, rfl, rfl, rfl, rfl, rfl, rfl, rfl, rfl, trivial⟩ ?_)
                  clear hK18 K18
                  refine Sp.Cd.block ?_
                  refine Sp.Cd.loop (ι := Nat) [(2, _), (3, _), (4, _), (5, _), (6, _), (7, _), (8, _), (19, _), (23, _), (27, _), (31, _), (199, _)] (fun i1 => []) (fun i1 w' => Hid (Below w10.heap.size w10 w') ∧ Hid (w'.heap[w10.heap.size]? = some (.stringIter facing i1)) ∧ (i1 ≤ facing.size)) (fun i1 => facing.size - i1) 0 ⟨rfl, rfl, rfl, rfl, rfl, rfl, rfl, rfl, rfl, rfl, rfl, rfl, trivial⟩ ⟨B2, HI, Nat.zero_le _⟩ ?_
                  clear B2 HI
                  rintro i1 w12 ⟨B2, HI, hrel⟩
                  refine Sp.Cd.sub (S' := [(2, _), (3, _), (4, _), (5, _), (6, _), (7, _), (8, _), (19, _), (23, _), (27, _), (31, _), (199, _)]) ⟨rfl, rfl, rfl, rfl, rfl, rfl, rfl, rfl, rfl, rfl, rfl, rfl, trivial⟩ ?_
                  by_cases hlt : i1 < facing.size
                  · obtain ⟨a, c, p, a4, c4, p4, hac, xa, xc, xp, ya, yp, yc, hin, hiff⟩ := F.each i1 (by rw [hn]; exact hlt)
                    have ia := ya (by omega)
                    have ip := yp (by omega)
                    have ic := yc (by omega)
                    have hsg := sg_eq c4
                    have asc := F.asc i1 hlt
                    have o1 := one_word c c4
                    have FA : FaceF (face [a]) [a] := ⟨rfl, by simp, by simp, fun t ht => by simp only [List.mem_singleton] at ht; omega⟩
                    have p0 : outFacingAfter_0 (face [a]) (Dr.word [c]) = face [p] := by rw [after0 FA o1, Dt.net_one c c4]; unfold turnL; simp [hac]
                    have p1 : outFacingAfter_1 (face [a]) (Dr.word [c]) = true := by unfold outFacingAfter_1; rw [FA.good, o1.good]; rfl
                    have sa : (face [a]).size = 1 := size_face _
                    have sc : (Dr.word [c]).size = 1 := size_word _
                    have TC : Hid (∀ w2, Below w12.heap.size w12 w2 → Tab_signOfTurn w2) := Lib.hid (fun w2 b2 => ((HS.out.below B2.out)).below b2)
                    clear TC
                    by_cases hap : a = p
                    · have hin2 : inL wr (i1 : Int) = false := by rw [hin]; exact decide_eq_false (fun h => h hap)
                      refine Sp.Cd.seq fun K19 hK19 => ?_
                      refine Sp.Cd.region ?_
                      refine Sp.L.next rfl (Lib.run_next_ascii_at w12 w10.heap.size facing i1 _ HI.out hlt asc) (by kernel_rfl) ?_
                      obtain ⟨w13, hw⟩ : ∃ x, x = w12.iterAt w10.heap.size facing (i1 + 1) := ⟨_, rfl⟩
                      rw [← hw]
                      replace HI : Hid (w13.heap[w10.heap.size]? = some (.stringIter facing (i1 + 1))) := Lib.hid (by rw [hw]; exact Lib.iterAt_heap w12 w10.heap.size facing i1 (i1 + 1) HI.out)
                      replace B2 : Hid (Below w10.heap.size w10 w13) := Lib.hid (by rw [hw]; exact Lib.below_iterAt B2.out (Nat.le_refl _) facing (i1 + 1))
                      clear hw
                      refine Sp.L.pure (by kernel_rfl) (Sp.Runs.extract rfl rfl) ?_
                      refine Sp.L.nil ?_
                      refine hK19 _ _ (Sp.Cd.sub (S' := [(2, _), (3, _), (4, _), (5, _), (6, _), (7, _), (8, _), (19, _), (23, _), (27, _), (31, _), (199, _), (200, _), (201, _)]) ⟨rfl, rfl, rfl, rfl, rfl, rfl, rfl, rfl, rfl, rfl, rfl, rfl, rfl, rfl, trivial⟩ ?_)
                      clear hK19 K19
                      refine Sp.Cd.seq fun K20 hK20 => ?_
                      refine Sp.Cd.condT rfl ?_
                      refine Sp.Cd.skip ?_
                      refine hK20 _ _ (Sp.Cd.sub (S' := [(2, _), (3, _), (4, _), (5, _), (6, _), (7, _), (8, _), (19, _), (23, _), (27, _), (31, _), (199, _), (200, _)]) ⟨rfl, rfl, rfl, rfl, rfl, rfl, rfl, rfl, rfl, rfl, rfl, rfl, rfl, trivial⟩ ?_)
                      clear hK20 K20
                      refine Sp.Cd.block ?_
                      refine Sp.Cd.seq fun K21 hK21 => ?_
                      refine Sp.Cd.region ?_
                      refine Sp.L.pure (by kernel_rfl) (Sp.Runs.extract rfl rfl) ?_
                      refine Sp.L.pure (by kernel_rfl) (Sp.Runs.assign rfl) ?_
                      refine Sp.L.nil ?_
                      refine hK21 _ _ (Sp.Cd.sub (S' := [(2, _), (3, _), (4, _), (5, _), (6, _), (7, _), (8, _), (19, _), (23, _), (27, _), (31, _), (33, _), (199, _)]) ⟨rfl, rfl, rfl, rfl, rfl, rfl, rfl, rfl, rfl, rfl, rfl, rfl, rfl, trivial⟩ ?_)
                      clear hK21 K21
                      refine Sp.Cd.seq fun K22 hK22 => ?_
                      have TC := Lib.hid (fun (w2 : World) (b2 : Below w13.heap.size w13 w2) => by
                        have CC := implFacingAfter_any w2 (face [a]) (Dr.word [c]) (by omega) (by omega) (by omega) (by omega) (((HS.out.below B2.out)).below b2)
                        rw [p0, p1] at CC
                        exact CC)
                      refine Sp.Cd.regionT (by kernel_rfl) (by kernel_rfl) ?_
                      refine Sp.T.pure (by kernel_rfl) (fun X => Sp.Runs.move rfl) ?_
                      refine Sp.T.pure (by kernel_rfl) (fun X => Sp.Runs.move rfl) ?_
                      refine Sp.T.pure (by kernel_rfl) (fun X => Sp.Runs.move rfl) ?_
                      refine Sp.T.pure (by kernel_rfl) (fun X => Sp.Runs.addI rfl rfl (Sp.wrapI (by omega) (by omega))) ?_
                      refine Sp.T.pure (by kernel_rfl) (fun X => Sp.Runs.slice rfl rfl rfl rfl (xa ▸ Sp.slice_str Tryd.underlying9 i1 (i1 + 1) rfl (by omega) (by omega) (by omega))) ?_
                      refine Sp.T.pure (by kernel_rfl) (fun X => Sp.Runs.move rfl) ?_
                      refine Sp.T.pure (by kernel_rfl) (fun X => Sp.Runs.move rfl) ?_
                      refine Sp.T.pure (by kernel_rfl) (fun X => Sp.Runs.move rfl) ?_
                      refine Sp.T.pure (by kernel_rfl) (fun X => Sp.Runs.addI rfl rfl (Sp.wrapI (by omega) (by omega))) ?_
                      refine Sp.T.pure (by kernel_rfl) (fun X => Sp.Runs.slice rfl rfl rfl rfl (xc ▸ Sp.slice_str Tryd.underlying9 i1 (i1 + 1) rfl (by omega) (by omega) (by omega))) ?_
                      refine Sp.T.call (by kernel_rfl) (TC.out) rfl rfl (by kernel_rfl) ?_
                      refine Sp.T.pure (by kernel_rfl) (fun X => Sp.Runs.move rfl) ?_
                      refine Sp.T.pure (by kernel_rfl) (fun X => Sp.Runs.extract rfl rfl) ?_
                      refine Sp.T.pure (by kernel_rfl) (fun X => Sp.Runs.extract rfl rfl) ?_
                      refine Sp.T.pure (by kernel_rfl) (fun X => Sp.Runs.assign rfl) ?_
                      refine Sp.T.pure (by kernel_rfl) (fun X => Sp.Runs.assign rfl) ?_
                      refine Sp.T.nil fun w14 b => ?_
                      replace B2 := Lib.hid (B2.out.trans (b.mono B2.out.size))
                      replace HI := Lib.hid ((b.block _ (lt_of_block HI.out)).trans HI.out)
                      clear b
                      refine hK22 _ _ (Sp.Cd.sub (S' := [(2, _), (3, _), (4, _), (5, _), (6, _), (7, _), (8, _), (19, _), (23, _), (27, _), (31, _), (33, _), (34, _), (35, _), (199, _)]) ⟨rfl, rfl, rfl, rfl, rfl, rfl, rfl, rfl, rfl, rfl, rfl, rfl, rfl, rfl, rfl, trivial⟩ ?_)
                      clear hK22 K22
                      refine Sp.Cd.seq fun K23 hK23 => ?_
                      refine Sp.Cd.region ?_
                      refine Sp.L.pure (by kernel_rfl) (Sp.Runs.move rfl) ?_
                      refine Sp.L.pure (by kernel_rfl) (Sp.Runs.move rfl) ?_
                      have CC := vHas_q w14 awri lwri cwri wr (i1 : Int) (by omega) (Hwri.out.below B2.out)
                      rw [hin2] at CC
                      refine Sp.L.call (by kernel_rfl) (CC) rfl rfl (by kernel_rfl) ?_
                      clear CC
                      rintro e w' ⟨rfl, rfl⟩
                      refine ⟨_, rfl, ?_⟩
                      refine Sp.L.pure (by kernel_rfl) (Sp.Runs.assign rfl) ?_
                      refine Sp.L.nil ?_
                      refine hK23 _ _ (Sp.Cd.sub (S' := [(2, _), (3, _), (4, _), (5, _), (6, _), (7, _), (8, _), (19, _), (23, _), (27, _), (31, _), (33, _), (34, _), (35, _), (36, _), (199, _)]) ⟨rfl, rfl, rfl, rfl, rfl, rfl, rfl, rfl, rfl, rfl, rfl, rfl, rfl, rfl, rfl, rfl, trivial⟩ ?_)
                      clear hK23 K23
                      refine Sp.Cd.seq fun K24 hK24 => ?_
                      refine Sp.Cd.regionT (by kernel_rfl) (by kernel_rfl) ?_
                      refine Sp.T.pure (by kernel_rfl) (fun X => Sp.Runs.move rfl) ?_
                      refine Sp.T.pure (by kernel_rfl) (fun X => Sp.Runs.notF rfl) ?_
                      refine Sp.T.pure (by kernel_rfl) (fun X => Sp.Runs.move rfl) ?_
                      refine Sp.T.pure (by kernel_rfl) (fun X => Sp.Runs.move rfl) ?_
                      refine Sp.T.pure (by kernel_rfl) (fun X => Sp.Runs.move rfl) ?_
                      refine Sp.T.pure (by kernel_rfl) (fun X => Sp.Runs.move rfl) ?_
                      refine Sp.T.pure (by kernel_rfl) (fun X => Sp.Runs.move rfl) ?_
                      refine Sp.T.pure (by kernel_rfl) (fun X => Sp.Runs.addI rfl rfl (Sp.wrapI (by omega) (by omega))) ?_
                      refine Sp.T.pure (by kernel_rfl) (fun X => Sp.Runs.slice rfl rfl rfl rfl (xp ▸ Sp.slice_str Tryd.underlying9 i1 (i1 + 1) rfl (by omega) (by omega) (by omega))) ?_
                      refine Sp.T.pure (by kernel_rfl) (fun X => Sp.Runs.neSF rfl rfl rfl) ?_
                      refine Sp.T.pure (by kernel_rfl) (fun X => Sp.Runs.pickF rfl rfl) ?_
                      refine Sp.T.pure (by kernel_rfl) (fun X => Sp.Runs.move rfl) ?_
                      refine Sp.T.pure (by kernel_rfl) (fun X => Sp.Runs.move rfl) ?_
                      refine Sp.T.pure (by kernel_rfl) (fun X => Sp.Runs.move rfl) ?_
                      refine Sp.T.pure (by kernel_rfl) (fun X => Sp.Runs.move rfl) ?_
                      refine Sp.T.pure (by kernel_rfl) (fun X => Sp.Runs.indexS Tryd.underlying9 rfl rfl i1 rfl (by omega) ia) ?_
                      refine Sp.T.pure (by kernel_rfl) (fun X => Sp.Runs.move rfl) ?_
                      refine Sp.T.pure (by kernel_rfl) (fun X => Sp.Runs.move rfl) ?_
                      refine Sp.T.pure (by kernel_rfl) (fun X => Sp.Runs.indexS Tryd.underlying9 rfl rfl i1 rfl (by omega) ip) ?_
                      refine Sp.T.pure (by kernel_rfl) (fun X => Sp.Runs.neIF rfl rfl (by omega)) ?_
                      refine Sp.T.pure (by kernel_rfl) (fun X => Sp.Runs.neBF Tryd.underlying4 rfl rfl (by decide)) ?_
                      refine Sp.T.pure (by kernel_rfl) (fun X => Sp.Runs.pickF rfl rfl) ?_
                      refine Sp.T.pure (by kernel_rfl) (fun X => Sp.Runs.move rfl) ?_
                      refine Sp.T.pure (by kernel_rfl) (fun X => Sp.Runs.move rfl) ?_
                      refine Sp.T.pure (by kernel_rfl) (fun X => Sp.Runs.move rfl) ?_
                      refine Sp.T.pure (by kernel_rfl) (fun X => Sp.Runs.move rfl) ?_
                      refine Sp.T.pure (by kernel_rfl) (fun X => Sp.Runs.indexS Tryd.underlying9 rfl rfl i1 rfl (by omega) ic) ?_
                      refine Sp.T.pure (by kernel_rfl) (fun X => Sp.Runs.eqIT rfl rfl (hsg.2 (hiff.2 hap))) ?_
                      refine Sp.T.pure (by kernel_rfl) (fun X => Sp.Runs.eqBF Tryd.underlying4 rfl rfl (by decide)) ?_
                      refine Sp.T.pure (by kernel_rfl) (fun X => Sp.Runs.pickF rfl rfl) ?_
                      refine Sp.T.nil fun w15 b => ?_
                      replace B2 := Lib.hid (B2.out.trans (b.mono B2.out.size))
                      replace HI := Lib.hid ((b.block _ (lt_of_block HI.out)).trans HI.out)
                      clear b
                      refine hK24 _ _ (Sp.Cd.sub (S' := [(2, _), (3, _), (4, _), (5, _), (6, _), (7, _), (8, _), (19, _), (23, _), (27, _), (31, _), (199, _), (249, _)]) ⟨rfl, rfl, rfl, rfl, rfl, rfl, rfl, rfl, rfl, rfl, rfl, rfl, rfl, trivial⟩ ?_)
                      clear hK24 K24
                      refine Sp.Cd.condF rfl ?_
                      refine Sp.Cd.skip ?_
                      refine Sp.Nx.block ?_
                      refine Sp.Nx.again (i1 + 1) ⟨rfl, rfl, rfl, rfl, rfl, rfl, rfl, rfl, rfl, rfl, rfl, rfl, trivial⟩ ⟨B2, HI, hlt⟩ (by omega)
                    · have hin2 : inL wr (i1 : Int) = true := by rw [hin]; exact decide_eq_true hap
                      refine Sp.Cd.seq fun K25 hK25 => ?_
                      refine Sp.Cd.region ?_
                      refine Sp.L.next rfl (Lib.run_next_ascii_at w12 w10.heap.size facing i1 _ HI.out hlt asc) (by kernel_rfl) ?_
                      obtain ⟨w13, hw⟩ : ∃ x, x = w12.iterAt w10.heap.size facing (i1 + 1) := ⟨_, rfl⟩
                      rw [← hw]
                      replace HI : Hid (w13.heap[w10.heap.size]? = some (.stringIter facing (i1 + 1))) := Lib.hid (by rw [hw]; exact Lib.iterAt_heap w12 w10.heap.size facing i1 (i1 + 1) HI.out)
                      replace B2 : Hid (Below w10.heap.size w10 w13) := Lib.hid (by rw [hw]; exact Lib.below_iterAt B2.out (Nat.le_refl _) facing (i1 + 1))
                      clear hw
                      refine Sp.L.pure (by kernel_rfl) (Sp.Runs.extract rfl rfl) ?_
                      refine Sp.L.nil ?_
                      refine hK25 _ _ (Sp.Cd.sub (S' := [(2, _), (3, _), (4, _), (5, _), (6, _), (7, _), (8, _), (19, _), (23, _), (27, _), (31, _), (199, _), (200, _), (201, _)]) ⟨rfl, rfl, rfl, rfl, rfl, rfl, rfl, rfl, rfl, rfl, rfl, rfl, rfl, rfl, trivial⟩ ?_)
                      clear hK25 K25
                      refine Sp.Cd.seq fun K26 hK26 => ?_
                      refine Sp.Cd.condT rfl ?_
                      refine Sp.Cd.skip ?_
                      refine hK26 _ _ (Sp.Cd.sub (S' := [(2, _), (3, _), (4, _), (5, _), (6, _), (7, _), (8, _), (19, _), (23, _), (27, _), (31, _), (199, _), (200, _)]) ⟨rfl, rfl, rfl, rfl, rfl, rfl, rfl, rfl, rfl, rfl, rfl, rfl, rfl, trivial⟩ ?_)
                      clear hK26 K26
                      refine Sp.Cd.block ?_
                      refine Sp.Cd.seq fun K27 hK27 => ?_
                      refine Sp.Cd.region ?_
                      refine Sp.L.pure (by kernel_rfl) (Sp.Runs.extract rfl rfl) ?_
                      refine Sp.L.pure (by kernel_rfl) (Sp.Runs.assign rfl) ?_
                      refine Sp.L.nil ?_
                      refine hK27 _ _ (Sp.Cd.sub (S' := [(2, _), (3, _), (4, _), (5, _), (6, _), (7, _), (8, _), (19, _), (23, _), (27, _), (31, _), (33, _), (199, _)]) ⟨rfl, rfl, rfl, rfl, rfl, rfl, rfl, rfl, rfl, rfl, rfl, rfl, rfl, trivial⟩ ?_)
                      clear hK27 K27
                      refine Sp.Cd.seq fun K28 hK28 => ?_
                      have TC := Lib.hid (fun (w2 : World) (b2 : Below w13.heap.size w13 w2) => by
                        have CC := implFacingAfter_any w2 (face [a]) (Dr.word [c]) (by omega) (by omega) (by omega) (by omega) (((HS.out.below B2.out)).below b2)
                        rw [p0, p1] at CC
                        exact CC)
                      refine Sp.Cd.regionT (by kernel_rfl) (by kernel_rfl) ?_
                      refine Sp.T.pure (by kernel_rfl) (fun X => Sp.Runs.move rfl) ?_
                      refine Sp.T.pure (by kernel_rfl) (fun X => Sp.Runs.move rfl) ?_
                      refine Sp.T.pure (by kernel_rfl) (fun X => Sp.Runs.move rfl) ?_
                      refine Sp.T.pure (by kernel_rfl) (fun X => Sp.Runs.addI rfl rfl (Sp.wrapI (by omega) (by omega))) ?_
                      refine Sp.T.pure (by kernel_rfl) (fun X => Sp.Runs.slice rfl rfl rfl rfl (xa ▸ Sp.slice_str Tryd.underlying9 i1 (i1 + 1) rfl (by omega) (by omega) (by omega))) ?_
                      refine Sp.T.pure (by kernel_rfl) (fun X => Sp.Runs.move rfl) ?_
                      refine Sp.T.pure (by kernel_rfl) (fun X => Sp.Runs.move rfl) ?_
                      refine Sp.T.pure (by kernel_rfl) (fun X => Sp.Runs.move rfl) ?_
                      refine Sp.T.pure (by kernel_rfl) (fun X => Sp.Runs.addI rfl rfl (Sp.wrapI (by omega) (by omega))) ?_
                      refine Sp.T.pure (by kernel_rfl) (fun X => Sp.Runs.slice rfl rfl rfl rfl (xc ▸ Sp.slice_str Tryd.underlying9 i1 (i1 + 1) rfl (by omega) (by omega) (by omega))) ?_
                      refine Sp.T.call (by kernel_rfl) (TC.out) rfl rfl (by kernel_rfl) ?_
                      refine Sp.T.pure (by kernel_rfl) (fun X => Sp.Runs.move rfl) ?_
                      refine Sp.T.pure (by kernel_rfl) (fun X => Sp.Runs.extract rfl rfl) ?_
                      refine Sp.T.pure (by kernel_rfl) (fun X => Sp.Runs.extract rfl rfl) ?_
                      refine Sp.T.pure (by kernel_rfl) (fun X => Sp.Runs.assign rfl) ?_
                      refine Sp.T.pure (by kernel_rfl) (fun X => Sp.Runs.assign rfl) ?_
                      refine Sp.T.nil fun w14 b => ?_
                      replace B2 := Lib.hid (B2.out.trans (b.mono B2.out.size))
                      replace HI := Lib.hid ((b.block _ (lt_of_block HI.out)).trans HI.out)
                      clear b
                      refine hK28 _ _ (Sp.Cd.sub (S' := [(2, _), (3, _), (4, _), (5, _), (6, _), (7, _), (8, _), (19, _), (23, _), (27, _), (31, _), (33, _), (34, _), (35, _), (199, _)]) ⟨rfl, rfl, rfl, rfl, rfl, rfl, rfl, rfl, rfl, rfl, rfl, rfl, rfl, rfl, rfl, trivial⟩ ?_)
                      clear hK28 K28
                      refine Sp.Cd.seq fun K29 hK29 => ?_
                      refine Sp.Cd.region ?_
                      refine Sp.L.pure (by kernel_rfl) (Sp.Runs.move rfl) ?_
                      refine Sp.L.pure (by kernel_rfl) (Sp.Runs.move rfl) ?_
                      have CC := vHas_q w14 awri lwri cwri wr (i1 : Int) (by omega) (Hwri.out.below B2.out)
                      rw [hin2] at CC
                      refine Sp.L.call (by kernel_rfl) (CC) rfl rfl (by kernel_rfl) ?_
                      clear CC
                      rintro e w' ⟨rfl, rfl⟩
                      refine ⟨_, rfl, ?_⟩
                      refine Sp.L.pure (by kernel_rfl) (Sp.Runs.assign rfl) ?_
                      refine Sp.L.nil ?_
                      refine hK29 _ _ (Sp.Cd.sub (S' := [(2, _), (3, _), (4, _), (5, _), (6, _), (7, _), (8, _), (19, _), (23, _), (27, _), (31, _), (33, _), (34, _), (35, _), (36, _), (199, _)]) ⟨rfl, rfl, rfl, rfl, rfl, rfl, rfl, rfl, rfl, rfl, rfl, rfl, rfl, rfl, rfl, rfl, trivial⟩ ?_)
                      clear hK29 K29
                      refine Sp.Cd.seq fun K30 hK30 => ?_
                      refine Sp.Cd.regionT (by kernel_rfl) (by kernel_rfl) ?_
                      refine Sp.T.pure (by kernel_rfl) (fun X => Sp.Runs.move rfl) ?_
                      refine Sp.T.pure (by kernel_rfl) (fun X => Sp.Runs.notF rfl) ?_
                      refine Sp.T.pure (by kernel_rfl) (fun X => Sp.Runs.move rfl) ?_
                      refine Sp.T.pure (by kernel_rfl) (fun X => Sp.Runs.move rfl) ?_
                      refine Sp.T.pure (by kernel_rfl) (fun X => Sp.Runs.move rfl) ?_
                      refine Sp.T.pure (by kernel_rfl) (fun X => Sp.Runs.move rfl) ?_
                      refine Sp.T.pure (by kernel_rfl) (fun X => Sp.Runs.move rfl) ?_
                      refine Sp.T.pure (by kernel_rfl) (fun X => Sp.Runs.addI rfl rfl (Sp.wrapI (by omega) (by omega))) ?_
                      refine Sp.T.pure (by kernel_rfl) (fun X => Sp.Runs.slice rfl rfl rfl rfl (xp ▸ Sp.slice_str Tryd.underlying9 i1 (i1 + 1) rfl (by omega) (by omega) (by omega))) ?_
                      refine Sp.T.pure (by kernel_rfl) (fun X => Sp.Runs.neSF rfl rfl rfl) ?_
                      refine Sp.T.pure (by kernel_rfl) (fun X => Sp.Runs.pickF rfl rfl) ?_
                      refine Sp.T.pure (by kernel_rfl) (fun X => Sp.Runs.move rfl) ?_
                      refine Sp.T.pure (by kernel_rfl) (fun X => Sp.Runs.move rfl) ?_
                      refine Sp.T.pure (by kernel_rfl) (fun X => Sp.Runs.move rfl) ?_
                      refine Sp.T.pure (by kernel_rfl) (fun X => Sp.Runs.move rfl) ?_
                      refine Sp.T.pure (by kernel_rfl) (fun X => Sp.Runs.indexS Tryd.underlying9 rfl rfl i1 rfl (by omega) ia) ?_
                      refine Sp.T.pure (by kernel_rfl) (fun X => Sp.Runs.move rfl) ?_
                      refine Sp.T.pure (by kernel_rfl) (fun X => Sp.Runs.move rfl) ?_
                      refine Sp.T.pure (by kernel_rfl) (fun X => Sp.Runs.indexS Tryd.underlying9 rfl rfl i1 rfl (by omega) ip) ?_
                      refine Sp.T.pure (by kernel_rfl) (fun X => Sp.Runs.neIT rfl rfl (by omega)) ?_
                      refine Sp.T.pure (by kernel_rfl) (fun X => Sp.Runs.neBF Tryd.underlying4 rfl rfl (by decide)) ?_
                      refine Sp.T.pure (by kernel_rfl) (fun X => Sp.Runs.pickF rfl rfl) ?_
                      refine Sp.T.pure (by kernel_rfl) (fun X => Sp.Runs.move rfl) ?_
                      refine Sp.T.pure (by kernel_rfl) (fun X => Sp.Runs.move rfl) ?_
                      refine Sp.T.pure (by kernel_rfl) (fun X => Sp.Runs.move rfl) ?_
                      refine Sp.T.pure (by kernel_rfl) (fun X => Sp.Runs.move rfl) ?_
                      refine Sp.T.pure (by kernel_rfl) (fun X => Sp.Runs.indexS Tryd.underlying9 rfl rfl i1 rfl (by omega) ic) ?_
                      refine Sp.T.pure (by kernel_rfl) (fun X => Sp.Runs.eqIF rfl rfl (fun h => hap (hiff.1 (hsg.1 h)))) ?_
                      refine Sp.T.pure (by kernel_rfl) (fun X => Sp.Runs.eqBF Tryd.underlying4 rfl rfl (by decide)) ?_
                      refine Sp.T.pure (by kernel_rfl) (fun X => Sp.Runs.pickF rfl rfl) ?_
                      refine Sp.T.nil fun w15 b => ?_
                      replace B2 := Lib.hid (B2.out.trans (b.mono B2.out.size))
                      replace HI := Lib.hid ((b.block _ (lt_of_block HI.out)).trans HI.out)
                      clear b
                      refine hK30 _ _ (Sp.Cd.sub (S' := [(2, _), (3, _), (4, _), (5, _), (6, _), (7, _), (8, _), (19, _), (23, _), (27, _), (31, _), (199, _), (249, _)]) ⟨rfl, rfl, rfl, rfl, rfl, rfl, rfl, rfl, rfl, rfl, rfl, rfl, rfl, trivial⟩ ?_)
                      clear hK30 K30
                      refine Sp.Cd.condF rfl ?_
                      refine Sp.Cd.skip ?_
                      refine Sp.Nx.block ?_
                      refine Sp.Nx.again (i1 + 1) ⟨rfl, rfl, rfl, rfl, rfl, rfl, rfl, rfl, rfl, rfl, rfl, rfl, trivial⟩ ⟨B2, HI, hlt⟩ (by omega)
                  · refine Sp.Cd.seq fun K31 hK31 => ?_
                    refine Sp.Cd.region ?_
                    refine Sp.L.next rfl (Lib.run_next_end_at w12 w10.heap.size facing i1 _ HI.out hlt) (by kernel_rfl) ?_
                    refine Sp.L.pure (by kernel_rfl) (Sp.Runs.extract rfl rfl) ?_
                    refine Sp.L.nil ?_
                    refine hK31 _ _ (Sp.Cd.sub (S' := [(2, _), (3, _), (4, _), (5, _), (6, _), (7, _), (8, _), (19, _), (23, _), (27, _), (31, _), (199, _), (200, _), (201, _)]) ⟨rfl, rfl, rfl, rfl, rfl, rfl, rfl, rfl, rfl, rfl, rfl, rfl, rfl, rfl, trivial⟩ ?_)
                    clear hK31 K31
                    refine Sp.Cd.seq fun K32 hK32 => ?_
                    refine Sp.Cd.condF rfl ?_
                    refine Sp.Cd.exit ?_
                    refine Sp.Ex.then ?_
                    clear hK32 K32
                    refine Sp.Ex.then ?_
                    have b := B2.out
                    replace B0 := Lib.hid (B0.out.trans (b.mono B0.out.size))
                    replace B1 := Lib.hid (B1.out.trans (b.mono B1.out.size))
                    replace HS := Lib.hid (HS.out.below b)
                    replace HM := Lib.hid (HM.out.below b)
                    replace HN := Lib.hid (HN.out.below b)
                    replace Hwri := Lib.hid (Hwri.out.below b)
                    clear b HI
                    clear B2
                    refine Sp.Ex.hit ?_
                    refine hK17 _ _ (Sp.Cd.sub (S' := [(2, _), (3, _), (4, _), (5, _), (6, _), (7, _), (8, _), (23, _)]) ⟨rfl, rfl, rfl, rfl, rfl, rfl, rfl, rfl, trivial⟩ ?_)
                    clear hK17 K17
                    refine Sp.Cd.seq fun K33 hK33 => ?_
                    refine Sp.Cd.region ?_
                    refine Sp.L.pure (by kernel_rfl) (Sp.Runs.assign rfl) ?_
                    refine Sp.L.nil ?_
                    refine hK33 _ _ (Sp.Cd.sub (S' := [(2, _), (3, _), (4, _), (5, _), (6, _), (7, _), (8, _), (23, _), (37, _)]) ⟨rfl, rfl, rfl, rfl, rfl, rfl, rfl, rfl, rfl, trivial⟩ ?_)
                    clear hK33 K33
                    refine Sp.Cd.seq fun K34 hK34 => ?_
                    refine Sp.Cd.seq fun K35 hK35 => ?_
                    refine Sp.Cd.region ?_
                    refine Sp.L.pure (by kernel_rfl) (Sp.Runs.move rfl) ?_
                    refine Sp.L.pure (by kernel_rfl) (Sp.Runs.lenL Tryd.underlying43 rfl) ?_
                    refine Sp.L.pure (by kernel_rfl) (Sp.Runs.move rfl) ?_
                    refine Sp.L.nil ?_
                    refine hK35 _ _ (Sp.Cd.sub (S' := [(3, _), (4, _), (5, _), (6, _), (7, _), (8, _), (23, _), (37, _), (250, _), (251, _), (252, _)]) ⟨rfl, rfl, rfl, rfl, rfl, rfl, rfl, rfl, rfl, rfl, rfl, trivial⟩ ?_)
                    clear hK35 K35
                    refine Sp.Cd.block ?_
                    have B2 : Hid (Below w12.heap.size w12 w12) := Lib.hid (Below.refl _ _)
                    refine Sp.Cd.loop (ι := Nat) [(3, _), (4, _), (5, _), (6, _), (7, _), (8, _), (23, _), (250, _), (251, _)] (fun i3 => [(37, .int .i64 (cntZ ps i3 : Nat)), (252, .int .i64 (i3 : Nat))]) (fun i3 w' => Hid (Below w12.heap.size w12 w') ∧ (i3 ≤ lm)) (fun i3 => lm - i3) 0 ⟨rfl, rfl, rfl, rfl, rfl, rfl, rfl, rfl, rfl, rfl, rfl, trivial⟩ ⟨B2, Nat.zero_le _⟩ ?_
                    clear B2
                    rintro i3 w13 ⟨B2, hrel⟩
                    have b := B2.out
                    replace B0 := Lib.hid (B0.out.trans (b.mono B0.out.size))
                    replace B1 := Lib.hid (B1.out.trans (b.mono B1.out.size))
                    replace HS := Lib.hid (HS.out.below b)
                    replace HM := Lib.hid (HM.out.below b)
                    replace HN := Lib.hid (HN.out.below b)
                    replace Hwri := Lib.hid (Hwri.out.below b)
                    clear b
                    refine Sp.Cd.sub (S' := [(37, _), (252, _), (3, _), (4, _), (5, _), (6, _), (7, _), (8, _), (23, _), (250, _), (251, _)]) ⟨rfl, rfl, rfl, rfl, rfl, rfl, rfl, rfl, rfl, rfl, rfl, trivial⟩ ?_
                    have cz3 := cntZ_le ps i3
                    by_cases hlt3 : i3 < lm
                    · obtain ⟨pq, hpq⟩ := Sp.came_mis (c := cm) (k := .i64) (n := (i3 : Int)) HM.out i3 hlt3 rfl
                      have cs : cntZ ps (i3 + 1) = cntZ ps i3 + if (ps.getD i3 zMistake).1 = 0 then 1 else 0 := rfl
                      obtain ⟨it, hit⟩ : ∃ x, x = ps.getD i3 zMistake := ⟨_, rfl⟩
                      rw [← hit] at hpq cs
                      by_cases hz3 : it.1 = 0
                      · rw [if_pos hz3] at cs
                        refine Sp.Cd.seq fun K36 hK36 => ?_
                        refine Sp.Cd.region ?_
                        refine Sp.L.pure (by kernel_rfl) (Sp.Runs.ltIT rfl rfl (by omega)) ?_
                        refine Sp.L.nil ?_
                        refine hK36 _ _ (Sp.Cd.sub (S' := [(3, _), (4, _), (5, _), (6, _), (7, _), (8, _), (23, _), (37, _), (250, _), (251, _), (252, _), (253, _)]) ⟨rfl, rfl, rfl, rfl, rfl, rfl, rfl, rfl, rfl, rfl, rfl, rfl, trivial⟩ ?_)
                        clear hK36 K36
                        refine Sp.Cd.seq fun K37 hK37 => ?_
                        refine Sp.Cd.condT rfl ?_
                        refine Sp.Cd.skip ?_
                        refine hK37 _ _ (Sp.Cd.sub (S' := [(3, _), (4, _), (5, _), (6, _), (7, _), (8, _), (23, _), (37, _), (250, _), (251, _), (252, _)]) ⟨rfl, rfl, rfl, rfl, rfl, rfl, rfl, rfl, rfl, rfl, rfl, trivial⟩ ?_)
                        clear hK37 K37
                        refine Sp.Cd.seq fun K38 hK38 => ?_
                        refine Sp.Cd.block ?_
                        refine Sp.Cd.seq fun K39 hK39 => ?_
                        refine Sp.Cd.region ?_
                        refine Sp.L.pure (by kernel_rfl) (Sp.Runs.indexAddr rfl rfl ((hpq w13 (Below.refl _ _)).1)) ?_
                        refine Sp.L.pure (by kernel_rfl) (Sp.Runs.load rfl ((hpq w13 (Below.refl _ _)).2)) ?_
                        refine Sp.L.alloc Sp.alloc_mis (by kernel_rfl) ?_
                        obtain ⟨w14, hst, b, hcell⟩ := Sp.store_mis (w := w13) (p := (it).1) (q := (it).2.1) (s := (it).2.2)
                        refine Sp.L.store rfl rfl hst (by kernel_rfl) ?_
                        clear hst
                        obtain ⟨pM, hpM⟩ : ∃ x, x = w13.heap.size := ⟨_, rfl⟩
                        rw [← hpM] at hcell
                        rw [← hpM]
                        clear hpM
                        replace B0 := Lib.hid (B0.out.trans (b.mono B0.out.size))
                        replace B1 := Lib.hid (B1.out.trans (b.mono B1.out.size))
                        replace B2 := Lib.hid (B2.out.trans (b.mono B2.out.size))
                        replace HS := Lib.hid (HS.out.below b)
                        replace HM := Lib.hid (HM.out.below b)
                        replace HN := Lib.hid (HN.out.below b)
                        replace Hwri := Lib.hid (Hwri.out.below b)
                        clear b
                        refine Sp.L.nil ?_
                        refine hK39 _ _ (Sp.Cd.sub (S' := [(3, _), (4, _), (5, _), (6, _), (7, _), (8, _), (23, _), (37, _), (39, _), (250, _), (251, _), (252, _)]) ⟨rfl, rfl, rfl, rfl, rfl, rfl, rfl, rfl, rfl, rfl, rfl, rfl, trivial⟩ ?_)
                        clear hK39 K39
                        refine Sp.Cd.seq fun K40 hK40 => ?_
                        refine Sp.Cd.region ?_
                        refine Sp.L.pure (by kernel_rfl) (Sp.Runs.fieldAddr rfl Sp.field_mis) ?_
                        refine Sp.L.pure (by kernel_rfl) (Sp.Runs.load rfl ((Sp.load_int hcell))) ?_
                        refine Sp.L.pure (by kernel_rfl) (Sp.Runs.eqIT rfl rfl hz3) ?_
                        refine Sp.L.nil ?_
                        refine hK40 _ _ (Sp.Cd.sub (S' := [(3, _), (4, _), (5, _), (6, _), (7, _), (8, _), (23, _), (37, _), (250, _), (251, _), (252, _), (258, _)]) ⟨rfl, rfl, rfl, rfl, rfl, rfl, rfl, rfl, rfl, rfl, rfl, rfl, trivial⟩ ?_)
                        clear hK40 K40
                        refine Sp.Cd.condT rfl ?_
                        refine Sp.Cd.region ?_
                        refine Sp.L.pure (by kernel_rfl) (Sp.Runs.move rfl) ?_
                        refine Sp.L.pure (by kernel_rfl) (Sp.Runs.addI rfl rfl (Sp.wrapI (by omega) (by omega))) ?_
                        refine Sp.L.pure (by kernel_rfl) (Sp.Runs.assign rfl) ?_
                        refine Sp.L.nil ?_
                        refine Sp.Nx.block ?_
                        refine hK38 _ _ (Sp.Cd.sub (S' := [(3, _), (4, _), (5, _), (6, _), (7, _), (8, _), (23, _), (37, _), (250, _), (251, _), (252, _)]) ⟨rfl, rfl, rfl, rfl, rfl, rfl, rfl, rfl, rfl, rfl, rfl, trivial⟩ ?_)
                        clear hK38 K38
                        refine Sp.Cd.region ?_
                        refine Sp.L.pure (by kernel_rfl) (Sp.Runs.addI rfl rfl (Sp.wrapI (by omega) (by omega))) ?_
                        refine Sp.L.pure (by kernel_rfl) (Sp.Runs.move rfl) ?_
                        refine Sp.L.nil ?_
                        refine Sp.Nx.again (i3 + 1) ⟨(Sp.lkI rfl (by omega)), (Sp.lkI rfl (by omega)), rfl, rfl, rfl, rfl, rfl, rfl, rfl, rfl, rfl, trivial⟩ ⟨B2, hlt3⟩ (by omega)
                      · rw [if_neg hz3] at cs
                        refine Sp.Cd.seq fun K41 hK41 => ?_
                        refine Sp.Cd.region ?_
                        refine Sp.L.pure (by kernel_rfl) (Sp.Runs.ltIT rfl rfl (by omega)) ?_
                        refine Sp.L.nil ?_
                        refine hK41 _ _ (Sp.Cd.sub (S' := [(3, _), (4, _), (5, _), (6, _), (7, _), (8, _), (23, _), (37, _), (250, _), (251, _), (252, _), (253, _)]) ⟨rfl, rfl, rfl, rfl, rfl, rfl, rfl, rfl, rfl, rfl, rfl, rfl, trivial⟩ ?_)
                        clear hK41 K41
                        refine Sp.Cd.seq fun K42 hK42 => ?_
                        refine Sp.Cd.condT rfl ?_
                        refine Sp.Cd.skip ?_
                        refine hK42 _ _ (Sp.Cd.sub (S' := [(3, _), (4, _), (5, _), (6, _), (7, _), (8, _), (23, _), (37, _), (250, _), (251, _), (252, _)]) ⟨rfl, rfl, rfl, rfl, rfl, rfl, rfl, rfl, rfl, rfl, rfl, trivial⟩ ?_)
                        clear hK42 K42
                        refine Sp.Cd.seq fun K43 hK43 => ?_
                        refine Sp.Cd.block ?_
                        refine Sp.Cd.seq fun K44 hK44 => ?_
                        refine Sp.Cd.region ?_
                        refine Sp.L.pure (by kernel_rfl) (Sp.Runs.indexAddr rfl rfl ((hpq w13 (Below.refl _ _)).1)) ?_
                        refine Sp.L.pure (by kernel_rfl) (Sp.Runs.load rfl ((hpq w13 (Below.refl _ _)).2)) ?_
                        refine Sp.L.alloc Sp.alloc_mis (by kernel_rfl) ?_
                        obtain ⟨w14, hst, b, hcell⟩ := Sp.store_mis (w := w13) (p := (it).1) (q := (it).2.1) (s := (it).2.2)
                        refine Sp.L.store rfl rfl hst (by kernel_rfl) ?_
                        clear hst
                        obtain ⟨pM, hpM⟩ : ∃ x, x = w13.heap.size := ⟨_, rfl⟩
                        rw [← hpM] at hcell
                        rw [← hpM]
                        clear hpM
                        replace B0 := Lib.hid (B0.out.trans (b.mono B0.out.size))
                        replace B1 := Lib.hid (B1.out.trans (b.mono B1.out.size))
                        replace B2 := Lib.hid (B2.out.trans (b.mono B2.out.size))
                        replace HS := Lib.hid (HS.out.below b)
                        replace HM := Lib.hid (HM.out.below b)
                        replace HN := Lib.hid (HN.out.below b)
                        replace Hwri := Lib.hid (Hwri.out.below b)
                        clear b
                        refine Sp.L.nil ?_
                        refine hK44 _ _ (Sp.Cd.sub (S' := [(3, _), (4, _), (5, _), (6, _), (7, _), (8, _), (23, _), (37, _), (39, _), (250, _), (251, _), (252, _)]) ⟨rfl, rfl, rfl, rfl, rfl, rfl, rfl, rfl, rfl, rfl, rfl, rfl, trivial⟩ ?_)
                        clear hK44 K44
                        refine Sp.Cd.seq fun K45 hK45 => ?_
                        refine Sp.Cd.region ?_
                        refine Sp.L.pure (by kernel_rfl) (Sp.Runs.fieldAddr rfl Sp.field_mis) ?_
                        refine Sp.L.pure (by kernel_rfl) (Sp.Runs.load rfl ((Sp.load_int hcell))) ?_
                        refine Sp.L.pure (by kernel_rfl) (Sp.Runs.eqIF rfl rfl hz3) ?_
                        refine Sp.L.nil ?_
                        refine hK45 _ _ (Sp.Cd.sub (S' := [(3, _), (4, _), (5, _), (6, _), (7, _), (8, _), (23, _), (37, _), (250, _), (251, _), (252, _), (258, _)]) ⟨rfl, rfl, rfl, rfl, rfl, rfl, rfl, rfl, rfl, rfl, rfl, rfl, trivial⟩ ?_)
                        clear hK45 K45
                        refine Sp.Cd.condF rfl ?_
                        refine Sp.Cd.skip ?_
                        refine Sp.Nx.block ?_
                        refine hK43 _ _ (Sp.Cd.sub (S' := [(3, _), (4, _), (5, _), (6, _), (7, _), (8, _), (23, _), (37, _), (250, _), (251, _), (252, _)]) ⟨rfl, rfl, rfl, rfl, rfl, rfl, rfl, rfl, rfl, rfl, rfl, trivial⟩ ?_)
                        clear hK43 K43
                        refine Sp.Cd.region ?_
                        refine Sp.L.pure (by kernel_rfl) (Sp.Runs.addI rfl rfl (Sp.wrapI (by omega) (by omega))) ?_
                        refine Sp.L.pure (by kernel_rfl) (Sp.Runs.move rfl) ?_
                        refine Sp.L.nil ?_
                        refine Sp.Nx.again (i3 + 1) ⟨(Sp.lkI rfl (by omega)), (Sp.lkI rfl (by omega)), rfl, rfl, rfl, rfl, rfl, rfl, rfl, rfl, rfl, trivial⟩ ⟨B2, hlt3⟩ (by omega)
                    · have hi3 : i3 = lm := by omega
                      refine Sp.Cd.seq fun K46 hK46 => ?_
                      refine Sp.Cd.region ?_
                      refine Sp.L.pure (by kernel_rfl) (Sp.Runs.ltIF rfl rfl (by omega)) ?_
                      refine Sp.L.nil ?_
                      refine hK46 _ _ (Sp.Cd.sub (S' := [(3, _), (4, _), (5, _), (6, _), (7, _), (8, _), (23, _), (37, _), (250, _), (251, _), (252, _), (253, _)]) ⟨rfl, rfl, rfl, rfl, rfl, rfl, rfl, rfl, rfl, rfl, rfl, rfl, trivial⟩ ?_)
                      clear hK46 K46
                      refine Sp.Cd.seq fun K47 hK47 => ?_
                      refine Sp.Cd.condF rfl ?_
                      refine Sp.Cd.exit ?_
                      refine Sp.Ex.then ?_
                      clear hK47 K47
                      refine Sp.Ex.then ?_
                      clear B2
                      refine Sp.Ex.hit ?_
                      refine hK34 _ _ (Sp.Cd.sub (S' := [(3, _), (4, _), (5, _), (6, _), (7, _), (8, _), (23, _), (37, _)]) ⟨rfl, rfl, rfl, rfl, rfl, rfl, rfl, rfl, trivial⟩ ?_)
                      clear hK34 K34
                      refine Sp.Cd.viaK [(3, _), (4, _), (5, _), (6, _), (7, _), (8, _)] ⟨rfl, rfl, rfl, rfl, rfl, rfl, trivial⟩ ?_ ?_
                      · have B2 : Hid (Below w13.heap.size w13 w13) := Lib.hid (Below.refl _ _)
                        have hcl : cntZ ps ps.length = cntZ ps i3 := by rw [hml, hi3]
                        by_cases m0 : cntZ ps i3 = 0
                        · have h0 := F.few (hcl.trans m0)
                          refine Sp.Cd.seq fun K48 hK48 => ?_
                          refine Sp.Cd.region ?_
                          refine Sp.L.pure (by kernel_rfl) (Sp.Runs.move rfl) ?_
                          refine Sp.L.pure (by kernel_rfl) (Sp.Runs.eqIT rfl rfl (by omega)) ?_
                          refine Sp.L.pure (by kernel_rfl) (Sp.Runs.move rfl) ?_
                          refine Sp.L.pure (by kernel_rfl) (Sp.Runs.move rfl) ?_
                          have CC := vHas_q w13 awri lwri cwri wr 0 (by omega) Hwri.out
                          rw [h0] at CC
                          refine Sp.L.call (by kernel_rfl) (CC) rfl rfl (by kernel_rfl) ?_
                          clear CC
                          rintro e w' ⟨rfl, rfl⟩
                          refine ⟨_, rfl, ?_⟩
                          refine Sp.L.pure (by kernel_rfl) (Sp.Runs.pickT rfl rfl) ?_
                          refine Sp.L.pure (by kernel_rfl) (Sp.Runs.move rfl) ?_
                          refine Sp.L.pure (by kernel_rfl) (Sp.Runs.move rfl) ?_
                          refine Sp.L.pure (by kernel_rfl) (Sp.Runs.eqIF rfl rfl (by omega)) ?_
                          refine Sp.L.pure (by kernel_rfl) (Sp.Runs.move rfl) ?_
                          refine Sp.L.skip (by kernel_rfl) ?_
                          refine Sp.L.skip (by kernel_rfl) ?_
                          refine Sp.L.skip (by kernel_rfl) ?_
                          refine Sp.L.pure (by kernel_rfl) (Sp.Runs.pickF rfl rfl) ?_
                          refine Sp.L.pure (by kernel_rfl) (Sp.Runs.pickF rfl rfl) ?_
                          refine Sp.L.nil ?_
                          refine hK48 _ _ (Sp.Cd.sub (S' := [(3, _), (4, _), (5, _), (6, _), (7, _), (8, _), (276, _)]) ⟨rfl, rfl, rfl, rfl, rfl, rfl, rfl, trivial⟩ ?_)
                          clear hK48 K48
                          refine Sp.Cd.condF rfl ?_
                          refine Sp.Cd.skip ?_
                          refine Sp.Nx.post () ⟨rfl, rfl, rfl, rfl, rfl, rfl, trivial⟩ (B2.out)
                        · by_cases m1 : cntZ ps i3 = 1
                          · have h1 := F.one (hcl.trans m1)
                            refine Sp.Cd.seq fun K49 hK49 => ?_
                            refine Sp.Cd.region ?_
                            refine Sp.L.pure (by kernel_rfl) (Sp.Runs.move rfl) ?_
                            refine Sp.L.pure (by kernel_rfl) (Sp.Runs.eqIF rfl rfl (by omega)) ?_
                            refine Sp.L.pure (by kernel_rfl) (Sp.Runs.move rfl) ?_
                            refine Sp.L.skip (by kernel_rfl) ?_
                            refine Sp.L.skip (by kernel_rfl) ?_
                            refine Sp.L.pure (by kernel_rfl) (Sp.Runs.pickF rfl rfl) ?_
                            refine Sp.L.pure (by kernel_rfl) (Sp.Runs.move rfl) ?_
                            refine Sp.L.pure (by kernel_rfl) (Sp.Runs.move rfl) ?_
                            refine Sp.L.pure (by kernel_rfl) (Sp.Runs.eqIT rfl rfl (by omega)) ?_
                            refine Sp.L.pure (by kernel_rfl) (Sp.Runs.move rfl) ?_
                            refine Sp.L.pure (by kernel_rfl) (Sp.Runs.move rfl) ?_
                            have CC := vHas_q w13 awri lwri cwri wr 0 (by omega) Hwri.out
                            rw [h1] at CC
                            refine Sp.L.call (by kernel_rfl) (CC) rfl rfl (by kernel_rfl) ?_
                            clear CC
                            rintro e w' ⟨rfl, rfl⟩
                            refine ⟨_, rfl, ?_⟩
                            refine Sp.L.pure (by kernel_rfl) (Sp.Runs.notF rfl) ?_
                            refine Sp.L.pure (by kernel_rfl) (Sp.Runs.pickT rfl rfl) ?_
                            refine Sp.L.pure (by kernel_rfl) (Sp.Runs.pickF rfl rfl) ?_
                            refine Sp.L.nil ?_
                            refine hK49 _ _ (Sp.Cd.sub (S' := [(3, _), (4, _), (5, _), (6, _), (7, _), (8, _), (276, _)]) ⟨rfl, rfl, rfl, rfl, rfl, rfl, rfl, trivial⟩ ?_)
                            clear hK49 K49
                            refine Sp.Cd.condF rfl ?_
                            refine Sp.Cd.skip ?_
                            refine Sp.Nx.post () ⟨rfl, rfl, rfl, rfl, rfl, rfl, trivial⟩ (B2.out)
                          · refine Sp.Cd.seq fun K50 hK50 => ?_
                            refine Sp.Cd.region ?_
                            refine Sp.L.pure (by kernel_rfl) (Sp.Runs.move rfl) ?_
                            refine Sp.L.pure (by kernel_rfl) (Sp.Runs.eqIF rfl rfl (by omega)) ?_
                            refine Sp.L.pure (by kernel_rfl) (Sp.Runs.move rfl) ?_
                            refine Sp.L.skip (by kernel_rfl) ?_
                            refine Sp.L.skip (by kernel_rfl) ?_
                            refine Sp.L.pure (by kernel_rfl) (Sp.Runs.pickF rfl rfl) ?_
                            refine Sp.L.pure (by kernel_rfl) (Sp.Runs.move rfl) ?_
                            refine Sp.L.pure (by kernel_rfl) (Sp.Runs.move rfl) ?_
                            refine Sp.L.pure (by kernel_rfl) (Sp.Runs.eqIF rfl rfl (by omega)) ?_
                            refine Sp.L.pure (by kernel_rfl) (Sp.Runs.move rfl) ?_
                            refine Sp.L.skip (by kernel_rfl) ?_
                            refine Sp.L.skip (by kernel_rfl) ?_
                            refine Sp.L.skip (by kernel_rfl) ?_
                            refine Sp.L.pure (by kernel_rfl) (Sp.Runs.pickF rfl rfl) ?_
                            refine Sp.L.pure (by kernel_rfl) (Sp.Runs.pickF rfl rfl) ?_
                            refine Sp.L.nil ?_
                            refine hK50 _ _ (Sp.Cd.sub (S' := [(3, _), (4, _), (5, _), (6, _), (7, _), (8, _), (276, _)]) ⟨rfl, rfl, rfl, rfl, rfl, rfl, rfl, trivial⟩ ?_)
                            clear hK50 K50
                            refine Sp.Cd.condF rfl ?_
                            refine Sp.Cd.skip ?_
                            refine Sp.Nx.post () ⟨rfl, rfl, rfl, rfl, rfl, rfl, trivial⟩ (B2.out)
                      · intro w14 b
                        replace B0 := Lib.hid (B0.out.trans (b.mono B0.out.size))
                        replace B1 := Lib.hid (B1.out.trans (b.mono B1.out.size))
                        replace HS := Lib.hid (HS.out.below b)
                        replace HM := Lib.hid (HM.out.below b)
                        replace HN := Lib.hid (HN.out.below b)
                        replace Hwri := Lib.hid (Hwri.out.below b)
                        clear b
                        refine Sp.Nx.post () ⟨rfl, rfl, rfl, rfl, rfl, rfl, trivial⟩ (B1.out)
              · intro w8 b
                replace B0 := Lib.hid (B0.out.trans (b.mono B0.out.size))
                replace HS := Lib.hid (HS.out.below b)
                replace HM := Lib.hid (HM.out.below b)
                replace HN := Lib.hid (HN.out.below b)
                replace Hwri := Lib.hid (Hwri.out.below b)
                replace Hwrs := Lib.hid (Hwrs.out.below b)
                clear b
                refine Sp.Cd.seq fun K51 hK51 => ?_
                clear Hwri
                clear Hwrs
                clear HM
                refine Sp.Cd.region ?_
                refine Sp.L.pure (by kernel_rfl) (Sp.Runs.move rfl) ?_
                refine Sp.L.pure (by kernel_rfl) (Sp.Runs.move rfl) ?_
                refine Sp.L.pure (by kernel_rfl) (Sp.Runs.move rfl) ?_
                have CC := implWaysToFace_any w8 sw k turn hs wk wt z4 HS.out
                rw [← hwy, ← hb5] at CC
                refine Sp.L.call (by kernel_rfl) (CC) rfl rfl (by kernel_rfl) ?_
                clear CC
                rintro e w9 ⟨rfl, b⟩
                replace B0 := Lib.hid (B0.out.trans (b.mono B0.out.size))
                replace HS := Lib.hid (HS.out.below b)
                replace HN := Lib.hid (HN.out.below b)
                clear b
                refine ⟨_, rfl, ?_⟩
                refine Sp.L.pure (by kernel_rfl) (Sp.Runs.move rfl) ?_
                refine Sp.L.pure (by kernel_rfl) (Sp.Runs.extract rfl rfl) ?_
                refine Sp.L.pure (by kernel_rfl) (Sp.Runs.extract rfl rfl) ?_
                refine Sp.L.pure (by kernel_rfl) (Sp.Runs.assign rfl) ?_
                refine Sp.L.pure (by kernel_rfl) (Sp.Runs.assign rfl) ?_
                refine Sp.L.nil ?_
                refine hK51 _ _ (Sp.Cd.sub (S' := [(3, _), (4, _), (5, _), (6, _), (7, _), (8, _), (40, _), (41, _)]) ⟨rfl, rfl, rfl, rfl, rfl, rfl, rfl, rfl, trivial⟩ ?_)
                clear hK51 K51
                refine Sp.Cd.seq fun K52 hK52 => ?_
                refine Sp.Cd.region ?_
                refine Sp.L.pure (by kernel_rfl) (Sp.Runs.move rfl) ?_
                refine Sp.L.pure (by kernel_rfl) (Sp.Runs.move rfl) ?_
                refine Sp.L.pure (by kernel_rfl) (Sp.Runs.move rfl) ?_
                have CC := specWaysToFace_any w9 sw k turn hs wk wt z4
                rw [← hwy, ← hb5] at CC
                refine Sp.L.call (by kernel_rfl) (CC) rfl rfl (by kernel_rfl) ?_
                clear CC
                rintro e w10 ⟨rfl, b⟩
                replace B0 := Lib.hid (B0.out.trans (b.mono B0.out.size))
                replace HS := Lib.hid (HS.out.below b)
                replace HN := Lib.hid (HN.out.below b)
                clear b
                refine ⟨_, rfl, ?_⟩
                refine Sp.L.pure (by kernel_rfl) (Sp.Runs.move rfl) ?_
                refine Sp.L.pure (by kernel_rfl) (Sp.Runs.extract rfl rfl) ?_
                refine Sp.L.pure (by kernel_rfl) (Sp.Runs.extract rfl rfl) ?_
                refine Sp.L.pure (by kernel_rfl) (Sp.Runs.assign rfl) ?_
                refine Sp.L.pure (by kernel_rfl) (Sp.Runs.assign rfl) ?_
                refine Sp.L.nil ?_
                refine hK52 _ _ (Sp.Cd.sub (S' := [(3, _), (4, _), (5, _), (6, _), (7, _), (8, _), (40, _), (41, _), (42, _), (43, _)]) ⟨rfl, rfl, rfl, rfl, rfl, rfl, rfl, rfl, rfl, rfl, trivial⟩ ?_)
                clear hK52 K52
                refine Sp.Cd.seq fun K53 hK53 => ?_
                refine Sp.Cd.seq fun K54 hK54 => ?_
                refine Sp.Cd.region ?_
                refine Sp.L.pure (by kernel_rfl) (Sp.Runs.move rfl) ?_
                refine Sp.L.pure (by kernel_rfl) (Sp.Runs.move rfl) ?_
                refine Sp.L.pure (by kernel_rfl) (Sp.Runs.neBF Tryd.underlying4 rfl rfl (by first | rfl | assumption)) ?_
                refine Sp.L.pure (by kernel_rfl) (Sp.Runs.move rfl) ?_
                refine Sp.L.pure (by kernel_rfl) (Sp.Runs.move rfl) ?_
                refine Sp.L.pure (by kernel_rfl) (Sp.Runs.move rfl) ?_
                refine Sp.L.pure (by kernel_rfl) (Sp.Runs.neIF rfl rfl (by first | rfl | assumption | omega)) ?_
                refine Sp.L.pure (by kernel_rfl) (Sp.Runs.pickF rfl rfl) ?_
                refine Sp.L.pure (by kernel_rfl) (Sp.Runs.move rfl) ?_
                refine Sp.L.pure (by kernel_rfl) (Sp.Runs.move rfl) ?_
                refine Sp.L.pure (by kernel_rfl) (Sp.Runs.move rfl) ?_
                refine Sp.L.pure (by kernel_rfl) (Sp.Runs.move rfl) ?_
                have CC := implAreMistakes_any w10 soldiers said an ln cn qs wso hsd z5 (by omega) HN.out hnc HS.out
                rw [← hbl] at CC
                refine Sp.L.call (by kernel_rfl) (CC) rfl rfl (by kernel_rfl) ?_
                clear CC
                rintro e w11 ⟨rfl, b⟩
                replace B0 := Lib.hid (B0.out.trans (b.mono B0.out.size))
                replace HS := Lib.hid (HS.out.below b)
                replace HN := Lib.hid (HN.out.below b)
                clear b
                refine ⟨_, rfl, ?_⟩
                refine Sp.L.pure (by kernel_rfl) (Sp.Runs.move rfl) ?_
                refine Sp.L.pure (by kernel_rfl) (Sp.Runs.move rfl) ?_
                refine Sp.L.pure (by kernel_rfl) (Sp.Runs.move rfl) ?_
                have CC := specAreMistakes_any w11 soldiers said an ln cn qs wso hsd z5 (by omega) HN.out hnc
                rw [← hbl] at CC
                refine Sp.L.call (by kernel_rfl) (CC) rfl rfl (by kernel_rfl) ?_
                clear CC
                rintro e w12 ⟨rfl, b⟩
                replace B0 := Lib.hid (B0.out.trans (b.mono B0.out.size))
                replace HS := Lib.hid (HS.out.below b)
                replace HN := Lib.hid (HN.out.below b)
                clear b
                refine ⟨_, rfl, ?_⟩
                refine Sp.L.pure (by kernel_rfl) (Sp.Runs.neBF Tryd.underlying4 rfl rfl (by first | rfl | assumption)) ?_
                refine Sp.L.pure (by kernel_rfl) (Sp.Runs.pickF rfl rfl) ?_
                refine Sp.L.nil ?_
                refine hK54 _ _ (Sp.Cd.sub (S' := [(3, _), (4, _), (5, _), (40, _), (41, _), (309, _)]) ⟨rfl, rfl, rfl, rfl, rfl, rfl, trivial⟩ ?_)
                clear hK54 K54
                refine Sp.Cd.condF rfl ?_
                refine Sp.Cd.skip ?_
                refine hK53 _ _ (Sp.Cd.sub (S' := [(3, _), (4, _), (5, _), (40, _), (41, _)]) ⟨rfl, rfl, rfl, rfl, rfl, trivial⟩ ?_)
                clear hK53 K53
                refine Sp.Cd.seq fun K55 hK55 => ?_
                rcases b5 with _ | _
                · refine Sp.Cd.seq fun K56 hK56 => ?_
                  refine Sp.Cd.region ?_
                  refine Sp.L.pure (by kernel_rfl) (Sp.Runs.move rfl) ?_
                  refine Sp.L.pure (by kernel_rfl) (Sp.Runs.move rfl) ?_
                  refine Sp.L.skip (by kernel_rfl) ?_
                  refine Sp.L.skip (by kernel_rfl) ?_
                  refine Sp.L.skip (by kernel_rfl) ?_
                  refine Sp.L.pure (by kernel_rfl) (Sp.Runs.pickF rfl rfl) ?_
                  refine Sp.L.nil ?_
                  refine hK56 _ _ (Sp.Cd.sub (S' := [(3, _), (4, _), (5, _), (40, _), (315, _)]) ⟨rfl, rfl, rfl, rfl, rfl, trivial⟩ ?_)
                  clear hK56 K56
                  refine Sp.Cd.condF rfl ?_
                  refine Sp.Cd.skip ?_
                  refine hK55 _ _ (Sp.Cd.sub (S' := []) trivial ?_)
                  clear hK55 K55
                  refine Sp.Cd.seq fun K57 hK57 => ?_
                  refine Sp.Cd.region ?_
                  refine Sp.L.pure (by kernel_rfl) (Sp.Runs.assign rfl) ?_
                  refine Sp.L.nil ?_
                  refine hK57 _ _ (Sp.Cd.sub (S' := [(18, _)]) ⟨rfl, trivial⟩ ?_)
                  clear hK57 K57
                  refine Sp.Cd.ret ?_
                  refine Sp.Rt.body rfl rfl ?_
                  exact ⟨rfl, B0.out⟩
                · by_cases hz : sw.size ≤ 12
                  · have G := wayF hb5.symm hz
                    obtain ⟨n, hn⟩ : ∃ x, x = sw.size := ⟨_, rfl⟩
                    obtain ⟨K, hK⟩ : ∃ x, x = k.toNat := ⟨_, rfl⟩
                    obtain ⟨T, hT⟩ : ∃ x, x = turn.toNat := ⟨_, rfl⟩
                    rw [← hn, ← hK, ← hT] at G
                    have n12 := G.n12
                    have k60 := G.k60
                    have hk := G.hk
                    have gle := G.le
                    have gz := G.zero
                    rw [← hwy] at gz
                    have gall := G.all
                    obtain ⟨C3, hC3⟩ : ∃ x, x = ch n K * 3 ^ K := ⟨_, rfl⟩
                    rw [← hC3] at gle gall
                    refine Sp.Cd.seq fun K58 hK58 => ?_
                    refine Sp.Cd.region ?_
                    refine Sp.L.pure (by kernel_rfl) (Sp.Runs.move rfl) ?_
                    refine Sp.L.pure (by kernel_rfl) (Sp.Runs.move rfl) ?_
                    refine Sp.L.pure (by kernel_rfl) (Sp.Runs.move rfl) ?_
                    refine Sp.L.pure (by kernel_rfl) (Sp.Runs.lenS Tryd.underlying9 rfl) ?_
                    refine Sp.L.pure (by kernel_rfl) (Sp.Runs.leIT rfl rfl (by omega)) ?_
                    refine Sp.L.pure (by kernel_rfl) (Sp.Runs.pickT rfl rfl) ?_
                    refine Sp.L.nil ?_
                    refine hK58 _ _ (Sp.Cd.sub (S' := [(3, _), (4, _), (5, _), (40, _), (315, _)]) ⟨rfl, rfl, rfl, rfl, rfl, trivial⟩ ?_)
                    clear hK58 K58
                    refine Sp.Cd.condT rfl ?_
                    refine Sp.Cd.seq fun K59 hK59 => ?_
                    refine Sp.Cd.region ?_
                    refine Sp.L.pure (by kernel_rfl) (Sp.Runs.assign rfl) ?_
                    refine Sp.L.nil ?_
                    refine hK59 _ _ (Sp.Cd.sub (S' := [(3, _), (4, _), (5, _), (40, _), (44, _)]) ⟨rfl, rfl, rfl, rfl, rfl, trivial⟩ ?_)
                    clear hK59 K59
                    refine Sp.Cd.seq fun K60 hK60 => ?_
                    refine Sp.Cd.seq fun K61 hK61 => ?_
                    refine Sp.Cd.region ?_
                    refine Sp.L.pure (by kernel_rfl) (Sp.Runs.assign rfl) ?_
                    refine Sp.L.nil ?_
                    refine hK61 _ _ (Sp.Cd.sub (S' := [(3, _), (4, _), (5, _), (40, _), (44, _), (45, _)]) ⟨rfl, rfl, rfl, rfl, rfl, rfl, trivial⟩ ?_)
                    clear hK61 K61
                    refine Sp.Cd.block ?_
                    have B1 : Hid (Below w12.heap.size w12 w12) := Lib.hid (Below.refl _ _)
                    refine Sp.Cd.loop (ι := Nat) [(3, _), (4, _), (5, _), (40, _)] (fun t4 => [(44, .int .i64 (sumW sw k t4)), (45, .int .i64 (t4 : Nat))]) (fun t4 w' => Hid (Below w12.heap.size w12 w') ∧ (t4 ≤ 4)) (fun t4 => 4 - t4) 0 ⟨rfl, rfl, rfl, rfl, rfl, rfl, trivial⟩ ⟨B1, Nat.zero_le _⟩ ?_
                    clear B1
                    rintro t4 w13 ⟨B1, hrel⟩
                    have b := B1.out
                    replace B0 := Lib.hid (B0.out.trans (b.mono B0.out.size))
                    replace HS := Lib.hid (HS.out.below b)
                    replace HN := Lib.hid (HN.out.below b)
                    clear b
                    refine Sp.Cd.sub (S' := [(44, _), (45, _), (3, _), (4, _), (5, _), (40, _)]) ⟨rfl, rfl, rfl, rfl, rfl, rfl, trivial⟩ ?_
                    have g4 := G.sum t4 hrel
                    rw [← hC3] at g4
                    by_cases hlt4 : t4 < 4
                    · have ge := G.each t4 hlt4
                      have g5 := G.sum (t4 + 1) hlt4
                      rw [← hC3] at g5
                      have wt4 : (Lit.int .i64 (t4 : Int)).wf = true := WalkArith.wf_i64 ⟨by omega, by omega⟩
                      have ss : sumW sw k (t4 + 1) = sumW sw k t4 + outWaysToFace_0 sw k (t4 : Int) := rfl
                      have ge2 := ge.2
                      refine Sp.Cd.seq fun K62 hK62 => ?_
                      refine Sp.Cd.seq fun K63 hK63 => ?_
                      refine Sp.Cd.region ?_
                      refine Sp.L.pure (by kernel_rfl) (Sp.Runs.move rfl) ?_
                      refine Sp.L.pure (by kernel_rfl) (Sp.Runs.ltIT rfl rfl (by omega)) ?_
                      refine Sp.L.nil ?_
                      refine hK63 _ _ (Sp.Cd.sub (S' := [(3, _), (4, _), (5, _), (40, _), (44, _), (45, _), (317, _)]) ⟨rfl, rfl, rfl, rfl, rfl, rfl, rfl, trivial⟩ ?_)
                      clear hK63 K63
                      refine Sp.Cd.condT rfl ?_
                      refine Sp.Cd.skip ?_
                      refine hK62 _ _ (Sp.Cd.sub (S' := [(3, _), (4, _), (5, _), (40, _), (44, _), (45, _)]) ⟨rfl, rfl, rfl, rfl, rfl, rfl, trivial⟩ ?_)
                      clear hK62 K62
                      refine Sp.Cd.seq fun K64 hK64 => ?_
                      refine Sp.Cd.block ?_
                      refine Sp.Cd.seq fun K65 hK65 => ?_
                      refine Sp.Cd.region ?_
                      refine Sp.L.pure (by kernel_rfl) (Sp.Runs.move rfl) ?_
                      refine Sp.L.pure (by kernel_rfl) (Sp.Runs.move rfl) ?_
                      refine Sp.L.pure (by kernel_rfl) (Sp.Runs.move rfl) ?_
                      have CC := implWaysToFace_any w13 sw k (t4 : Int) hs wk wt4 z4 HS.out
                      rw [ge.1] at CC
                      refine Sp.L.call (by kernel_rfl) (CC) rfl rfl (by kernel_rfl) ?_
                      clear CC
                      rintro e w14 ⟨rfl, b⟩
                      replace B0 := Lib.hid (B0.out.trans (b.mono B0.out.size))
                      replace B1 := Lib.hid (B1.out.trans (b.mono B1.out.size))
                      replace HS := Lib.hid (HS.out.below b)
                      replace HN := Lib.hid (HN.out.below b)
                      clear b
                      refine ⟨_, rfl, ?_⟩
                      refine Sp.L.pure (by kernel_rfl) (Sp.Runs.move rfl) ?_
                      refine Sp.L.pure (by kernel_rfl) (Sp.Runs.extract rfl rfl) ?_
                      refine Sp.L.pure (by kernel_rfl) (Sp.Runs.extract rfl rfl) ?_
                      refine Sp.L.pure (by kernel_rfl) (Sp.Runs.assign rfl) ?_
                      refine Sp.L.pure (by kernel_rfl) (Sp.Runs.assign rfl) ?_
                      refine Sp.L.nil ?_
                      refine hK65 _ _ (Sp.Cd.sub (S' := [(3, _), (4, _), (5, _), (40, _), (44, _), (45, _), (46, _), (47, _)]) ⟨rfl, rfl, rfl, rfl, rfl, rfl, rfl, rfl, trivial⟩ ?_)
                      clear hK65 K65
                      refine Sp.Cd.seq fun K66 hK66 => ?_
                      refine Sp.Cd.seq fun K67 hK67 => ?_
                      refine Sp.Cd.region ?_
                      refine Sp.L.pure (by kernel_rfl) (Sp.Runs.move rfl) ?_
                      refine Sp.L.pure (by kernel_rfl) (Sp.Runs.notF rfl) ?_
                      refine Sp.L.pure (by kernel_rfl) (Sp.Runs.move rfl) ?_
                      refine Sp.L.pure (by kernel_rfl) (Sp.Runs.move rfl) ?_
                      refine Sp.L.pure (by kernel_rfl) (Sp.Runs.ltIF rfl rfl (by omega)) ?_
                      refine Sp.L.pure (by kernel_rfl) (Sp.Runs.pickF rfl rfl) ?_
                      refine Sp.L.nil ?_
                      refine hK67 _ _ (Sp.Cd.sub (S' := [(3, _), (4, _), (5, _), (40, _), (44, _), (45, _), (46, _), (332, _)]) ⟨rfl, rfl, rfl, rfl, rfl, rfl, rfl, rfl, trivial⟩ ?_)
                      clear hK67 K67
                      refine Sp.Cd.condF rfl ?_
                      refine Sp.Cd.skip ?_
                      refine hK66 _ _ (Sp.Cd.sub (S' := [(3, _), (4, _), (5, _), (40, _), (44, _), (45, _), (46, _)]) ⟨rfl, rfl, rfl, rfl, rfl, rfl, rfl, trivial⟩ ?_)
                      clear hK66 K66
                      refine Sp.Cd.region ?_
                      refine Sp.L.pure (by kernel_rfl) (Sp.Runs.move rfl) ?_
                      refine Sp.L.pure (by kernel_rfl) (Sp.Runs.move rfl) ?_
                      refine Sp.L.pure (by kernel_rfl) (Sp.Runs.addI rfl rfl (Sp.wrapI (by omega) (by omega))) ?_
                      refine Sp.L.pure (by kernel_rfl) (Sp.Runs.assign rfl) ?_
                      refine Sp.L.nil ?_
                      refine Sp.Nx.block ?_
                      refine hK64 _ _ (Sp.Cd.sub (S' := [(3, _), (4, _), (5, _), (40, _), (44, _), (45, _)]) ⟨rfl, rfl, rfl, rfl, rfl, rfl, trivial⟩ ?_)
                      clear hK64 K64
                      refine Sp.Cd.region ?_
                      refine Sp.L.pure (by kernel_rfl) (Sp.Runs.move rfl) ?_
                      refine Sp.L.pure (by kernel_rfl) (Sp.Runs.addI rfl rfl (Sp.wrapI (by omega) (by omega))) ?_
                      refine Sp.L.pure (by kernel_rfl) (Sp.Runs.assign rfl) ?_
                      refine Sp.L.nil ?_
                      refine Sp.Nx.again (t4 + 1) ⟨(Sp.lkI rfl ss.symm), (Sp.lkI rfl (by omega)), rfl, rfl, rfl, rfl, trivial⟩ ⟨B1, hlt4⟩ (by omega)
                    · obtain rfl : t4 = 4 := by omega
                      refine Sp.Cd.seq fun K68 hK68 => ?_
                      refine Sp.Cd.seq fun K69 hK69 => ?_
                      refine Sp.Cd.region ?_
                      refine Sp.L.pure (by kernel_rfl) (Sp.Runs.move rfl) ?_
                      refine Sp.L.pure (by kernel_rfl) (Sp.Runs.ltIF rfl rfl (by omega)) ?_
                      refine Sp.L.nil ?_
                      refine hK69 _ _ (Sp.Cd.sub (S' := [(3, _), (4, _), (5, _), (40, _), (44, _), (45, _), (317, _)]) ⟨rfl, rfl, rfl, rfl, rfl, rfl, rfl, trivial⟩ ?_)
                      clear hK69 K69
                      refine Sp.Cd.condF rfl ?_
                      refine Sp.Cd.exit ?_
                      refine Sp.Ex.then ?_
                      clear hK68 K68
                      refine Sp.Ex.then ?_
                      clear B1
                      refine Sp.Ex.hit ?_
                      refine hK60 _ _ (Sp.Cd.sub (S' := [(3, _), (4, _), (5, _), (40, _), (44, _)]) ⟨rfl, rfl, rfl, rfl, rfl, trivial⟩ ?_)
                      clear hK60 K60
                      refine Sp.Cd.seq fun K70 hK70 => ?_
                      refine Sp.Cd.region ?_
                      refine Sp.L.pure (by kernel_rfl) (Sp.Runs.assign rfl) ?_
                      refine Sp.L.nil ?_
                      refine hK70 _ _ (Sp.Cd.sub (S' := [(3, _), (4, _), (5, _), (40, _), (44, _), (48, _)]) ⟨rfl, rfl, rfl, rfl, rfl, rfl, trivial⟩ ?_)
                      clear hK70 K70
                      refine Sp.Cd.seq fun K71 hK71 => ?_
                      refine Sp.Cd.seq fun K72 hK72 => ?_
                      refine Sp.Cd.region ?_
                      refine Sp.L.pure (by kernel_rfl) (Sp.Runs.assign rfl) ?_
                      refine Sp.L.nil ?_
                      refine hK72 _ _ (Sp.Cd.sub (S' := [(3, _), (4, _), (5, _), (40, _), (44, _), (48, _), (49, _)]) ⟨rfl, rfl, rfl, rfl, rfl, rfl, rfl, trivial⟩ ?_)
                      clear hK72 K72
                      refine Sp.Cd.block ?_
                      have B1 : Hid (Below w13.heap.size w13 w13) := Lib.hid (Below.refl _ _)
                      refine Sp.Cd.loop (ι := Nat) [(3, _), (4, _), (5, _), (40, _), (44, _)] (fun i5 => [(48, .int .i64 ((ch n i5 : Nat) : Int)), (49, .int .i64 ((i5 : Int) + 1))]) (fun i5 w' => Hid (Below w13.heap.size w13 w') ∧ (i5 ≤ K)) (fun i5 => K - i5) 0 ⟨(Sp.lkI rfl (by cases n <;> rfl)), rfl, rfl, rfl, rfl, rfl, rfl, trivial⟩ ⟨B1, Nat.zero_le _⟩ ?_
                      clear B1
                      rintro i5 w14 ⟨B1, hrel⟩
                      have b := B1.out
                      replace B0 := Lib.hid (B0.out.trans (b.mono B0.out.size))
                      replace HS := Lib.hid (HS.out.below b)
                      replace HN := Lib.hid (HN.out.below b)
                      clear b
                      refine Sp.Cd.sub (S' := [(48, _), (49, _), (3, _), (4, _), (5, _), (40, _), (44, _)]) ⟨rfl, rfl, rfl, rfl, rfl, rfl, rfl, trivial⟩ ?_
                      have b5' := ch_bd n12 i5
                      have b6 := ch_bd n12 (i5 + 1)
                      by_cases hlt5 : i5 < K
                      · have pe : ((ch n i5 : Nat) : Int) * ((sw.size : Int) - ((i5 : Int) + 1) + 1) = ((ch n (i5 + 1) : Nat) : Int) * ((i5 : Int) + 1) := by rw [← hn, show (n : Int) - ((i5 : Int) + 1) + 1 = (n : Int) - (i5 : Int) by omega]; exact ch_step n12 i5
                        have pb := Sp.mulbd (a := ((ch n (i5 + 1) : Nat) : Int)) (b := (i5 : Int) + 1) (A := 1000) (B := 61) (by omega) (by omega) (by omega) (by omega)
                        refine Sp.Cd.seq fun K73 hK73 => ?_
                        refine Sp.Cd.seq fun K74 hK74 => ?_
                        refine Sp.Cd.region ?_
                        refine Sp.L.pure (by kernel_rfl) (Sp.Runs.move rfl) ?_
                        refine Sp.L.pure (by kernel_rfl) (Sp.Runs.move rfl) ?_
                        refine Sp.L.pure (by kernel_rfl) (Sp.Runs.leIT rfl rfl (by omega)) ?_
                        refine Sp.L.nil ?_
                        refine hK74 _ _ (Sp.Cd.sub (S' := [(3, _), (4, _), (5, _), (40, _), (44, _), (48, _), (49, _), (338, _)]) ⟨rfl, rfl, rfl, rfl, rfl, rfl, rfl, rfl, trivial⟩ ?_)
                        clear hK74 K74
                        refine Sp.Cd.condT rfl ?_
                        refine Sp.Cd.skip ?_
                        refine hK73 _ _ (Sp.Cd.sub (S' := [(3, _), (4, _), (5, _), (40, _), (44, _), (48, _), (49, _)]) ⟨rfl, rfl, rfl, rfl, rfl, rfl, rfl, trivial⟩ ?_)
                        clear hK73 K73
                        refine Sp.Cd.seq fun K75 hK75 => ?_
                        refine Sp.Cd.block ?_
                        refine Sp.Cd.region ?_
                        refine Sp.L.pure (by kernel_rfl) (Sp.Runs.move rfl) ?_
                        refine Sp.L.pure (by kernel_rfl) (Sp.Runs.move rfl) ?_
                        refine Sp.L.pure (by kernel_rfl) (Sp.Runs.lenS Tryd.underlying9 rfl) ?_
                        refine Sp.L.pure (by kernel_rfl) (Sp.Runs.move rfl) ?_
                        refine Sp.L.pure (by kernel_rfl) (Sp.Runs.subI rfl rfl (Sp.wrapI (by omega) (by omega))) ?_
                        refine Sp.L.pure (by kernel_rfl) (Sp.Runs.addI rfl rfl (Sp.wrapI (by omega) (by omega))) ?_
                        refine Sp.L.pure (by kernel_rfl) (Sp.Runs.mulI rfl rfl ((congrArg _ pe).trans (Sp.wrapI (by omega) (by omega)))) ?_
                        refine Sp.L.pure (by kernel_rfl) (Sp.Runs.move rfl) ?_
                        refine Sp.L.pure (by kernel_rfl) (Sp.Runs.quoI rfl rfl (by omega) ((congrArg _ (Int.mul_tdiv_cancel _ (by omega))).trans (Sp.wrapI (by omega) (by omega)))) ?_
                        refine Sp.L.pure (by kernel_rfl) (Sp.Runs.assign rfl) ?_
                        refine Sp.L.nil ?_
                        refine Sp.Nx.block ?_
                        refine hK75 _ _ (Sp.Cd.sub (S' := [(3, _), (4, _), (5, _), (40, _), (44, _), (48, _), (49, _)]) ⟨rfl, rfl, rfl, rfl, rfl, rfl, rfl, trivial⟩ ?_)
                        clear hK75 K75
                        refine Sp.Cd.region ?_
                        refine Sp.L.pure (by kernel_rfl) (Sp.Runs.move rfl) ?_
                        refine Sp.L.pure (by kernel_rfl) (Sp.Runs.addI rfl rfl (Sp.wrapI (by omega) (by omega))) ?_
                        refine Sp.L.pure (by kernel_rfl) (Sp.Runs.assign rfl) ?_
                        refine Sp.L.nil ?_
                        refine Sp.Nx.again (i5 + 1) ⟨rfl, (Sp.lkI rfl (by omega)), rfl, rfl, rfl, rfl, rfl, trivial⟩ ⟨B1, hlt5⟩ (by omega)
                      · obtain rfl : K = i5 := by omega
                        refine Sp.Cd.seq fun K76 hK76 => ?_
                        refine Sp.Cd.seq fun K77 hK77 => ?_
                        refine Sp.Cd.region ?_
                        refine Sp.L.pure (by kernel_rfl) (Sp.Runs.move rfl) ?_
                        refine Sp.L.pure (by kernel_rfl) (Sp.Runs.move rfl) ?_
                        refine Sp.L.pure (by kernel_rfl) (Sp.Runs.leIF rfl rfl (by omega)) ?_
                        refine Sp.L.nil ?_
                        refine hK77 _ _ (Sp.Cd.sub (S' := [(3, _), (4, _), (5, _), (40, _), (44, _), (48, _), (49, _), (338, _)]) ⟨rfl, rfl, rfl, rfl, rfl, rfl, rfl, rfl, trivial⟩ ?_)
                        clear hK77 K77
                        refine Sp.Cd.condF rfl ?_
                        refine Sp.Cd.exit ?_
                        refine Sp.Ex.then ?_
                        clear hK76 K76
                        refine Sp.Ex.then ?_
                        clear B1
                        refine Sp.Ex.hit ?_
                        refine hK71 _ _ (Sp.Cd.sub (S' := [(3, _), (4, _), (5, _), (40, _), (44, _), (48, _)]) ⟨rfl, rfl, rfl, rfl, rfl, rfl, trivial⟩ ?_)
                        clear hK71 K71
                        refine Sp.Cd.seq fun K78 hK78 => ?_
                        refine Sp.Cd.seq fun K79 hK79 => ?_
                        refine Sp.Cd.region ?_
                        refine Sp.L.pure (by kernel_rfl) (Sp.Runs.assign rfl) ?_
                        refine Sp.L.nil ?_
                        refine hK79 _ _ (Sp.Cd.sub (S' := [(3, _), (4, _), (5, _), (40, _), (44, _), (48, _), (50, _)]) ⟨rfl, rfl, rfl, rfl, rfl, rfl, rfl, trivial⟩ ?_)
                        clear hK79 K79
                        refine Sp.Cd.block ?_
                        have B1 : Hid (Below w14.heap.size w14 w14) := Lib.hid (Below.refl _ _)
                        refine Sp.Cd.loop (ι := Nat) [(3, _), (4, _), (5, _), (40, _), (44, _)] (fun i6 => [(48, .int .i64 ((ch n K * 3 ^ i6 : Nat) : Int)), (50, .int .i64 (i6 : Nat))]) (fun i6 w' => Hid (Below w14.heap.size w14 w') ∧ (i6 ≤ K)) (fun i6 => K - i6) 0 ⟨(Sp.lkI rfl (by simp)), rfl, rfl, rfl, rfl, rfl, rfl, trivial⟩ ⟨B1, Nat.zero_le _⟩ ?_
                        clear B1
                        rintro i6 w15 ⟨B1, hrel⟩
                        have b := B1.out
                        replace B0 := Lib.hid (B0.out.trans (b.mono B0.out.size))
                        replace HS := Lib.hid (HS.out.below b)
                        replace HN := Lib.hid (HN.out.below b)
                        clear b
                        refine Sp.Cd.sub (S' := [(48, _), (50, _), (3, _), (4, _), (5, _), (40, _), (44, _)]) ⟨rfl, rfl, rfl, rfl, rfl, rfl, rfl, trivial⟩ ?_
                        have q0 : ch n K * 3 ^ i6 ≤ ch n K * 3 ^ K := Nat.mul_le_mul_left _ (Nat.pow_le_pow_right (by omega) hrel)
                        rw [← hC3] at q0
                        by_cases hlt6 : i6 < K
                        · have p3 : ch n K * 3 ^ (i6 + 1) = ch n K * 3 ^ i6 * 3 := by rw [Nat.pow_succ, Nat.mul_assoc]
                          obtain ⟨x6, hx6⟩ : ∃ x, x = ch n K * 3 ^ i6 := ⟨_, rfl⟩
                          rw [← hx6] at p3 q0
                          simp only [← hx6]
                          refine Sp.Cd.seq fun K80 hK80 => ?_
                          refine Sp.Cd.seq fun K81 hK81 => ?_
                          refine Sp.Cd.region ?_
                          refine Sp.L.pure (by kernel_rfl) (Sp.Runs.move rfl) ?_
                          refine Sp.L.pure (by kernel_rfl) (Sp.Runs.move rfl) ?_
                          refine Sp.L.pure (by kernel_rfl) (Sp.Runs.ltIT rfl rfl (by omega)) ?_
                          refine Sp.L.nil ?_
                          refine hK81 _ _ (Sp.Cd.sub (S' := [(3, _), (4, _), (5, _), (40, _), (44, _), (48, _), (50, _), (352, _)]) ⟨rfl, rfl, rfl, rfl, rfl, rfl, rfl, rfl, trivial⟩ ?_)
                          clear hK81 K81
                          refine Sp.Cd.condT rfl ?_
                          refine Sp.Cd.skip ?_
                          refine hK80 _ _ (Sp.Cd.sub (S' := [(3, _), (4, _), (5, _), (40, _), (44, _), (48, _), (50, _)]) ⟨rfl, rfl, rfl, rfl, rfl, rfl, rfl, trivial⟩ ?_)
                          clear hK80 K80
                          refine Sp.Cd.seq fun K82 hK82 => ?_
                          refine Sp.Cd.block ?_
                          refine Sp.Cd.region ?_
                          refine Sp.L.pure (by kernel_rfl) (Sp.Runs.move rfl) ?_
                          refine Sp.L.pure (by kernel_rfl) (Sp.Runs.mulI rfl rfl (Sp.wrapI (by omega) (by omega))) ?_
                          refine Sp.L.pure (by kernel_rfl) (Sp.Runs.assign rfl) ?_
                          refine Sp.L.nil ?_
                          refine Sp.Nx.block ?_
                          refine hK82 _ _ (Sp.Cd.sub (S' := [(3, _), (4, _), (5, _), (40, _), (44, _), (48, _), (50, _)]) ⟨rfl, rfl, rfl, rfl, rfl, rfl, rfl, trivial⟩ ?_)
                          clear hK82 K82
                          refine Sp.Cd.region ?_
                          refine Sp.L.pure (by kernel_rfl) (Sp.Runs.move rfl) ?_
                          refine Sp.L.pure (by kernel_rfl) (Sp.Runs.addI rfl rfl (Sp.wrapI (by omega) (by omega))) ?_
                          refine Sp.L.pure (by kernel_rfl) (Sp.Runs.assign rfl) ?_
                          refine Sp.L.nil ?_
                          refine Sp.Nx.again (i6 + 1) ⟨(Sp.lkI rfl (by rw [p3]; omega)), (Sp.lkI rfl (by omega)), rfl, rfl, rfl, rfl, rfl, trivial⟩ ⟨B1, hlt6⟩ (by omega)
                        · obtain rfl : K = i6 := by omega
                          refine Sp.Cd.seq fun K83 hK83 => ?_
                          refine Sp.Cd.seq fun K84 hK84 => ?_
                          refine Sp.Cd.region ?_
                          refine Sp.L.pure (by kernel_rfl) (Sp.Runs.move rfl) ?_
                          refine Sp.L.pure (by kernel_rfl) (Sp.Runs.move rfl) ?_
                          refine Sp.L.pure (by kernel_rfl) (Sp.Runs.ltIF rfl rfl (by omega)) ?_
                          refine Sp.L.nil ?_
                          refine hK84 _ _ (Sp.Cd.sub (S' := [(3, _), (4, _), (5, _), (40, _), (44, _), (48, _), (50, _), (352, _)]) ⟨rfl, rfl, rfl, rfl, rfl, rfl, rfl, rfl, trivial⟩ ?_)
                          clear hK84 K84
                          refine Sp.Cd.condF rfl ?_
                          refine Sp.Cd.exit ?_
                          refine Sp.Ex.then ?_
                          clear hK83 K83
                          refine Sp.Ex.then ?_
                          clear B1
                          refine Sp.Ex.hit ?_
                          refine hK78 _ _ (Sp.Cd.sub (S' := [(3, _), (4, _), (5, _), (40, _), (44, _), (48, _)]) ⟨rfl, rfl, rfl, rfl, rfl, rfl, trivial⟩ ?_)
                          clear hK78 K78
                          refine Sp.Cd.seq fun K85 hK85 => ?_
                          by_cases hkn : n < K
                          · have hC0 : C3 = 0 := by rw [hC3, ch_none n K hkn, Nat.zero_mul]
                            by_cases hk0 : K = 0
                            · have gz0 := gz hk0
                              by_cases hnt : outNetTurn_0 sw = turn
                              · rw [if_pos hnt] at gz0
                                refine Sp.Cd.seq fun K86 hK86 => ?_
                                refine Sp.Cd.region ?_
                                refine Sp.L.pure (by kernel_rfl) (Sp.Runs.move rfl) ?_
                                refine Sp.L.pure (by kernel_rfl) (Sp.Runs.move rfl) ?_
                                refine Sp.L.pure (by kernel_rfl) (Sp.Runs.lenS Tryd.underlying9 rfl) ?_
                                refine Sp.L.pure (by kernel_rfl) (Sp.Runs.gtIT rfl rfl (by omega)) ?_
                                refine Sp.L.nil ?_
                                refine hK86 _ _ (Sp.Cd.sub (S' := [(3, _), (4, _), (5, _), (40, _), (44, _), (48, _), (360, _)]) ⟨rfl, rfl, rfl, rfl, rfl, rfl, rfl, trivial⟩ ?_)
                                clear hK86 K86
                                refine Sp.Cd.condT rfl ?_
                                refine Sp.Cd.region ?_
                                refine Sp.L.pure (by kernel_rfl) (Sp.Runs.assign rfl) ?_
                                refine Sp.L.nil ?_
                                refine hK85 _ _ (Sp.Cd.sub (S' := [(3, _), (4, _), (5, _), (40, _), (44, _), (48, _)]) ⟨rfl, rfl, rfl, rfl, rfl, rfl, trivial⟩ ?_)
                                clear hK85 K85
                                refine Sp.Cd.seq fun K87 hK87 => ?_
                                refine Sp.Cd.seq fun K88 hK88 => ?_
                                refine Sp.Cd.region ?_
                                refine Sp.L.pure (by kernel_rfl) (Sp.Runs.move rfl) ?_
                                refine Sp.L.pure (by kernel_rfl) (Sp.Runs.move rfl) ?_
                                refine Sp.L.pure (by kernel_rfl) (Sp.Runs.neIF rfl rfl (by rw [gall, hC0]; rfl)) ?_
                                refine Sp.L.nil ?_
                                refine hK88 _ _ (Sp.Cd.sub (S' := [(3, _), (4, _), (5, _), (40, _), (363, _)]) ⟨rfl, rfl, rfl, rfl, rfl, trivial⟩ ?_)
                                clear hK88 K88
                                refine Sp.Cd.condF rfl ?_
                                refine Sp.Cd.skip ?_
                                refine hK87 _ _ (Sp.Cd.sub (S' := [(3, _), (4, _), (5, _), (40, _)]) ⟨rfl, rfl, rfl, rfl, trivial⟩ ?_)
                                clear hK87 K87
                                refine Sp.Cd.seq fun K89 hK89 => ?_
                                refine Sp.Cd.region ?_
                                refine Sp.L.pure (by kernel_rfl) (Sp.Runs.move rfl) ?_
                                refine Sp.L.pure (by kernel_rfl) (Sp.Runs.eqIT rfl rfl (by omega)) ?_
                                refine Sp.L.nil ?_
                                refine hK89 _ _ (Sp.Cd.sub (S' := [(3, _), (5, _), (40, _), (365, _)]) ⟨rfl, rfl, rfl, rfl, trivial⟩ ?_)
                                clear hK89 K89
                                refine Sp.Cd.condT rfl ?_
                                refine Sp.Cd.seq fun K90 hK90 => ?_
                                refine Sp.Cd.region ?_
                                refine Sp.L.pure (by kernel_rfl) (Sp.Runs.move rfl) ?_
                                have CC := implNetTurn_any w15 sw hs z4 HS.out
                                rw [G.good] at CC
                                refine Sp.L.call (by kernel_rfl) (CC) rfl rfl (by kernel_rfl) ?_
                                clear CC
                                rintro e w16 ⟨rfl, b⟩
                                replace B0 := Lib.hid (B0.out.trans (b.mono B0.out.size))
                                replace HS := Lib.hid (HS.out.below b)
                                replace HN := Lib.hid (HN.out.below b)
                                clear b
                                refine ⟨_, rfl, ?_⟩
                                refine Sp.L.pure (by kernel_rfl) (Sp.Runs.move rfl) ?_
                                refine Sp.L.pure (by kernel_rfl) (Sp.Runs.extract rfl rfl) ?_
                                refine Sp.L.pure (by kernel_rfl) (Sp.Runs.extract rfl rfl) ?_
                                refine Sp.L.pure (by kernel_rfl) (Sp.Runs.assign rfl) ?_
                                refine Sp.L.pure (by kernel_rfl) (Sp.Runs.assign rfl) ?_
                                refine Sp.L.nil ?_
                                refine hK90 _ _ (Sp.Cd.sub (S' := [(5, _), (40, _), (51, _), (52, _)]) ⟨rfl, rfl, rfl, rfl, trivial⟩ ?_)
                                clear hK90 K90
                                refine Sp.Cd.seq fun K91 hK91 => ?_
                                refine Sp.Cd.region ?_
                                refine Sp.L.pure (by kernel_rfl) (Sp.Runs.move rfl) ?_
                                refine Sp.L.pure (by kernel_rfl) (Sp.Runs.notF rfl) ?_
                                refine Sp.L.pure (by kernel_rfl) (Sp.Runs.move rfl) ?_
                                refine Sp.L.pure (by kernel_rfl) (Sp.Runs.move rfl) ?_
                                refine Sp.L.pure (by kernel_rfl) (Sp.Runs.eqIT rfl rfl (by omega)) ?_
                                refine Sp.L.pure (by kernel_rfl) (Sp.Runs.move rfl) ?_
                                refine Sp.L.pure (by kernel_rfl) (Sp.Runs.move rfl) ?_
                                refine Sp.L.pure (by kernel_rfl) (Sp.Runs.eqIT rfl rfl hnt) ?_
                                refine Sp.L.pure (by kernel_rfl) (Sp.Runs.neBF Tryd.underlying4 rfl rfl (by decide)) ?_
                                refine Sp.L.pure (by kernel_rfl) (Sp.Runs.pickF rfl rfl) ?_
                                refine Sp.L.pure (by kernel_rfl) (Sp.Runs.move rfl) ?_
                                refine Sp.L.pure (by kernel_rfl) (Sp.Runs.move rfl) ?_
                                refine Sp.L.pure (by kernel_rfl) (Sp.Runs.gtIF rfl rfl (by omega)) ?_
                                refine Sp.L.pure (by kernel_rfl) (Sp.Runs.pickF rfl rfl) ?_
                                refine Sp.L.nil ?_
                                refine hK91 _ _ (Sp.Cd.sub (S' := [(384, _)]) ⟨rfl, trivial⟩ ?_)
                                clear hK91 K91
                                refine Sp.Cd.condF rfl ?_
                                refine Sp.Cd.skip ?_
                                refine hK55 _ _ (Sp.Cd.sub (S' := []) trivial ?_)
                                clear hK55 K55
                                refine Sp.Cd.seq fun K92 hK92 => ?_
                                refine Sp.Cd.region ?_
                                refine Sp.L.pure (by kernel_rfl) (Sp.Runs.assign rfl) ?_
                                refine Sp.L.nil ?_
                                refine hK92 _ _ (Sp.Cd.sub (S' := [(18, _)]) ⟨rfl, trivial⟩ ?_)
                                clear hK92 K92
                                refine Sp.Cd.ret ?_
                                refine Sp.Rt.body rfl rfl ?_
                                exact ⟨rfl, B0.out⟩
                              · rw [if_neg hnt] at gz0
                                refine Sp.Cd.seq fun K93 hK93 => ?_
                                refine Sp.Cd.region ?_
                                refine Sp.L.pure (by kernel_rfl) (Sp.Runs.move rfl) ?_
                                refine Sp.L.pure (by kernel_rfl) (Sp.Runs.move rfl) ?_
                                refine Sp.L.pure (by kernel_rfl) (Sp.Runs.lenS Tryd.underlying9 rfl) ?_
                                refine Sp.L.pure (by kernel_rfl) (Sp.Runs.gtIT rfl rfl (by omega)) ?_
                                refine Sp.L.nil ?_
                                refine hK93 _ _ (Sp.Cd.sub (S' := [(3, _), (4, _), (5, _), (40, _), (44, _), (48, _), (360, _)]) ⟨rfl, rfl, rfl, rfl, rfl, rfl, rfl, trivial⟩ ?_)
                                clear hK93 K93
                                refine Sp.Cd.condT rfl ?_
                                refine Sp.Cd.region ?_
                                refine Sp.L.pure (by kernel_rfl) (Sp.Runs.assign rfl) ?_
                                refine Sp.L.nil ?_
                                refine hK85 _ _ (Sp.Cd.sub (S' := [(3, _), (4, _), (5, _), (40, _), (44, _), (48, _)]) ⟨rfl, rfl, rfl, rfl, rfl, rfl, trivial⟩ ?_)
                                clear hK85 K85
                                refine Sp.Cd.seq fun K94 hK94 => ?_
                                refine Sp.Cd.seq fun K95 hK95 => ?_
                                refine Sp.Cd.region ?_
                                refine Sp.L.pure (by kernel_rfl) (Sp.Runs.move rfl) ?_
                                refine Sp.L.pure (by kernel_rfl) (Sp.Runs.move rfl) ?_
                                refine Sp.L.pure (by kernel_rfl) (Sp.Runs.neIF rfl rfl (by rw [gall, hC0]; rfl)) ?_
                                refine Sp.L.nil ?_
                                refine hK95 _ _ (Sp.Cd.sub (S' := [(3, _), (4, _), (5, _), (40, _), (363, _)]) ⟨rfl, rfl, rfl, rfl, rfl, trivial⟩ ?_)
                                clear hK95 K95
                                refine Sp.Cd.condF rfl ?_
                                refine Sp.Cd.skip ?_
                                refine hK94 _ _ (Sp.Cd.sub (S' := [(3, _), (4, _), (5, _), (40, _)]) ⟨rfl, rfl, rfl, rfl, trivial⟩ ?_)
                                clear hK94 K94
                                refine Sp.Cd.seq fun K96 hK96 => ?_
                                refine Sp.Cd.region ?_
                                refine Sp.L.pure (by kernel_rfl) (Sp.Runs.move rfl) ?_
                                refine Sp.L.pure (by kernel_rfl) (Sp.Runs.eqIT rfl rfl (by omega)) ?_
                                refine Sp.L.nil ?_
                                refine hK96 _ _ (Sp.Cd.sub (S' := [(3, _), (5, _), (40, _), (365, _)]) ⟨rfl, rfl, rfl, rfl, trivial⟩ ?_)
                                clear hK96 K96
                                refine Sp.Cd.condT rfl ?_
                                refine Sp.Cd.seq fun K97 hK97 => ?_
                                refine Sp.Cd.region ?_
                                refine Sp.L.pure (by kernel_rfl) (Sp.Runs.move rfl) ?_
                                have CC := implNetTurn_any w15 sw hs z4 HS.out
                                rw [G.good] at CC
                                refine Sp.L.call (by kernel_rfl) (CC) rfl rfl (by kernel_rfl) ?_
                                clear CC
                                rintro e w16 ⟨rfl, b⟩
                                replace B0 := Lib.hid (B0.out.trans (b.mono B0.out.size))
                                replace HS := Lib.hid (HS.out.below b)
                                replace HN := Lib.hid (HN.out.below b)
                                clear b
                                refine ⟨_, rfl, ?_⟩
                                refine Sp.L.pure (by kernel_rfl) (Sp.Runs.move rfl) ?_
                                refine Sp.L.pure (by kernel_rfl) (Sp.Runs.extract rfl rfl) ?_
                                refine Sp.L.pure (by kernel_rfl) (Sp.Runs.extract rfl rfl) ?_
                                refine Sp.L.pure (by kernel_rfl) (Sp.Runs.assign rfl) ?_
                                refine Sp.L.pure (by kernel_rfl) (Sp.Runs.assign rfl) ?_
                                refine Sp.L.nil ?_
                                refine hK97 _ _ (Sp.Cd.sub (S' := [(5, _), (40, _), (51, _), (52, _)]) ⟨rfl, rfl, rfl, rfl, trivial⟩ ?_)
                                clear hK97 K97
                                refine Sp.Cd.seq fun K98 hK98 => ?_
                                refine Sp.Cd.region ?_
                                refine Sp.L.pure (by kernel_rfl) (Sp.Runs.move rfl) ?_
                                refine Sp.L.pure (by kernel_rfl) (Sp.Runs.notF rfl) ?_
                                refine Sp.L.pure (by kernel_rfl) (Sp.Runs.move rfl) ?_
                                refine Sp.L.pure (by kernel_rfl) (Sp.Runs.move rfl) ?_
                                refine Sp.L.pure (by kernel_rfl) (Sp.Runs.eqIF rfl rfl (by omega)) ?_
                                refine Sp.L.pure (by kernel_rfl) (Sp.Runs.move rfl) ?_
                                refine Sp.L.pure (by kernel_rfl) (Sp.Runs.move rfl) ?_
                                refine Sp.L.pure (by kernel_rfl) (Sp.Runs.eqIF rfl rfl hnt) ?_
                                refine Sp.L.pure (by kernel_rfl) (Sp.Runs.neBF Tryd.underlying4 rfl rfl (by decide)) ?_
                                refine Sp.L.pure (by kernel_rfl) (Sp.Runs.pickF rfl rfl) ?_
                                refine Sp.L.pure (by kernel_rfl) (Sp.Runs.move rfl) ?_
                                refine Sp.L.pure (by kernel_rfl) (Sp.Runs.move rfl) ?_
                                refine Sp.L.pure (by kernel_rfl) (Sp.Runs.gtIF rfl rfl (by omega)) ?_
                                refine Sp.L.pure (by kernel_rfl) (Sp.Runs.pickF rfl rfl) ?_
                                refine Sp.L.nil ?_
                                refine hK98 _ _ (Sp.Cd.sub (S' := [(384, _)]) ⟨rfl, trivial⟩ ?_)
                                clear hK98 K98
                                refine Sp.Cd.condF rfl ?_
                                refine Sp.Cd.skip ?_
                                refine hK55 _ _ (Sp.Cd.sub (S' := []) trivial ?_)
                                clear hK55 K55
                                refine Sp.Cd.seq fun K99 hK99 => ?_
                                refine Sp.Cd.region ?_
                                refine Sp.L.pure (by kernel_rfl) (Sp.Runs.assign rfl) ?_
                                refine Sp.L.nil ?_
                                refine hK99 _ _ (Sp.Cd.sub (S' := [(18, _)]) ⟨rfl, trivial⟩ ?_)
                                clear hK99 K99
                                refine Sp.Cd.ret ?_
                                refine Sp.Rt.body rfl rfl ?_
                                exact ⟨rfl, B0.out⟩
                            · refine Sp.Cd.seq fun K100 hK100 => ?_
                              refine Sp.Cd.region ?_
                              refine Sp.L.pure (by kernel_rfl) (Sp.Runs.move rfl) ?_
                              refine Sp.L.pure (by kernel_rfl) (Sp.Runs.move rfl) ?_
                              refine Sp.L.pure (by kernel_rfl) (Sp.Runs.lenS Tryd.underlying9 rfl) ?_
                              refine Sp.L.pure (by kernel_rfl) (Sp.Runs.gtIT rfl rfl (by omega)) ?_
                              refine Sp.L.nil ?_
                              refine hK100 _ _ (Sp.Cd.sub (S' := [(3, _), (4, _), (5, _), (40, _), (44, _), (48, _), (360, _)]) ⟨rfl, rfl, rfl, rfl, rfl, rfl, rfl, trivial⟩ ?_)
                              clear hK100 K100
                              refine Sp.Cd.condT rfl ?_
                              refine Sp.Cd.region ?_
                              refine Sp.L.pure (by kernel_rfl) (Sp.Runs.assign rfl) ?_
                              refine Sp.L.nil ?_
                              refine hK85 _ _ (Sp.Cd.sub (S' := [(3, _), (4, _), (5, _), (40, _), (44, _), (48, _)]) ⟨rfl, rfl, rfl, rfl, rfl, rfl, trivial⟩ ?_)
                              clear hK85 K85
                              refine Sp.Cd.seq fun K101 hK101 => ?_
                              refine Sp.Cd.seq fun K102 hK102 => ?_
                              refine Sp.Cd.region ?_
                              refine Sp.L.pure (by kernel_rfl) (Sp.Runs.move rfl) ?_
                              refine Sp.L.pure (by kernel_rfl) (Sp.Runs.move rfl) ?_
                              refine Sp.L.pure (by kernel_rfl) (Sp.Runs.neIF rfl rfl (by rw [gall, hC0]; rfl)) ?_
                              refine Sp.L.nil ?_
                              refine hK102 _ _ (Sp.Cd.sub (S' := [(3, _), (4, _), (5, _), (40, _), (363, _)]) ⟨rfl, rfl, rfl, rfl, rfl, trivial⟩ ?_)
                              clear hK102 K102
                              refine Sp.Cd.condF rfl ?_
                              refine Sp.Cd.skip ?_
                              refine hK101 _ _ (Sp.Cd.sub (S' := [(3, _), (4, _), (5, _), (40, _)]) ⟨rfl, rfl, rfl, rfl, trivial⟩ ?_)
                              clear hK101 K101
                              refine Sp.Cd.seq fun K103 hK103 => ?_
                              refine Sp.Cd.region ?_
                              refine Sp.L.pure (by kernel_rfl) (Sp.Runs.move rfl) ?_
                              refine Sp.L.pure (by kernel_rfl) (Sp.Runs.eqIF rfl rfl (by omega)) ?_
                              refine Sp.L.nil ?_
                              refine hK103 _ _ (Sp.Cd.sub (S' := [(3, _), (5, _), (40, _), (365, _)]) ⟨rfl, rfl, rfl, rfl, trivial⟩ ?_)
                              clear hK103 K103
                              refine Sp.Cd.condF rfl ?_
                              refine Sp.Cd.skip ?_
                              refine hK55 _ _ (Sp.Cd.sub (S' := []) trivial ?_)
                              clear hK55 K55
                              refine Sp.Cd.seq fun K104 hK104 => ?_
                              refine Sp.Cd.region ?_
                              refine Sp.L.pure (by kernel_rfl) (Sp.Runs.assign rfl) ?_
                              refine Sp.L.nil ?_
                              refine hK104 _ _ (Sp.Cd.sub (S' := [(18, _)]) ⟨rfl, trivial⟩ ?_)
                              clear hK104 K104
                              refine Sp.Cd.ret ?_
                              refine Sp.Rt.body rfl rfl ?_
                              exact ⟨rfl, B0.out⟩
                          · by_cases hk0 : K = 0
                            · have gz0 := gz hk0
                              by_cases hnt : outNetTurn_0 sw = turn
                              · rw [if_pos hnt] at gz0
                                refine Sp.Cd.seq fun K105 hK105 => ?_
                                refine Sp.Cd.region ?_
                                refine Sp.L.pure (by kernel_rfl) (Sp.Runs.move rfl) ?_
                                refine Sp.L.pure (by kernel_rfl) (Sp.Runs.move rfl) ?_
                                refine Sp.L.pure (by kernel_rfl) (Sp.Runs.lenS Tryd.underlying9 rfl) ?_
                                refine Sp.L.pure (by kernel_rfl) (Sp.Runs.gtIF rfl rfl (by omega)) ?_
                                refine Sp.L.nil ?_
                                refine hK105 _ _ (Sp.Cd.sub (S' := [(3, _), (4, _), (5, _), (40, _), (44, _), (48, _), (360, _)]) ⟨rfl, rfl, rfl, rfl, rfl, rfl, rfl, trivial⟩ ?_)
                                clear hK105 K105
                                refine Sp.Cd.condF rfl ?_
                                refine Sp.Cd.skip ?_
                                refine hK85 _ _ (Sp.Cd.sub (S' := [(3, _), (4, _), (5, _), (40, _), (44, _), (48, _)]) ⟨rfl, rfl, rfl, rfl, rfl, rfl, trivial⟩ ?_)
                                clear hK85 K85
                                refine Sp.Cd.seq fun K106 hK106 => ?_
                                refine Sp.Cd.seq fun K107 hK107 => ?_
                                refine Sp.Cd.region ?_
                                refine Sp.L.pure (by kernel_rfl) (Sp.Runs.move rfl) ?_
                                refine Sp.L.pure (by kernel_rfl) (Sp.Runs.move rfl) ?_
                                refine Sp.L.pure (by kernel_rfl) (Sp.Runs.neIF rfl rfl (by rw [gall, hC3])) ?_
                                refine Sp.L.nil ?_
                                refine hK107 _ _ (Sp.Cd.sub (S' := [(3, _), (4, _), (5, _), (40, _), (363, _)]) ⟨rfl, rfl, rfl, rfl, rfl, trivial⟩ ?_)
                                clear hK107 K107
                                refine Sp.Cd.condF rfl ?_
                                refine Sp.Cd.skip ?_
                                refine hK106 _ _ (Sp.Cd.sub (S' := [(3, _), (4, _), (5, _), (40, _)]) ⟨rfl, rfl, rfl, rfl, trivial⟩ ?_)
                                clear hK106 K106
                                refine Sp.Cd.seq fun K108 hK108 => ?_
                                refine Sp.Cd.region ?_
                                refine Sp.L.pure (by kernel_rfl) (Sp.Runs.move rfl) ?_
                                refine Sp.L.pure (by kernel_rfl) (Sp.Runs.eqIT rfl rfl (by omega)) ?_
                                refine Sp.L.nil ?_
                                refine hK108 _ _ (Sp.Cd.sub (S' := [(3, _), (5, _), (40, _), (365, _)]) ⟨rfl, rfl, rfl, rfl, trivial⟩ ?_)
                                clear hK108 K108
                                refine Sp.Cd.condT rfl ?_
                                refine Sp.Cd.seq fun K109 hK109 => ?_
                                refine Sp.Cd.region ?_
                                refine Sp.L.pure (by kernel_rfl) (Sp.Runs.move rfl) ?_
                                have CC := implNetTurn_any w15 sw hs z4 HS.out
                                rw [G.good] at CC
                                refine Sp.L.call (by kernel_rfl) (CC) rfl rfl (by kernel_rfl) ?_
                                clear CC
                                rintro e w16 ⟨rfl, b⟩
                                replace B0 := Lib.hid (B0.out.trans (b.mono B0.out.size))
                                replace HS := Lib.hid (HS.out.below b)
                                replace HN := Lib.hid (HN.out.below b)
                                clear b
                                refine ⟨_, rfl, ?_⟩
                                refine Sp.L.pure (by kernel_rfl) (Sp.Runs.move rfl) ?_
                                refine Sp.L.pure (by kernel_rfl) (Sp.Runs.extract rfl rfl) ?_
                                refine Sp.L.pure (by kernel_rfl) (Sp.Runs.extract rfl rfl) ?_
                                refine Sp.L.pure (by kernel_rfl) (Sp.Runs.assign rfl) ?_
                                refine Sp.L.pure (by kernel_rfl) (Sp.Runs.assign rfl) ?_
                                refine Sp.L.nil ?_
                                refine hK109 _ _ (Sp.Cd.sub (S' := [(5, _), (40, _), (51, _), (52, _)]) ⟨rfl, rfl, rfl, rfl, trivial⟩ ?_)
                                clear hK109 K109
                                refine Sp.Cd.seq fun K110 hK110 => ?_
                                refine Sp.Cd.region ?_
                                refine Sp.L.pure (by kernel_rfl) (Sp.Runs.move rfl) ?_
                                refine Sp.L.pure (by kernel_rfl) (Sp.Runs.notF rfl) ?_
                                refine Sp.L.pure (by kernel_rfl) (Sp.Runs.move rfl) ?_
                                refine Sp.L.pure (by kernel_rfl) (Sp.Runs.move rfl) ?_
                                refine Sp.L.pure (by kernel_rfl) (Sp.Runs.eqIT rfl rfl (by omega)) ?_
                                refine Sp.L.pure (by kernel_rfl) (Sp.Runs.move rfl) ?_
                                refine Sp.L.pure (by kernel_rfl) (Sp.Runs.move rfl) ?_
                                refine Sp.L.pure (by kernel_rfl) (Sp.Runs.eqIT rfl rfl hnt) ?_
                                refine Sp.L.pure (by kernel_rfl) (Sp.Runs.neBF Tryd.underlying4 rfl rfl (by decide)) ?_
                                refine Sp.L.pure (by kernel_rfl) (Sp.Runs.pickF rfl rfl) ?_
                                refine Sp.L.pure (by kernel_rfl) (Sp.Runs.move rfl) ?_
                                refine Sp.L.pure (by kernel_rfl) (Sp.Runs.move rfl) ?_
                                refine Sp.L.pure (by kernel_rfl) (Sp.Runs.gtIF rfl rfl (by omega)) ?_
                                refine Sp.L.pure (by kernel_rfl) (Sp.Runs.pickF rfl rfl) ?_
                                refine Sp.L.nil ?_
                                refine hK110 _ _ (Sp.Cd.sub (S' := [(384, _)]) ⟨rfl, trivial⟩ ?_)
                                clear hK110 K110
                                refine Sp.Cd.condF rfl ?_
                                refine Sp.Cd.skip ?_
                                refine hK55 _ _ (Sp.Cd.sub (S' := []) trivial ?_)
                                clear hK55 K55
                                refine Sp.Cd.seq fun K111 hK111 => ?_
                                refine Sp.Cd.region ?_
                                refine Sp.L.pure (by kernel_rfl) (Sp.Runs.assign rfl) ?_
                                refine Sp.L.nil ?_
                                refine hK111 _ _ (Sp.Cd.sub (S' := [(18, _)]) ⟨rfl, trivial⟩ ?_)
                                clear hK111 K111
                                refine Sp.Cd.ret ?_
                                refine Sp.Rt.body rfl rfl ?_
                                exact ⟨rfl, B0.out⟩
                              · rw [if_neg hnt] at gz0
                                refine Sp.Cd.seq fun K112 hK112 => ?_
                                refine Sp.Cd.region ?_
                                refine Sp.L.pure (by kernel_rfl) (Sp.Runs.move rfl) ?_
                                refine Sp.L.pure (by kernel_rfl) (Sp.Runs.move rfl) ?_
                                refine Sp.L.pure (by kernel_rfl) (Sp.Runs.lenS Tryd.underlying9 rfl) ?_
                                refine Sp.L.pure (by kernel_rfl) (Sp.Runs.gtIF rfl rfl (by omega)) ?_
                                refine Sp.L.nil ?_
                                refine hK112 _ _ (Sp.Cd.sub (S' := [(3, _), (4, _), (5, _), (40, _), (44, _), (48, _), (360, _)]) ⟨rfl, rfl, rfl, rfl, rfl, rfl, rfl, trivial⟩ ?_)
                                clear hK112 K112
                                refine Sp.Cd.condF rfl ?_
                                refine Sp.Cd.skip ?_
                                refine hK85 _ _ (Sp.Cd.sub (S' := [(3, _), (4, _), (5, _), (40, _), (44, _), (48, _)]) ⟨rfl, rfl, rfl, rfl, rfl, rfl, trivial⟩ ?_)
                                clear hK85 K85
                                refine Sp.Cd.seq fun K113 hK113 => ?_
                                refine Sp.Cd.seq fun K114 hK114 => ?_
                                refine Sp.Cd.region ?_
                                refine Sp.L.pure (by kernel_rfl) (Sp.Runs.move rfl) ?_
                                refine Sp.L.pure (by kernel_rfl) (Sp.Runs.move rfl) ?_
                                refine Sp.L.pure (by kernel_rfl) (Sp.Runs.neIF rfl rfl (by rw [gall, hC3])) ?_
                                refine Sp.L.nil ?_
                                refine hK114 _ _ (Sp.Cd.sub (S' := [(3, _), (4, _), (5, _), (40, _), (363, _)]) ⟨rfl, rfl, rfl, rfl, rfl, trivial⟩ ?_)
                                clear hK114 K114
                                refine Sp.Cd.condF rfl ?_
                                refine Sp.Cd.skip ?_
                                refine hK113 _ _ (Sp.Cd.sub (S' := [(3, _), (4, _), (5, _), (40, _)]) ⟨rfl, rfl, rfl, rfl, trivial⟩ ?_)
                                clear hK113 K113
                                refine Sp.Cd.seq fun K115 hK115 => ?_
                                refine Sp.Cd.region ?_
                                refine Sp.L.pure (by kernel_rfl) (Sp.Runs.move rfl) ?_
                                refine Sp.L.pure (by kernel_rfl) (Sp.Runs.eqIT rfl rfl (by omega)) ?_
                                refine Sp.L.nil ?_
                                refine hK115 _ _ (Sp.Cd.sub (S' := [(3, _), (5, _), (40, _), (365, _)]) ⟨rfl, rfl, rfl, rfl, trivial⟩ ?_)
                                clear hK115 K115
                                refine Sp.Cd.condT rfl ?_
                                refine Sp.Cd.seq fun K116 hK116 => ?_
                                refine Sp.Cd.region ?_
                                refine Sp.L.pure (by kernel_rfl) (Sp.Runs.move rfl) ?_
                                have CC := implNetTurn_any w15 sw hs z4 HS.out
                                rw [G.good] at CC
                                refine Sp.L.call (by kernel_rfl) (CC) rfl rfl (by kernel_rfl) ?_
                                clear CC
                                rintro e w16 ⟨rfl, b⟩
                                replace B0 := Lib.hid (B0.out.trans (b.mono B0.out.size))
                                replace HS := Lib.hid (HS.out.below b)
                                replace HN := Lib.hid (HN.out.below b)
                                clear b
                                refine ⟨_, rfl, ?_⟩
                                refine Sp.L.pure (by kernel_rfl) (Sp.Runs.move rfl) ?_
                                refine Sp.L.pure (by kernel_rfl) (Sp.Runs.extract rfl rfl) ?_
                                refine Sp.L.pure (by kernel_rfl) (Sp.Runs.extract rfl rfl) ?_
                                refine Sp.L.pure (by kernel_rfl) (Sp.Runs.assign rfl) ?_
                                refine Sp.L.pure (by kernel_rfl) (Sp.Runs.assign rfl) ?_
                                refine Sp.L.nil ?_
                                refine hK116 _ _ (Sp.Cd.sub (S' := [(5, _), (40, _), (51, _), (52, _)]) ⟨rfl, rfl, rfl, rfl, trivial⟩ ?_)
                                clear hK116 K116
                                refine Sp.Cd.seq fun K117 hK117 => ?_
                                refine Sp.Cd.region ?_
                                refine Sp.L.pure (by kernel_rfl) (Sp.Runs.move rfl) ?_
                                refine Sp.L.pure (by kernel_rfl) (Sp.Runs.notF rfl) ?_
                                refine Sp.L.pure (by kernel_rfl) (Sp.Runs.move rfl) ?_
                                refine Sp.L.pure (by kernel_rfl) (Sp.Runs.move rfl) ?_
                                refine Sp.L.pure (by kernel_rfl) (Sp.Runs.eqIF rfl rfl (by omega)) ?_
                                refine Sp.L.pure (by kernel_rfl) (Sp.Runs.move rfl) ?_
                                refine Sp.L.pure (by kernel_rfl) (Sp.Runs.move rfl) ?_
                                refine Sp.L.pure (by kernel_rfl) (Sp.Runs.eqIF rfl rfl hnt) ?_
                                refine Sp.L.pure (by kernel_rfl) (Sp.Runs.neBF Tryd.underlying4 rfl rfl (by decide)) ?_
                                refine Sp.L.pure (by kernel_rfl) (Sp.Runs.pickF rfl rfl) ?_
                                refine Sp.L.pure (by kernel_rfl) (Sp.Runs.move rfl) ?_
                                refine Sp.L.pure (by kernel_rfl) (Sp.Runs.move rfl) ?_
                                refine Sp.L.pure (by kernel_rfl) (Sp.Runs.gtIF rfl rfl (by omega)) ?_
                                refine Sp.L.pure (by kernel_rfl) (Sp.Runs.pickF rfl rfl) ?_
                                refine Sp.L.nil ?_
                                refine hK117 _ _ (Sp.Cd.sub (S' := [(384, _)]) ⟨rfl, trivial⟩ ?_)
                                clear hK117 K117
                                refine Sp.Cd.condF rfl ?_
                                refine Sp.Cd.skip ?_
                                refine hK55 _ _ (Sp.Cd.sub (S' := []) trivial ?_)
                                clear hK55 K55
                                refine Sp.Cd.seq fun K118 hK118 => ?_
                                refine Sp.Cd.region ?_
                                refine Sp.L.pure (by kernel_rfl) (Sp.Runs.assign rfl) ?_
                                refine Sp.L.nil ?_
                                refine hK118 _ _ (Sp.Cd.sub (S' := [(18, _)]) ⟨rfl, trivial⟩ ?_)
                                clear hK118 K118
                                refine Sp.Cd.ret ?_
                                refine Sp.Rt.body rfl rfl ?_
                                exact ⟨rfl, B0.out⟩
                            · refine Sp.Cd.seq fun K119 hK119 => ?_
                              refine Sp.Cd.region ?_
                              refine Sp.L.pure (by kernel_rfl) (Sp.Runs.move rfl) ?_
                              refine Sp.L.pure (by kernel_rfl) (Sp.Runs.move rfl) ?_
                              refine Sp.L.pure (by kernel_rfl) (Sp.Runs.lenS Tryd.underlying9 rfl) ?_
                              refine Sp.L.pure (by kernel_rfl) (Sp.Runs.gtIF rfl rfl (by omega)) ?_
                              refine Sp.L.nil ?_
                              refine hK119 _ _ (Sp.Cd.sub (S' := [(3, _), (4, _), (5, _), (40, _), (44, _), (48, _), (360, _)]) ⟨rfl, rfl, rfl, rfl, rfl, rfl, rfl, trivial⟩ ?_)
                              clear hK119 K119
                              refine Sp.Cd.condF rfl ?_
                              refine Sp.Cd.skip ?_
                              refine hK85 _ _ (Sp.Cd.sub (S' := [(3, _), (4, _), (5, _), (40, _), (44, _), (48, _)]) ⟨rfl, rfl, rfl, rfl, rfl, rfl, trivial⟩ ?_)
                              clear hK85 K85
                              refine Sp.Cd.seq fun K120 hK120 => ?_
                              refine Sp.Cd.seq fun K121 hK121 => ?_
                              refine Sp.Cd.region ?_
                              refine Sp.L.pure (by kernel_rfl) (Sp.Runs.move rfl) ?_
                              refine Sp.L.pure (by kernel_rfl) (Sp.Runs.move rfl) ?_
                              refine Sp.L.pure (by kernel_rfl) (Sp.Runs.neIF rfl rfl (by rw [gall, hC3])) ?_
                              refine Sp.L.nil ?_
                              refine hK121 _ _ (Sp.Cd.sub (S' := [(3, _), (4, _), (5, _), (40, _), (363, _)]) ⟨rfl, rfl, rfl, rfl, rfl, trivial⟩ ?_)
                              clear hK121 K121
                              refine Sp.Cd.condF rfl ?_
                              refine Sp.Cd.skip ?_
                              refine hK120 _ _ (Sp.Cd.sub (S' := [(3, _), (4, _), (5, _), (40, _)]) ⟨rfl, rfl, rfl, rfl, trivial⟩ ?_)
                              clear hK120 K120
                              refine Sp.Cd.seq fun K122 hK122 => ?_
                              refine Sp.Cd.region ?_
                              refine Sp.L.pure (by kernel_rfl) (Sp.Runs.move rfl) ?_
                              refine Sp.L.pure (by kernel_rfl) (Sp.Runs.eqIF rfl rfl (by omega)) ?_
                              refine Sp.L.nil ?_
                              refine hK122 _ _ (Sp.Cd.sub (S' := [(3, _), (5, _), (40, _), (365, _)]) ⟨rfl, rfl, rfl, rfl, trivial⟩ ?_)
                              clear hK122 K122
                              refine Sp.Cd.condF rfl ?_
                              refine Sp.Cd.skip ?_
                              refine hK55 _ _ (Sp.Cd.sub (S' := []) trivial ?_)
                              clear hK55 K55
                              refine Sp.Cd.seq fun K123 hK123 => ?_
                              refine Sp.Cd.region ?_
                              refine Sp.L.pure (by kernel_rfl) (Sp.Runs.assign rfl) ?_
                              refine Sp.L.nil ?_
                              refine hK123 _ _ (Sp.Cd.sub (S' := [(18, _)]) ⟨rfl, trivial⟩ ?_)
                              clear hK123 K123
                              refine Sp.Cd.ret ?_
                              refine Sp.Rt.body rfl rfl ?_
                              exact ⟨rfl, B0.out⟩
                  · refine Sp.Cd.seq fun K124 hK124 => ?_
                    refine Sp.Cd.region ?_
                    refine Sp.L.pure (by kernel_rfl) (Sp.Runs.move rfl) ?_
                    refine Sp.L.pure (by kernel_rfl) (Sp.Runs.move rfl) ?_
                    refine Sp.L.pure (by kernel_rfl) (Sp.Runs.move rfl) ?_
                    refine Sp.L.pure (by kernel_rfl) (Sp.Runs.lenS Tryd.underlying9 rfl) ?_
                    refine Sp.L.pure (by kernel_rfl) (Sp.Runs.leIF rfl rfl (by omega)) ?_
                    refine Sp.L.pure (by kernel_rfl) (Sp.Runs.pickT rfl rfl) ?_
                    refine Sp.L.nil ?_
                    refine hK124 _ _ (Sp.Cd.sub (S' := [(3, _), (4, _), (5, _), (40, _), (315, _)]) ⟨rfl, rfl, rfl, rfl, rfl, trivial⟩ ?_)
                    clear hK124 K124
                    refine Sp.Cd.condF rfl ?_
                    refine Sp.Cd.skip ?_
                    refine hK55 _ _ (Sp.Cd.sub (S' := []) trivial ?_)
                    clear hK55 K55
                    refine Sp.Cd.seq fun K125 hK125 => ?_
                    refine Sp.Cd.region ?_
                    refine Sp.L.pure (by kernel_rfl) (Sp.Runs.assign rfl) ?_
                    refine Sp.L.nil ?_
                    refine hK125 _ _ (Sp.Cd.sub (S' := [(18, _)]) ⟨rfl, trivial⟩ ?_)
                    clear hK125 K125
                    refine Sp.Cd.ret ?_
                    refine Sp.Rt.body rfl rfl ?_
                    exact ⟨rfl, B0.out⟩
            · refine Sp.enter (N := 385) (args := [.string facing, .string word, .slice am lm cm, .string sw, .int .i64 k, .int .i64 turn, .int .i64 soldiers, .string said, .slice an ln cn]) Tryd.func6 rfl rfl (by kernel_rfl) ?_
              refine Sp.Cd.seq fun K126 hK126 => ?_
              refine Sp.Cd.region ?_
              refine Sp.L.pure (by kernel_rfl) (Sp.Runs.assign rfl) ?_
              refine Sp.L.nil ?_
              refine hK126 _ _ (Sp.Cd.sub (S' := [(0, _), (1, _), (2, _), (3, _), (4, _), (5, _), (6, _), (7, _), (8, _)]) ⟨rfl, rfl, rfl, rfl, rfl, rfl, rfl, rfl, rfl, trivial⟩ ?_)
              clear hK126 K126
              refine Sp.Cd.seq fun K127 hK127 => ?_
              refine Sp.Cd.seq fun K128 hK128 => ?_
              refine Sp.Cd.region ?_
              refine Sp.L.pure (by kernel_rfl) (Sp.Runs.move rfl) ?_
              refine Sp.L.pure (by kernel_rfl) (Sp.Runs.lenS Tryd.underlying9 rfl) ?_
              refine Sp.L.pure (by kernel_rfl) (Sp.Runs.gtIF rfl rfl (by omega)) ?_
              refine Sp.L.pure (by kernel_rfl) (Sp.Runs.move rfl) ?_
              refine Sp.L.pure (by kernel_rfl) (Sp.Runs.move rfl) ?_
              refine Sp.L.pure (by kernel_rfl) (Sp.Runs.lenS Tryd.underlying9 rfl) ?_
              refine Sp.L.pure (by kernel_rfl) (Sp.Runs.gtIF rfl rfl (by omega)) ?_
              refine Sp.L.pure (by kernel_rfl) (Sp.Runs.pickF rfl rfl) ?_
              refine Sp.L.pure (by kernel_rfl) (Sp.Runs.move rfl) ?_
              refine Sp.L.pure (by kernel_rfl) (Sp.Runs.move rfl) ?_
              refine Sp.L.pure (by kernel_rfl) (Sp.Runs.lenL Tryd.underlying43 rfl) ?_
              refine Sp.L.pure (by kernel_rfl) (Sp.Runs.gtIF rfl rfl (by omega)) ?_
              refine Sp.L.pure (by kernel_rfl) (Sp.Runs.pickF rfl rfl) ?_
              refine Sp.L.pure (by kernel_rfl) (Sp.Runs.move rfl) ?_
              refine Sp.L.pure (by kernel_rfl) (Sp.Runs.move rfl) ?_
              refine Sp.L.pure (by kernel_rfl) (Sp.Runs.lenS Tryd.underlying9 rfl) ?_
              refine Sp.L.pure (by kernel_rfl) (Sp.Runs.gtIF rfl rfl (by omega)) ?_
              refine Sp.L.pure (by kernel_rfl) (Sp.Runs.pickF rfl rfl) ?_
              refine Sp.L.pure (by kernel_rfl) (Sp.Runs.move rfl) ?_
              refine Sp.L.pure (by kernel_rfl) (Sp.Runs.move rfl) ?_
              refine Sp.L.pure (by kernel_rfl) (Sp.Runs.lenS Tryd.underlying9 rfl) ?_
              refine Sp.L.pure (by kernel_rfl) (Sp.Runs.gtIF rfl rfl (by omega)) ?_
              refine Sp.L.pure (by kernel_rfl) (Sp.Runs.pickF rfl rfl) ?_
              refine Sp.L.pure (by kernel_rfl) (Sp.Runs.move rfl) ?_
              refine Sp.L.pure (by kernel_rfl) (Sp.Runs.move rfl) ?_
              refine Sp.L.pure (by kernel_rfl) (Sp.Runs.lenL Tryd.underlying43 rfl) ?_
              refine Sp.L.pure (by kernel_rfl) (Sp.Runs.gtIT rfl rfl (by omega)) ?_
              refine Sp.L.pure (by kernel_rfl) (Sp.Runs.pickF rfl rfl) ?_
              refine Sp.L.nil ?_
              refine hK128 _ _ (Sp.Cd.sub (S' := [(0, _), (1, _), (2, _), (3, _), (4, _), (5, _), (6, _), (7, _), (8, _), (80, _)]) ⟨rfl, rfl, rfl, rfl, rfl, rfl, rfl, rfl, rfl, rfl, trivial⟩ ?_)
              clear hK128 K128
              refine Sp.Cd.condT rfl ?_
              refine Sp.Cd.seq fun K129 hK129 => ?_
              refine Sp.Cd.region ?_
              refine Sp.L.pure (by kernel_rfl) (Sp.Runs.assign rfl) ?_
              refine Sp.L.nil ?_
              refine hK129 _ _ (Sp.Cd.sub (S' := [(18, _)]) ⟨rfl, trivial⟩ ?_)
              clear hK129 K129
              refine Sp.Cd.ret ?_
              refine Sp.Rt.then ?_
              refine Sp.Rt.body rfl rfl ?_
              exact ⟨rfl, B0.out⟩
          · refine Sp.enter (N := 385) (args := [.string facing, .string word, .slice am lm cm, .string sw, .int .i64 k, .int .i64 turn, .int .i64 soldiers, .string said, .slice an ln cn]) Tryd.func6 rfl rfl (by kernel_rfl) ?_
            refine Sp.Cd.seq fun K130 hK130 => ?_
            refine Sp.Cd.region ?_
            refine Sp.L.pure (by kernel_rfl) (Sp.Runs.assign rfl) ?_
            refine Sp.L.nil ?_
            refine hK130 _ _ (Sp.Cd.sub (S' := [(0, _), (1, _), (2, _), (3, _), (4, _), (5, _), (6, _), (7, _), (8, _)]) ⟨rfl, rfl, rfl, rfl, rfl, rfl, rfl, rfl, rfl, trivial⟩ ?_)
            clear hK130 K130
            refine Sp.Cd.seq fun K131 hK131 => ?_
            refine Sp.Cd.seq fun K132 hK132 => ?_
            refine Sp.Cd.region ?_
            refine Sp.L.pure (by kernel_rfl) (Sp.Runs.move rfl) ?_
            refine Sp.L.pure (by kernel_rfl) (Sp.Runs.lenS Tryd.underlying9 rfl) ?_
            refine Sp.L.pure (by kernel_rfl) (Sp.Runs.gtIF rfl rfl (by omega)) ?_
            refine Sp.L.pure (by kernel_rfl) (Sp.Runs.move rfl) ?_
            refine Sp.L.pure (by kernel_rfl) (Sp.Runs.move rfl) ?_
            refine Sp.L.pure (by kernel_rfl) (Sp.Runs.lenS Tryd.underlying9 rfl) ?_
            refine Sp.L.pure (by kernel_rfl) (Sp.Runs.gtIF rfl rfl (by omega)) ?_
            refine Sp.L.pure (by kernel_rfl) (Sp.Runs.pickF rfl rfl) ?_
            refine Sp.L.pure (by kernel_rfl) (Sp.Runs.move rfl) ?_
            refine Sp.L.pure (by kernel_rfl) (Sp.Runs.move rfl) ?_
            refine Sp.L.pure (by kernel_rfl) (Sp.Runs.lenL Tryd.underlying43 rfl) ?_
            refine Sp.L.pure (by kernel_rfl) (Sp.Runs.gtIF rfl rfl (by omega)) ?_
            refine Sp.L.pure (by kernel_rfl) (Sp.Runs.pickF rfl rfl) ?_
            refine Sp.L.pure (by kernel_rfl) (Sp.Runs.move rfl) ?_
            refine Sp.L.pure (by kernel_rfl) (Sp.Runs.move rfl) ?_
            refine Sp.L.pure (by kernel_rfl) (Sp.Runs.lenS Tryd.underlying9 rfl) ?_
            refine Sp.L.pure (by kernel_rfl) (Sp.Runs.gtIF rfl rfl (by omega)) ?_
            refine Sp.L.pure (by kernel_rfl) (Sp.Runs.pickF rfl rfl) ?_
            refine Sp.L.pure (by kernel_rfl) (Sp.Runs.move rfl) ?_
            refine Sp.L.pure (by kernel_rfl) (Sp.Runs.move rfl) ?_
            refine Sp.L.pure (by kernel_rfl) (Sp.Runs.lenS Tryd.underlying9 rfl) ?_
            refine Sp.L.pure (by kernel_rfl) (Sp.Runs.gtIT rfl rfl (by omega)) ?_
            refine Sp.L.pure (by kernel_rfl) (Sp.Runs.pickF rfl rfl) ?_
            refine Sp.L.pure (by kernel_rfl) (Sp.Runs.move rfl) ?_
            refine Sp.L.skip (by kernel_rfl) ?_
            refine Sp.L.skip (by kernel_rfl) ?_
            refine Sp.L.skip (by kernel_rfl) ?_
            refine Sp.L.pure (by kernel_rfl) (Sp.Runs.pickT rfl rfl) ?_
            refine Sp.L.nil ?_
            refine hK132 _ _ (Sp.Cd.sub (S' := [(0, _), (1, _), (2, _), (3, _), (4, _), (5, _), (6, _), (7, _), (8, _), (80, _)]) ⟨rfl, rfl, rfl, rfl, rfl, rfl, rfl, rfl, rfl, rfl, trivial⟩ ?_)
            clear hK132 K132
            refine Sp.Cd.condT rfl ?_
            refine Sp.Cd.seq fun K133 hK133 => ?_
            refine Sp.Cd.region ?_
            refine Sp.L.pure (by kernel_rfl) (Sp.Runs.assign rfl) ?_
            refine Sp.L.nil ?_
            refine hK133 _ _ (Sp.Cd.sub (S' := [(18, _)]) ⟨rfl, trivial⟩ ?_)
            clear hK133 K133
            refine Sp.Cd.ret ?_
            refine Sp.Rt.then ?_
            refine Sp.Rt.body rfl rfl ?_
            exact ⟨rfl, B0.out⟩
        · refine Sp.enter (N := 385) (args := [.string facing, .string word, .slice am lm cm, .string sw, .int .i64 k, .int .i64 turn, .int .i64 soldiers, .string said, .slice an ln cn]) Tryd.func6 rfl rfl (by kernel_rfl) ?_
          refine Sp.Cd.seq fun K134 hK134 => ?_
          refine Sp.Cd.region ?_
          refine Sp.L.pure (by kernel_rfl) (Sp.Runs.assign rfl) ?_
          refine Sp.L.nil ?_
          refine hK134 _ _ (Sp.Cd.sub (S' := [(0, _), (1, _), (2, _), (3, _), (4, _), (5, _), (6, _), (7, _), (8, _)]) ⟨rfl, rfl, rfl, rfl, rfl, rfl, rfl, rfl, rfl, trivial⟩ ?_)
          clear hK134 K134
          refine Sp.Cd.seq fun K135 hK135 => ?_
          refine Sp.Cd.seq fun K136 hK136 => ?_
          refine Sp.Cd.region ?_
          refine Sp.L.pure (by kernel_rfl) (Sp.Runs.move rfl) ?_
          refine Sp.L.pure (by kernel_rfl) (Sp.Runs.lenS Tryd.underlying9 rfl) ?_
          refine Sp.L.pure (by kernel_rfl) (Sp.Runs.gtIF rfl rfl (by omega)) ?_
          refine Sp.L.pure (by kernel_rfl) (Sp.Runs.move rfl) ?_
          refine Sp.L.pure (by kernel_rfl) (Sp.Runs.move rfl) ?_
          refine Sp.L.pure (by kernel_rfl) (Sp.Runs.lenS Tryd.underlying9 rfl) ?_
          refine Sp.L.pure (by kernel_rfl) (Sp.Runs.gtIF rfl rfl (by omega)) ?_
          refine Sp.L.pure (by kernel_rfl) (Sp.Runs.pickF rfl rfl) ?_
          refine Sp.L.pure (by kernel_rfl) (Sp.Runs.move rfl) ?_
          refine Sp.L.pure (by kernel_rfl) (Sp.Runs.move rfl) ?_
          refine Sp.L.pure (by kernel_rfl) (Sp.Runs.lenL Tryd.underlying43 rfl) ?_
          refine Sp.L.pure (by kernel_rfl) (Sp.Runs.gtIF rfl rfl (by omega)) ?_
          refine Sp.L.pure (by kernel_rfl) (Sp.Runs.pickF rfl rfl) ?_
          refine Sp.L.pure (by kernel_rfl) (Sp.Runs.move rfl) ?_
          refine Sp.L.pure (by kernel_rfl) (Sp.Runs.move rfl) ?_
          refine Sp.L.pure (by kernel_rfl) (Sp.Runs.lenS Tryd.underlying9 rfl) ?_
          refine Sp.L.pure (by kernel_rfl) (Sp.Runs.gtIT rfl rfl (by omega)) ?_
          refine Sp.L.pure (by kernel_rfl) (Sp.Runs.pickF rfl rfl) ?_
          refine Sp.L.pure (by kernel_rfl) (Sp.Runs.move rfl) ?_
          refine Sp.L.skip (by kernel_rfl) ?_
          refine Sp.L.skip (by kernel_rfl) ?_
          refine Sp.L.skip (by kernel_rfl) ?_
          refine Sp.L.pure (by kernel_rfl) (Sp.Runs.pickT rfl rfl) ?_
          refine Sp.L.pure (by kernel_rfl) (Sp.Runs.move rfl) ?_
          refine Sp.L.skip (by kernel_rfl) ?_
          refine Sp.L.skip (by kernel_rfl) ?_
          refine Sp.L.skip (by kernel_rfl) ?_
          refine Sp.L.pure (by kernel_rfl) (Sp.Runs.pickT rfl rfl) ?_
          refine Sp.L.nil ?_
          refine hK136 _ _ (Sp.Cd.sub (S' := [(0, _), (1, _), (2, _), (3, _), (4, _), (5, _), (6, _), (7, _), (8, _), (80, _)]) ⟨rfl, rfl, rfl, rfl, rfl, rfl, rfl, rfl, rfl, rfl, trivial⟩ ?_)
          clear hK136 K136
          refine Sp.Cd.condT rfl ?_
          refine Sp.Cd.seq fun K137 hK137 => ?_
          refine Sp.Cd.region ?_
          refine Sp.L.pure (by kernel_rfl) (Sp.Runs.assign rfl) ?_
          refine Sp.L.nil ?_
          refine hK137 _ _ (Sp.Cd.sub (S' := [(18, _)]) ⟨rfl, trivial⟩ ?_)
          clear hK137 K137
          refine Sp.Cd.ret ?_
          refine Sp.Rt.then ?_
          refine Sp.Rt.body rfl rfl ?_
          exact ⟨rfl, B0.out⟩
      · refine Sp.enter (N := 385) (args := [.string facing, .string word, .slice am lm cm, .string sw, .int .i64 k, .int .i64 turn, .int .i64 soldiers, .string said, .slice an ln cn]) Tryd.func6 rfl rfl (by kernel_rfl) ?_
        refine Sp.Cd.seq fun K138 hK138 => ?_
        refine Sp.Cd.region ?_
        refine Sp.L.pure (by kernel_rfl) (Sp.Runs.assign rfl) ?_
        refine Sp.L.nil ?_
        refine hK138 _ _ (Sp.Cd.sub (S' := [(0, _), (1, _), (2, _), (3, _), (4, _), (5, _), (6, _), (7, _), (8, _)]) ⟨rfl, rfl, rfl, rfl, rfl, rfl, rfl, rfl, rfl, trivial⟩ ?_)
        clear hK138 K138
        refine Sp.Cd.seq fun K139 hK139 => ?_
        refine Sp.Cd.seq fun K140 hK140 => ?_
        refine Sp.Cd.region ?_
        refine Sp.L.pure (by kernel_rfl) (Sp.Runs.move rfl) ?_
        refine Sp.L.pure (by kernel_rfl) (Sp.Runs.lenS Tryd.underlying9 rfl) ?_
        refine Sp.L.pure (by kernel_rfl) (Sp.Runs.gtIF rfl rfl (by omega)) ?_
        refine Sp.L.pure (by kernel_rfl) (Sp.Runs.move rfl) ?_
        refine Sp.L.pure (by kernel_rfl) (Sp.Runs.move rfl) ?_
        refine Sp.L.pure (by kernel_rfl) (Sp.Runs.lenS Tryd.underlying9 rfl) ?_
        refine Sp.L.pure (by kernel_rfl) (Sp.Runs.gtIF rfl rfl (by omega)) ?_
        refine Sp.L.pure (by kernel_rfl) (Sp.Runs.pickF rfl rfl) ?_
        refine Sp.L.pure (by kernel_rfl) (Sp.Runs.move rfl) ?_
        refine Sp.L.pure (by kernel_rfl) (Sp.Runs.move rfl) ?_
        refine Sp.L.pure (by kernel_rfl) (Sp.Runs.lenL Tryd.underlying43 rfl) ?_
        refine Sp.L.pure (by kernel_rfl) (Sp.Runs.gtIT rfl rfl (by omega)) ?_
        refine Sp.L.pure (by kernel_rfl) (Sp.Runs.pickF rfl rfl) ?_
        refine Sp.L.pure (by kernel_rfl) (Sp.Runs.move rfl) ?_
        refine Sp.L.skip (by kernel_rfl) ?_
        refine Sp.L.skip (by kernel_rfl) ?_
        refine Sp.L.skip (by kernel_rfl) ?_
        refine Sp.L.pure (by kernel_rfl) (Sp.Runs.pickT rfl rfl) ?_
        refine Sp.L.pure (by kernel_rfl) (Sp.Runs.move rfl) ?_
        refine Sp.L.skip (by kernel_rfl) ?_
        refine Sp.L.skip (by kernel_rfl) ?_
        refine Sp.L.skip (by kernel_rfl) ?_
        refine Sp.L.pure (by kernel_rfl) (Sp.Runs.pickT rfl rfl) ?_
        refine Sp.L.pure (by kernel_rfl) (Sp.Runs.move rfl) ?_
        refine Sp.L.skip (by kernel_rfl) ?_
        refine Sp.L.skip (by kernel_rfl) ?_
        refine Sp.L.skip (by kernel_rfl) ?_
        refine Sp.L.pure (by kernel_rfl) (Sp.Runs.pickT rfl rfl) ?_
        refine Sp.L.nil ?_
        refine hK140 _ _ (Sp.Cd.sub (S' := [(0, _), (1, _), (2, _), (3, _), (4, _), (5, _), (6, _), (7, _), (8, _), (80, _)]) ⟨rfl, rfl, rfl, rfl, rfl, rfl, rfl, rfl, rfl, rfl, trivial⟩ ?_)
        clear hK140 K140
        refine Sp.Cd.condT rfl ?_
        refine Sp.Cd.seq fun K141 hK141 => ?_
        refine Sp.Cd.region ?_
        refine Sp.L.pure (by kernel_rfl) (Sp.Runs.assign rfl) ?_
        refine Sp.L.nil ?_
        refine hK141 _ _ (Sp.Cd.sub (S' := [(18, _)]) ⟨rfl, trivial⟩ ?_)
        clear hK141 K141
        refine Sp.Cd.ret ?_
        refine Sp.Rt.then ?_
        refine Sp.Rt.body rfl rfl ?_
        exact ⟨rfl, B0.out⟩
    · refine Sp.enter (N := 385) (args := [.string facing, .string word, .slice am lm cm, .string sw, .int .i64 k, .int .i64 turn, .int .i64 soldiers, .string said, .slice an ln cn]) Tryd.func6 rfl rfl (by kernel_rfl) ?_
      refine Sp.Cd.seq fun K142 hK142 => ?_
      refine Sp.Cd.region ?_
      refine Sp.L.pure (by kernel_rfl) (Sp.Runs.assign rfl) ?_
      refine Sp.L.nil ?_
      refine hK142 _ _ (Sp.Cd.sub (S' := [(0, _), (1, _), (2, _), (3, _), (4, _), (5, _), (6, _), (7, _), (8, _)]) ⟨rfl, rfl, rfl, rfl, rfl, rfl, rfl, rfl, rfl, trivial⟩ ?_)
      clear hK142 K142
      refine Sp.Cd.seq fun K143 hK143 => ?_
      refine Sp.Cd.seq fun K144 hK144 => ?_
      refine Sp.Cd.region ?_
      refine Sp.L.pure (by kernel_rfl) (Sp.Runs.move rfl) ?_
      refine Sp.L.pure (by kernel_rfl) (Sp.Runs.lenS Tryd.underlying9 rfl) ?_
      refine Sp.L.pure (by kernel_rfl) (Sp.Runs.gtIF rfl rfl (by omega)) ?_
      refine Sp.L.pure (by kernel_rfl) (Sp.Runs.move rfl) ?_
      refine Sp.L.pure (by kernel_rfl) (Sp.Runs.move rfl) ?_
      refine Sp.L.pure (by kernel_rfl) (Sp.Runs.lenS Tryd.underlying9 rfl) ?_
      refine Sp.L.pure (by kernel_rfl) (Sp.Runs.gtIT rfl rfl (by omega)) ?_
      refine Sp.L.pure (by kernel_rfl) (Sp.Runs.pickF rfl rfl) ?_
      refine Sp.L.pure (by kernel_rfl) (Sp.Runs.move rfl) ?_
      refine Sp.L.skip (by kernel_rfl) ?_
      refine Sp.L.skip (by kernel_rfl) ?_
      refine Sp.L.skip (by kernel_rfl) ?_
      refine Sp.L.pure (by kernel_rfl) (Sp.Runs.pickT rfl rfl) ?_
      refine Sp.L.pure (by kernel_rfl) (Sp.Runs.move rfl) ?_
      refine Sp.L.skip (by kernel_rfl) ?_
      refine Sp.L.skip (by kernel_rfl) ?_
      refine Sp.L.skip (by kernel_rfl) ?_
      refine Sp.L.pure (by kernel_rfl) (Sp.Runs.pickT rfl rfl) ?_
      refine Sp.L.pure (by kernel_rfl) (Sp.Runs.move rfl) ?_
      refine Sp.L.skip (by kernel_rfl) ?_
      refine Sp.L.skip (by kernel_rfl) ?_
      refine Sp.L.skip (by kernel_rfl) ?_
      refine Sp.L.pure (by kernel_rfl) (Sp.Runs.pickT rfl rfl) ?_
      refine Sp.L.pure (by kernel_rfl) (Sp.Runs.move rfl) ?_
      refine Sp.L.skip (by kernel_rfl) ?_
      refine Sp.L.skip (by kernel_rfl) ?_
      refine Sp.L.skip (by kernel_rfl) ?_
      refine Sp.L.pure (by kernel_rfl) (Sp.Runs.pickT rfl rfl) ?_
      refine Sp.L.nil ?_
      refine hK144 _ _ (Sp.Cd.sub (S' := [(0, _), (1, _), (2, _), (3, _), (4, _), (5, _), (6, _), (7, _), (8, _), (80, _)]) ⟨rfl, rfl, rfl, rfl, rfl, rfl, rfl, rfl, rfl, rfl, trivial⟩ ?_)
      clear hK144 K144
      refine Sp.Cd.condT rfl ?_
      refine Sp.Cd.seq fun K145 hK145 => ?_
      refine Sp.Cd.region ?_
      refine Sp.L.pure (by kernel_rfl) (Sp.Runs.assign rfl) ?_
      refine Sp.L.nil ?_
      refine hK145 _ _ (Sp.Cd.sub (S' := [(18, _)]) ⟨rfl, trivial⟩ ?_)
      clear hK145 K145
      refine Sp.Cd.ret ?_
      refine Sp.Rt.then ?_
      refine Sp.Rt.body rfl rfl ?_
      exact ⟨rfl, B0.out⟩
  · refine Sp.enter (N := 385) (args := [.string facing, .string word, .slice am lm cm, .string sw, .int .i64 k, .int .i64 turn, .int .i64 soldiers, .string said, .slice an ln cn]) Tryd.func6 rfl rfl (by kernel_rfl) ?_
    refine Sp.Cd.seq fun K146 hK146 => ?_
    refine Sp.Cd.region ?_
    refine Sp.L.pure (by kernel_rfl) (Sp.Runs.assign rfl) ?_
    refine Sp.L.nil ?_
    refine hK146 _ _ (Sp.Cd.sub (S' := [(0, _), (1, _), (2, _), (3, _), (4, _), (5, _), (6, _), (7, _), (8, _)]) ⟨rfl, rfl, rfl, rfl, rfl, rfl, rfl, rfl, rfl, trivial⟩ ?_)
    clear hK146 K146
    refine Sp.Cd.seq fun K147 hK147 => ?_
    refine Sp.Cd.seq fun K148 hK148 => ?_
    refine Sp.Cd.region ?_
    refine Sp.L.pure (by kernel_rfl) (Sp.Runs.move rfl) ?_
    refine Sp.L.pure (by kernel_rfl) (Sp.Runs.lenS Tryd.underlying9 rfl) ?_
    refine Sp.L.pure (by kernel_rfl) (Sp.Runs.gtIT rfl rfl (by omega)) ?_
    refine Sp.L.pure (by kernel_rfl) (Sp.Runs.move rfl) ?_
    refine Sp.L.skip (by kernel_rfl) ?_
    refine Sp.L.skip (by kernel_rfl) ?_
    refine Sp.L.skip (by kernel_rfl) ?_
    refine Sp.L.pure (by kernel_rfl) (Sp.Runs.pickT rfl rfl) ?_
    refine Sp.L.pure (by kernel_rfl) (Sp.Runs.move rfl) ?_
    refine Sp.L.skip (by kernel_rfl) ?_
    refine Sp.L.skip (by kernel_rfl) ?_
    refine Sp.L.skip (by kernel_rfl) ?_
    refine Sp.L.pure (by kernel_rfl) (Sp.Runs.pickT rfl rfl) ?_
    refine Sp.L.pure (by kernel_rfl) (Sp.Runs.move rfl) ?_
    refine Sp.L.skip (by kernel_rfl) ?_
    refine Sp.L.skip (by kernel_rfl) ?_
    refine Sp.L.skip (by kernel_rfl) ?_
    refine Sp.L.pure (by kernel_rfl) (Sp.Runs.pickT rfl rfl) ?_
    refine Sp.L.pure (by kernel_rfl) (Sp.Runs.move rfl) ?_
    refine Sp.L.skip (by kernel_rfl) ?_
    refine Sp.L.skip (by kernel_rfl) ?_
    refine Sp.L.skip (by kernel_rfl) ?_
    refine Sp.L.pure (by kernel_rfl) (Sp.Runs.pickT rfl rfl) ?_
    refine Sp.L.pure (by kernel_rfl) (Sp.Runs.move rfl) ?_
    refine Sp.L.skip (by kernel_rfl) ?_
    refine Sp.L.skip (by kernel_rfl) ?_
    refine Sp.L.skip (by kernel_rfl) ?_
    refine Sp.L.pure (by kernel_rfl) (Sp.Runs.pickT rfl rfl) ?_
    refine Sp.L.nil ?_
    refine hK148 _ _ (Sp.Cd.sub (S' := [(0, _), (1, _), (2, _), (3, _), (4, _), (5, _), (6, _), (7, _), (8, _), (80, _)]) ⟨rfl, rfl, rfl, rfl, rfl, rfl, rfl, rfl, rfl, rfl, trivial⟩ ?_)
    clear hK148 K148
    refine Sp.Cd.condT rfl ?_
    refine Sp.Cd.seq fun K149 hK149 => ?_
    refine Sp.Cd.region ?_
    refine Sp.L.pure (by kernel_rfl) (Sp.Runs.assign rfl) ?_
    refine Sp.L.nil ?_
    refine hK149 _ _ (Sp.Cd.sub (S' := [(18, _)]) ⟨rfl, trivial⟩ ?_)
    clear hK149 K149
    refine Sp.Cd.ret ?_
    refine Sp.Rt.then ?_
    refine Sp.Rt.body rfl rfl ?_
    exact ⟨rfl, B0.out⟩
end Go.Proofs.YtjbomclildkjaaaDoor
