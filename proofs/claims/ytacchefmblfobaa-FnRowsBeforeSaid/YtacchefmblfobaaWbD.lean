/- The walk of the composite law FnRowsBefore. Written by a program of mine (tools/sp/w_rb.py). -/
import Derived.Test.YtacchefmblfobaaRd
import Derived.Test.YtacchefmblfobaaCuR
namespace Go.Proofs.Ytacchefmblfobaa
open Go.ChangeShapes Go.WideShapes Go.ChangeAt Go.RowKit
open Qs Cu
set_option maxRecDepth 20000 in
set_option maxHeartbeats 40000000 in
theorem walkFnRowsBefore (xa : Option Addr) (la ca : Nat) (xb : Option Addr) (lb cb' : Nat) (w0 : World) (hx : Bytes w0 xa la) (h1 : la ≤ 9223372036854775807) (hy : Bytes w0 xb lb) (h2 : lb ≤ 9223372036854775807) :
    Calls Try.prog 5 #[.slice xa la ca, .slice xb lb cb'] w0 fun e w' => e = .returned (.bool true) ∧ Below w0.heap.size w0 w' := by
  have B0 : Hid (Below w0.heap.size w0 w0) := Lib.hid (Below.refl _ _)
  have HYa := Lib.hid hx
  have HYb := Lib.hid hy
  clear hx hy
  obtain ⟨tb, htb⟩ : ∃ x, x = bigB la lb := ⟨_, rfl⟩
  refine Sp.enter (N := 369) (args := [.slice xa la ca, .slice xb lb cb']) Try.func5 rfl rfl (by kernel_rfl) ?_
  refine Sp.Cd.seq fun K1 hK1 => ?_
  refine Sp.Cd.region ?_
  refine Sp.L.pure (by kernel_rfl) (Sp.Runs.assign rfl) ?_
  refine Sp.L.nil ?_
  refine hK1 _ _ (Sp.Cd.sub (S' := [(0, _), (1, _)]) ⟨rfl, rfl, trivial⟩ ?_)
  clear hK1 K1
  refine Sp.Cd.seq fun K2 hK2 => ?_
  refine Sp.Cd.seq fun K3 hK3 => ?_
  refine Sp.Cd.region ?_
  refine Sp.L.pure (by kernel_rfl) (Sp.Runs.move rfl) ?_
  refine Sp.L.pure (by kernel_rfl) (Sp.Runs.move rfl) ?_
  have CC := big_p w0 xa xb la ca lb cb' h1 h2
  rw [← htb] at CC
  refine Sp.L.call (by kernel_rfl) (CC) rfl rfl (by kernel_rfl) ?_
  clear CC
  rintro e w' ⟨rfl, rfl⟩
  refine ⟨_, rfl, ?_⟩
  refine Sp.L.nil ?_
  refine hK3 _ _ (Sp.Cd.sub (S' := [(0, _), (1, _), (53, _)]) ⟨rfl, rfl, rfl, trivial⟩ ?_)
  clear hK3 K3
  rcases tb with _ | _
  · refine Sp.Cd.condF rfl ?_
    refine Sp.Cd.skip ?_
    refine hK2 _ _ (Sp.Cd.sub (S' := [(0, _), (1, _)]) ⟨rfl, rfl, trivial⟩ ?_)
    clear hK2 K2
    refine Sp.Cd.seq fun K4 hK4 => ?_
    refine Sp.Cd.region ?_
    refine Sp.L.pure (by kernel_rfl) (Sp.Runs.move rfl) ?_
    refine Sp.L.call (by kernel_rfl) (drawRowsBefore_p w0 xa la ca h1 HYa.out) rfl rfl (by kernel_rfl) ?_
    rintro e w1 ⟨row, hrow, rfl, b⟩
    replace B0 := Lib.hid (B0.out.trans (b.mono B0.out.size))
    replace HYa := Lib.hid (HYa.out.below b)
    replace HYb := Lib.hid (HYb.out.below b)
    clear b
    refine ⟨_, rfl, ?_⟩
    have hml : maxLen = 9223372036854775807 := rfl
    have HR : Hid (row.size ≤ maxLen) := Lib.hid (by omega)
    have z1 : row.size ≤ 1048576 := by omega
    obtain ⟨ok, hok⟩ : ∃ x, x = shortB row := ⟨_, rfl⟩
    obtain ⟨has, hhas⟩ : ∃ x, x = hasBB row := ⟨_, rfl⟩
    obtain ⟨bf, hbf⟩ : ∃ x, x = befL row := ⟨_, rfl⟩
    refine Sp.L.pure (by kernel_rfl) (Sp.Runs.assign rfl) ?_
    refine Sp.L.nil ?_
    refine hK4 _ _ (Sp.Cd.sub (S' := [(1, _), (5, _)]) ⟨rfl, rfl, trivial⟩ ?_)
    clear hK4 K4
    refine Sp.Cd.seq fun K5 hK5 => ?_
    refine Sp.Cd.region ?_
    refine Sp.L.pure (by kernel_rfl) (Sp.Runs.move rfl) ?_
    have CC := implRowsBefore_any row HR.out w1
    rw [← hok, ← hbf] at CC
    refine Sp.L.call (by kernel_rfl) (CC) rfl rfl (by kernel_rfl) ?_
    clear CC
    rintro e w2 ⟨vbi, rfl, obi, b⟩
    replace B0 := Lib.hid (B0.out.trans (b.mono B0.out.size))
    replace HYa := Lib.hid (HYa.out.below b)
    replace HYb := Lib.hid (HYb.out.below b)
    clear b
    obtain ⟨abi, cbi, ebi, hbi, _, _⟩ := ownS_came obi
    obtain ⟨lbi, hlbi⟩ : ∃ n, n = (bf).length := ⟨_, rfl⟩
    rw [← hlbi] at ebi hbi
    have Hbi := Lib.hid hbi
    have Lbi := Lib.hid hlbi
    clear hbi hlbi obi
    subst ebi
    refine ⟨_, rfl, ?_⟩
    refine Sp.L.pure (by kernel_rfl) (Sp.Runs.move rfl) ?_
    refine Sp.L.pure (by kernel_rfl) (Sp.Runs.extract rfl rfl) ?_
    refine Sp.L.pure (by kernel_rfl) (Sp.Runs.extract rfl rfl) ?_
    refine Sp.L.pure (by kernel_rfl) (Sp.Runs.assign rfl) ?_
    refine Sp.L.pure (by kernel_rfl) (Sp.Runs.assign rfl) ?_
    refine Sp.L.nil ?_
    refine hK5 _ _ (Sp.Cd.sub (S' := [(1, _), (5, _), (6, _), (7, _)]) ⟨rfl, rfl, rfl, rfl, trivial⟩ ?_)
    clear hK5 K5
    refine Sp.Cd.seq fun K6 hK6 => ?_
    refine Sp.Cd.region ?_
    refine Sp.L.pure (by kernel_rfl) (Sp.Runs.move rfl) ?_
    have CC := specRowsBefore_any row HR.out w2
    rw [← hok, ← hbf] at CC
    refine Sp.L.call (by kernel_rfl) (CC) rfl rfl (by kernel_rfl) ?_
    clear CC
    rintro e w3 ⟨vbs, rfl, obs, b⟩
    replace B0 := Lib.hid (B0.out.trans (b.mono B0.out.size))
    replace HYa := Lib.hid (HYa.out.below b)
    replace HYb := Lib.hid (HYb.out.below b)
    replace Hbi := Lib.hid (Hbi.out.below b)
    clear b
    obtain ⟨abs, cbs, ebs, hbs, _, _⟩ := ownS_came obs
    obtain ⟨lbs, hlbs⟩ : ∃ n, n = (bf).length := ⟨_, rfl⟩
    rw [← hlbs] at ebs hbs
    have Hbs := Lib.hid hbs
    have Lbs := Lib.hid hlbs
    clear hbs hlbs obs
    subst ebs
    refine ⟨_, rfl, ?_⟩
    refine Sp.L.pure (by kernel_rfl) (Sp.Runs.move rfl) ?_
    refine Sp.L.pure (by kernel_rfl) (Sp.Runs.extract rfl rfl) ?_
    refine Sp.L.pure (by kernel_rfl) (Sp.Runs.extract rfl rfl) ?_
    refine Sp.L.pure (by kernel_rfl) (Sp.Runs.assign rfl) ?_
    refine Sp.L.pure (by kernel_rfl) (Sp.Runs.assign rfl) ?_
    refine Sp.L.nil ?_
    refine hK6 _ _ (Sp.Cd.sub (S' := [(1, _), (5, _), (6, _), (7, _), (8, _), (9, _)]) ⟨rfl, rfl, rfl, rfl, rfl, rfl, trivial⟩ ?_)
    clear hK6 K6
    refine Sp.Cd.seq fun K7 hK7 => ?_
    refine Sp.Cd.region ?_
    refine Sp.L.pure (by kernel_rfl) (Sp.Runs.move rfl) ?_
    have CC := implHasBefore_any row HR.out w3
    rw [← hok, ← hhas] at CC
    refine Sp.L.call (by kernel_rfl) (CC) rfl rfl (by kernel_rfl) ?_
    clear CC
    rintro e w4 ⟨rfl, b⟩
    replace B0 := Lib.hid (B0.out.trans (b.mono B0.out.size))
    replace HYa := Lib.hid (HYa.out.below b)
    replace HYb := Lib.hid (HYb.out.below b)
    replace Hbi := Lib.hid (Hbi.out.below b)
    replace Hbs := Lib.hid (Hbs.out.below b)
    clear b
    refine ⟨_, rfl, ?_⟩
    refine Sp.L.pure (by kernel_rfl) (Sp.Runs.move rfl) ?_
    refine Sp.L.pure (by kernel_rfl) (Sp.Runs.extract rfl rfl) ?_
    refine Sp.L.pure (by kernel_rfl) (Sp.Runs.extract rfl rfl) ?_
    refine Sp.L.pure (by kernel_rfl) (Sp.Runs.assign rfl) ?_
    refine Sp.L.pure (by kernel_rfl) (Sp.Runs.assign rfl) ?_
    refine Sp.L.nil ?_
    refine hK7 _ _ (Sp.Cd.sub (S' := [(1, _), (5, _), (6, _), (7, _), (8, _), (9, _), (10, _), (11, _)]) ⟨rfl, rfl, rfl, rfl, rfl, rfl, rfl, rfl, trivial⟩ ?_)
    clear hK7 K7
    refine Sp.Cd.seq fun K8 hK8 => ?_
    refine Sp.Cd.region ?_
    refine Sp.L.pure (by kernel_rfl) (Sp.Runs.move rfl) ?_
    have CC := specHasBefore_any row HR.out w4
    rw [← hok, ← hhas] at CC
    refine Sp.L.call (by kernel_rfl) (CC) rfl rfl (by kernel_rfl) ?_
    clear CC
    rintro e w5 ⟨rfl, b⟩
    replace B0 := Lib.hid (B0.out.trans (b.mono B0.out.size))
    replace HYa := Lib.hid (HYa.out.below b)
    replace HYb := Lib.hid (HYb.out.below b)
    replace Hbi := Lib.hid (Hbi.out.below b)
    replace Hbs := Lib.hid (Hbs.out.below b)
    clear b
    refine ⟨_, rfl, ?_⟩
    refine Sp.L.pure (by kernel_rfl) (Sp.Runs.move rfl) ?_
    refine Sp.L.pure (by kernel_rfl) (Sp.Runs.extract rfl rfl) ?_
    refine Sp.L.pure (by kernel_rfl) (Sp.Runs.extract rfl rfl) ?_
    refine Sp.L.pure (by kernel_rfl) (Sp.Runs.assign rfl) ?_
    refine Sp.L.pure (by kernel_rfl) (Sp.Runs.assign rfl) ?_
    refine Sp.L.nil ?_
    refine hK8 _ _ (Sp.Cd.sub (S' := [(1, _), (5, _), (6, _), (7, _), (8, _), (9, _), (10, _), (11, _), (12, _), (13, _)]) ⟨rfl, rfl, rfl, rfl, rfl, rfl, rfl, rfl, rfl, rfl, trivial⟩ ?_)
    clear hK8 K8
    refine Sp.Cd.seq fun K9 hK9 => ?_
    refine Sp.Cd.seq fun K10 hK10 => ?_
    refine Sp.Cd.region ?_
    refine Sp.L.pure (by kernel_rfl) (Sp.Runs.move rfl) ?_
    refine Sp.L.pure (by kernel_rfl) (Sp.Runs.move rfl) ?_
    refine Sp.L.pure (by kernel_rfl) (Sp.Runs.neBF Try.underlying4 rfl rfl (by first | rfl | assumption)) ?_
    refine Sp.L.pure (by kernel_rfl) (Sp.Runs.move rfl) ?_
    refine Sp.L.pure (by kernel_rfl) (Sp.Runs.move rfl) ?_
    refine Sp.L.pure (by kernel_rfl) (Sp.Runs.move rfl) ?_
    have Lbs2 : lbs = lbi := by rw [Lbs.out, Lbi.out]
    subst Lbs2
    refine Sp.L.call (by kernel_rfl) (mTexts_same w5 abi abs lbs cbi cbs bf (by rw [Lbs.out, hbf]; have := befL_len row; omega) Hbi.out Hbs.out) rfl rfl (by kernel_rfl) ?_
    rintro e w6 ⟨rfl, b⟩
    replace B0 := Lib.hid (B0.out.trans (b.mono B0.out.size))
    replace HYa := Lib.hid (HYa.out.below b)
    replace HYb := Lib.hid (HYb.out.below b)
    replace Hbi := Lib.hid (Hbi.out.below b)
    replace Hbs := Lib.hid (Hbs.out.below b)
    clear b
    refine ⟨_, rfl, ?_⟩
    refine Sp.L.pure (by kernel_rfl) (Sp.Runs.notF rfl) ?_
    refine Sp.L.pure (by kernel_rfl) (Sp.Runs.pickF rfl rfl) ?_
    refine Sp.L.pure (by kernel_rfl) (Sp.Runs.move rfl) ?_
    refine Sp.L.pure (by kernel_rfl) (Sp.Runs.move rfl) ?_
    refine Sp.L.pure (by kernel_rfl) (Sp.Runs.move rfl) ?_
    refine Sp.L.pure (by kernel_rfl) (Sp.Runs.neBF Try.underlying4 rfl rfl (by first | rfl | assumption)) ?_
    refine Sp.L.pure (by kernel_rfl) (Sp.Runs.pickF rfl rfl) ?_
    refine Sp.L.pure (by kernel_rfl) (Sp.Runs.move rfl) ?_
    refine Sp.L.pure (by kernel_rfl) (Sp.Runs.move rfl) ?_
    refine Sp.L.pure (by kernel_rfl) (Sp.Runs.move rfl) ?_
    refine Sp.L.pure (by kernel_rfl) (Sp.Runs.neBF Try.underlying4 rfl rfl (by first | rfl | assumption)) ?_
    refine Sp.L.pure (by kernel_rfl) (Sp.Runs.pickF rfl rfl) ?_
    refine Sp.L.pure (by kernel_rfl) (Sp.Runs.move rfl) ?_
    refine Sp.L.pure (by kernel_rfl) (Sp.Runs.move rfl) ?_
    refine Sp.L.pure (by kernel_rfl) (Sp.Runs.move rfl) ?_
    refine Sp.L.pure (by kernel_rfl) (Sp.Runs.neBF Try.underlying4 rfl rfl (by first | rfl | assumption)) ?_
    refine Sp.L.pure (by kernel_rfl) (Sp.Runs.pickF rfl rfl) ?_
    refine Sp.L.nil ?_
    refine hK10 _ _ (Sp.Cd.sub (S' := [(1, _), (5, _), (6, _), (7, _), (10, _), (99, _)]) ⟨rfl, rfl, rfl, rfl, rfl, rfl, trivial⟩ ?_)
    clear hK10 K10
    refine Sp.Cd.condF rfl ?_
    refine Sp.Cd.skip ?_
    refine hK9 _ _ (Sp.Cd.sub (S' := [(1, _), (5, _), (6, _), (7, _), (10, _)]) ⟨rfl, rfl, rfl, rfl, rfl, trivial⟩ ?_)
    clear hK9 K9
    refine Sp.Cd.cutK [(1, _)] ⟨rfl, trivial⟩ ?_ ?_
    · have B1 : Hid (Below w6.heap.size w6 w6) := Lib.hid (Below.refl _ _)
      clear Hbs
      rcases ok with _ | _
      · refine Sp.Cd.seq fun K11 hK11 => ?_
        refine Sp.Cd.region ?_
        refine Sp.L.pure (by kernel_rfl) (Sp.Runs.move rfl) ?_
        refine Sp.L.nil ?_
        refine hK11 _ _ (Sp.Cd.sub (S' := [(1, _), (5, _), (6, _), (10, _), (100, _)]) ⟨rfl, rfl, rfl, rfl, rfl, trivial⟩ ?_)
        clear hK11 K11
        refine Sp.Cd.condF rfl ?_
        refine Sp.Cd.skip ?_
        refine Sp.Nx.post () ⟨rfl, trivial⟩ (B1.out)
      · obtain ⟨hrow, r1, r2⟩ := short_of hok.symm
        obtain ⟨l, hl⟩ : ∃ x, x = bits row := ⟨_, rfl⟩
        rw [← hl] at hrow r1 r2
        have hbf2 : bf = C1.befAll l := by rw [hbf, befL_yes hok.symm, hl]
        have hhas2 : has = decide ((0 : Int) < (lbs : Int)) := by rw [hhas, hasBB, ← hok, Lbs.out, hbf2, hl]; simp [C1.hasB]
        have hst : rowB C1.restB row = C1.restB l := by rw [rowB_yes (by rw [hrow]; exact C1.goodB_str r1 (by omega)), hl]
        have q9 : lbs ≤ 4096 := by rw [Lbs.out, hbf2]; exact C1.befAll_len l r2
        refine Sp.Cd.seq fun K12 hK12 => ?_
        refine Sp.Cd.region ?_
        refine Sp.L.pure (by kernel_rfl) (Sp.Runs.move rfl) ?_
        refine Sp.L.nil ?_
        refine hK12 _ _ (Sp.Cd.sub (S' := [(1, _), (5, _), (6, _), (10, _), (100, _)]) ⟨rfl, rfl, rfl, rfl, rfl, trivial⟩ ?_)
        clear hK12 K12
        refine Sp.Cd.condT rfl ?_
        refine Sp.Cd.seq fun K13 hK13 => ?_
        refine Sp.Cd.region ?_
        refine Sp.L.pure (by kernel_rfl) (Sp.Runs.move rfl) ?_
        have CR := implIsAtRest_b row HR.out w6
        rw [hst, show C1.goodB row = true by rw [hrow]; exact C1.goodB_str r1 (by omega)] at CR
        obtain ⟨st, hst2⟩ : ∃ x, x = C1.restB l := ⟨_, rfl⟩
        rw [← hst2] at CR
        refine Sp.L.call (by kernel_rfl) (CR) rfl rfl (by kernel_rfl) ?_
        rintro e w7 ⟨rfl, b⟩
        replace B0 := Lib.hid (B0.out.trans (b.mono B0.out.size))
        replace B1 := Lib.hid (B1.out.trans (b.mono B1.out.size))
        replace HYa := Lib.hid (HYa.out.below b)
        replace HYb := Lib.hid (HYb.out.below b)
        replace Hbi := Lib.hid (Hbi.out.below b)
        clear b
        refine ⟨_, rfl, ?_⟩
        refine Sp.L.pure (by kernel_rfl) (Sp.Runs.move rfl) ?_
        refine Sp.L.pure (by kernel_rfl) (Sp.Runs.extract rfl rfl) ?_
        refine Sp.L.pure (by kernel_rfl) (Sp.Runs.extract rfl rfl) ?_
        refine Sp.L.pure (by kernel_rfl) (Sp.Runs.assign rfl) ?_
        refine Sp.L.pure (by kernel_rfl) (Sp.Runs.assign rfl) ?_
        refine Sp.L.nil ?_
        refine hK13 _ _ (Sp.Cd.sub (S' := [(1, _), (5, _), (6, _), (10, _), (14, _), (15, _)]) ⟨rfl, rfl, rfl, rfl, rfl, rfl, trivial⟩ ?_)
        clear hK13 K13
        refine Sp.Cd.cutK [(1, _), (5, _), (6, _)] ⟨rfl, rfl, rfl, trivial⟩ ?_ ?_
        · have B2 : Hid (Below w7.heap.size w7 w7) := Lib.hid (Below.refl _ _)
          rcases st with _ | _
          · refine Sp.Cd.seq fun K14 hK14 => ?_
            refine Sp.Cd.region ?_
            refine Sp.L.pure (by kernel_rfl) (Sp.Runs.move rfl) ?_
            refine Sp.L.pure (by kernel_rfl) (Sp.Runs.move rfl) ?_
            refine Sp.L.pure (by kernel_rfl) (Sp.Runs.lenL Try.underlying46 rfl) ?_
            refine Sp.L.pure (by kernel_rfl) (Sp.Runs.gtI rfl rfl) ?_
            refine Sp.L.pure (by kernel_rfl) (Sp.Runs.neBF Try.underlying4 rfl rfl hhas2) ?_
            refine Sp.L.pure (by kernel_rfl) (Sp.Runs.move rfl) ?_
            refine Sp.L.pure (by kernel_rfl) (Sp.Runs.move rfl) ?_
            refine Sp.L.pure (by kernel_rfl) (Sp.Runs.notF rfl) ?_
            refine Sp.L.pure (by kernel_rfl) (Sp.Runs.pickF rfl rfl) ?_
            refine Sp.L.pure (by kernel_rfl) (Sp.Runs.move rfl) ?_
            refine Sp.L.pure (by kernel_rfl) (Sp.Runs.move rfl) ?_
            refine Sp.L.pure (by kernel_rfl) (Sp.Runs.move rfl) ?_
            refine Sp.L.skip (by kernel_rfl) ?_
            refine Sp.L.skip (by kernel_rfl) ?_
            refine Sp.L.skip (by kernel_rfl) ?_
            refine Sp.L.skip (by kernel_rfl) ?_
            refine Sp.L.pure (by kernel_rfl) (Sp.Runs.pickF rfl rfl) ?_
            refine Sp.L.pure (by kernel_rfl) (Sp.Runs.pickF rfl rfl) ?_
            refine Sp.L.nil ?_
            refine hK14 _ _ (Sp.Cd.sub (S' := [(1, _), (5, _), (6, _), (123, _)]) ⟨rfl, rfl, rfl, rfl, trivial⟩ ?_)
            clear hK14 K14
            refine Sp.Cd.condF rfl ?_
            refine Sp.Cd.skip ?_
            refine Sp.Nx.post () ⟨rfl, rfl, rfl, trivial⟩ (B2.out)
          · have hp0 : Rw.pairs l = [] := by unfold C1.restB at hst2; exact List.length_eq_zero_iff.1 (by simpa using hst2.symm)
            obtain ⟨K, hK1, hK2⟩ := bef_rest l hp0
            refine Sp.Cd.seq fun K15 hK15 => ?_
            refine Sp.Cd.region ?_
            refine Sp.L.pure (by kernel_rfl) (Sp.Runs.move rfl) ?_
            refine Sp.L.pure (by kernel_rfl) (Sp.Runs.move rfl) ?_
            refine Sp.L.pure (by kernel_rfl) (Sp.Runs.lenL Try.underlying46 rfl) ?_
            refine Sp.L.pure (by kernel_rfl) (Sp.Runs.gtI rfl rfl) ?_
            refine Sp.L.pure (by kernel_rfl) (Sp.Runs.neBF Try.underlying4 rfl rfl hhas2) ?_
            refine Sp.L.pure (by kernel_rfl) (Sp.Runs.move rfl) ?_
            refine Sp.L.pure (by kernel_rfl) (Sp.Runs.move rfl) ?_
            refine Sp.L.pure (by kernel_rfl) (Sp.Runs.notF rfl) ?_
            refine Sp.L.pure (by kernel_rfl) (Sp.Runs.pickF rfl rfl) ?_
            refine Sp.L.pure (by kernel_rfl) (Sp.Runs.move rfl) ?_
            refine Sp.L.pure (by kernel_rfl) (Sp.Runs.move rfl) ?_
            refine Sp.L.pure (by kernel_rfl) (Sp.Runs.move rfl) ?_
            refine Sp.L.pure (by kernel_rfl) (Sp.Runs.move rfl) ?_
            refine Sp.L.pure (by kernel_rfl) (Sp.Runs.move rfl) ?_
            refine Sp.L.call (by kernel_rfl) (mText_in w7 abi lbs cbi bf row K (by rw [Lbs.out, hbf2]; exact hK1) (by omega) Hbi.out (by rw [hbf2, hK2]; exact hrow.symm)) rfl rfl (by kernel_rfl) ?_
            rintro e w' ⟨rfl, rfl⟩
            refine ⟨_, rfl, ?_⟩
            refine Sp.L.pure (by kernel_rfl) (Sp.Runs.notF rfl) ?_
            refine Sp.L.pure (by kernel_rfl) (Sp.Runs.pickT rfl rfl) ?_
            refine Sp.L.pure (by kernel_rfl) (Sp.Runs.pickF rfl rfl) ?_
            refine Sp.L.nil ?_
            refine hK15 _ _ (Sp.Cd.sub (S' := [(1, _), (5, _), (6, _), (123, _)]) ⟨rfl, rfl, rfl, rfl, trivial⟩ ?_)
            clear hK15 K15
            refine Sp.Cd.condF rfl ?_
            refine Sp.Cd.skip ?_
            refine Sp.Nx.post () ⟨rfl, rfl, rfl, trivial⟩ (B2.out)
        · intro w8 b
          replace B0 := Lib.hid (B0.out.trans (b.mono B0.out.size))
          replace B1 := Lib.hid (B1.out.trans (b.mono B1.out.size))
          replace HYa := Lib.hid (HYa.out.below b)
          replace HYb := Lib.hid (HYb.out.below b)
          replace Hbi := Lib.hid (Hbi.out.below b)
          clear b
          refine Sp.Cd.seq fun K16 hK16 => ?_
          refine Sp.Cd.region ?_
          refine Sp.L.pure (by kernel_rfl) (Sp.Runs.move rfl) ?_
          refine Sp.L.pure (by kernel_rfl) (Sp.Runs.lenL Try.underlying46 rfl) ?_
          refine Sp.L.pure (by kernel_rfl) (Sp.Runs.move rfl) ?_
          refine Sp.L.nil ?_
          refine hK16 _ _ (Sp.Cd.sub (S' := [(1, _), (5, _), (6, _), (124, _), (125, _), (126, _)]) ⟨rfl, rfl, rfl, rfl, rfl, rfl, trivial⟩ ?_)
          clear hK16 K16
          refine Sp.Cd.block ?_
          have B2 : Hid (Below w8.heap.size w8 w8) := Lib.hid (Below.refl _ _)
          refine Sp.Cd.loop (ι := Nat) [(1, _), (5, _), (6, _), (124, _), (125, _)] (fun i1 => [(126, .int .i64 (i1 : Nat))]) (fun i1 w' => Hid (Below w8.heap.size w8 w') ∧ (i1 ≤ lbs)) (fun i1 => lbs - i1) 0 ⟨rfl, rfl, rfl, rfl, rfl, rfl, trivial⟩ ⟨B2, Nat.zero_le _⟩ ?_
          clear B2
          rintro i1 w9 ⟨B2, hrel⟩
          have b := B2.out
          replace B0 := Lib.hid (B0.out.trans (b.mono B0.out.size))
          replace B1 := Lib.hid (B1.out.trans (b.mono B1.out.size))
          replace HYa := Lib.hid (HYa.out.below b)
          replace HYb := Lib.hid (HYb.out.below b)
          replace Hbi := Lib.hid (Hbi.out.below b)
          clear b
          refine Sp.Cd.sub (S' := [(126, _), (1, _), (5, _), (6, _), (124, _), (125, _)]) ⟨rfl, rfl, rfl, rfl, rfl, rfl, trivial⟩ ?_
          by_cases hlt : i1 < lbs
          · have hi1 : i1 < (C1.befAll l).length := by rw [← hbf2, ← Lbs.out]; exact hlt
            obtain ⟨k1, k2, k3, k4⟩ := bef_get l i1 hi1
            obtain ⟨p, hp⟩ := Sp.came_idxT (c := cbi) (k := .i64) (n := (i1 : Int)) Hbi.out i1 hlt rfl
            rw [hbf2, k3] at hp
            have hb0 := Below.refl w9.heap.size w9
            have T2 := fun w => C1.implTickRow_yes (Rw.make l.length k1) (by rw [Rw.length_make]; exact r1) (by rw [Rw.length_make]; omega) w
            rw [k4, ← hrow] at T2
            refine Sp.Cd.seq fun K17 hK17 => ?_
            refine Sp.Cd.region ?_
            refine Sp.L.pure (by kernel_rfl) (Sp.Runs.ltIT rfl rfl (by omega)) ?_
            refine Sp.L.nil ?_
            refine hK17 _ _ (Sp.Cd.sub (S' := [(1, _), (5, _), (6, _), (124, _), (125, _), (126, _), (127, _)]) ⟨rfl, rfl, rfl, rfl, rfl, rfl, rfl, trivial⟩ ?_)
            clear hK17 K17
            refine Sp.Cd.seq fun K18 hK18 => ?_
            refine Sp.Cd.condT rfl ?_
            refine Sp.Cd.skip ?_
            refine hK18 _ _ (Sp.Cd.sub (S' := [(1, _), (5, _), (6, _), (124, _), (125, _), (126, _)]) ⟨rfl, rfl, rfl, rfl, rfl, rfl, trivial⟩ ?_)
            clear hK18 K18
            refine Sp.Cd.seq fun K19 hK19 => ?_
            refine Sp.Cd.block ?_
            refine Sp.Cd.seq fun K20 hK20 => ?_
            refine Sp.Cd.region ?_
            refine Sp.L.pure (by kernel_rfl) (Sp.Runs.move rfl) ?_
            refine Sp.L.pure (by kernel_rfl) (Sp.Runs.indexAddr rfl rfl ((hp _ hb0).1)) ?_
            refine Sp.L.pure (by kernel_rfl) (Sp.Runs.load rfl ((hp _ hb0).2)) ?_
            refine Sp.L.pure (by kernel_rfl) (Sp.Runs.assign rfl) ?_
            refine Sp.L.pure (by kernel_rfl) (Sp.Runs.assign rfl) ?_
            refine Sp.L.nil ?_
            refine hK20 _ _ (Sp.Cd.sub (S' := [(1, _), (5, _), (6, _), (16, _), (17, _), (124, _), (125, _), (126, _)]) ⟨rfl, rfl, rfl, rfl, rfl, rfl, rfl, rfl, trivial⟩ ?_)
            clear hK20 K20
            refine Sp.Cd.seq fun K21 hK21 => ?_
            refine Sp.Cd.region ?_
            refine Sp.L.pure (by kernel_rfl) (Sp.Runs.move rfl) ?_
            refine Sp.L.call (by kernel_rfl) (T2 w9) rfl rfl (by kernel_rfl) ?_
            rintro e w10 ⟨rfl, b⟩
            replace B0 := Lib.hid (B0.out.trans (b.mono B0.out.size))
            replace B1 := Lib.hid (B1.out.trans (b.mono B1.out.size))
            replace B2 := Lib.hid (B2.out.trans (b.mono B2.out.size))
            replace HYa := Lib.hid (HYa.out.below b)
            replace HYb := Lib.hid (HYb.out.below b)
            replace Hbi := Lib.hid (Hbi.out.below b)
            clear b
            refine ⟨_, rfl, ?_⟩
            refine Sp.L.pure (by kernel_rfl) (Sp.Runs.move rfl) ?_
            refine Sp.L.pure (by kernel_rfl) (Sp.Runs.extract rfl rfl) ?_
            refine Sp.L.pure (by kernel_rfl) (Sp.Runs.extract rfl rfl) ?_
            refine Sp.L.pure (by kernel_rfl) (Sp.Runs.assign rfl) ?_
            refine Sp.L.pure (by kernel_rfl) (Sp.Runs.assign rfl) ?_
            refine Sp.L.nil ?_
            refine hK21 _ _ (Sp.Cd.sub (S' := [(1, _), (5, _), (6, _), (16, _), (17, _), (18, _), (19, _), (124, _), (125, _), (126, _)]) ⟨rfl, rfl, rfl, rfl, rfl, rfl, rfl, rfl, rfl, rfl, trivial⟩ ?_)
            clear hK21 K21
            refine Sp.Cd.viaK [(1, _), (5, _), (6, _), (124, _), (125, _), (126, _)] ⟨rfl, rfl, rfl, rfl, rfl, rfl, trivial⟩ ?_ ?_
            · have B3 : Hid (Below w10.heap.size w10 w10) := Lib.hid (Below.refl _ _)
              by_cases h0 : i1 = 0
              · refine Sp.Cd.seq fun K22 hK22 => ?_
                refine Sp.Cd.region ?_
                refine Sp.L.pure (by kernel_rfl) (Sp.Runs.move rfl) ?_
                refine Sp.L.pure (by kernel_rfl) (Sp.Runs.notF rfl) ?_
                refine Sp.L.pure (by kernel_rfl) (Sp.Runs.move rfl) ?_
                refine Sp.L.pure (by kernel_rfl) (Sp.Runs.move rfl) ?_
                refine Sp.L.pure (by kernel_rfl) (Sp.Runs.move rfl) ?_
                refine Sp.L.pure (by kernel_rfl) (Sp.Runs.neSF rfl rfl (by first | rfl | assumption)) ?_
                refine Sp.L.pure (by kernel_rfl) (Sp.Runs.pickF rfl rfl) ?_
                refine Sp.L.pure (by kernel_rfl) (Sp.Runs.move rfl) ?_
                refine Sp.L.pure (by kernel_rfl) (Sp.Runs.move rfl) ?_
                refine Sp.L.pure (by kernel_rfl) (Sp.Runs.gtIF rfl rfl (by omega)) ?_
                refine Sp.L.pure (by kernel_rfl) (Sp.Runs.move rfl) ?_
                refine Sp.L.skip (by kernel_rfl) ?_
                refine Sp.L.skip (by kernel_rfl) ?_
                refine Sp.L.skip (by kernel_rfl) ?_
                refine Sp.L.skip (by kernel_rfl) ?_
                refine Sp.L.skip (by kernel_rfl) ?_
                refine Sp.L.skip (by kernel_rfl) ?_
                refine Sp.L.skip (by kernel_rfl) ?_
                refine Sp.L.pure (by kernel_rfl) (Sp.Runs.pickF rfl rfl) ?_
                refine Sp.L.pure (by kernel_rfl) (Sp.Runs.pickF rfl rfl) ?_
                refine Sp.L.nil ?_
                refine hK22 _ _ (Sp.Cd.sub (S' := [(1, _), (5, _), (6, _), (124, _), (125, _), (126, _), (155, _)]) ⟨rfl, rfl, rfl, rfl, rfl, rfl, rfl, trivial⟩ ?_)
                clear hK22 K22
                refine Sp.Cd.condF rfl ?_
                refine Sp.Cd.skip ?_
                refine Sp.Nx.post () ⟨rfl, rfl, rfl, rfl, rfl, rfl, trivial⟩ (B3.out)
              · obtain ⟨i2, hi2⟩ : ∃ i2 : Nat, i2 + 1 = i1 := ⟨i1 - 1, by omega⟩
                obtain ⟨p2, hp2⟩ := Sp.came_idxT (c := cbi) (k := .i64) (n := (i1 : Int) - 1) Hbi.out i2 (by omega) (by omega)
                rw [hbf2] at hp2
                have hb2 := Below.refl w10.heap.size w10
                have hle := bef_next l i2 (by rw [hi2]; exact hi1)
                rw [hi2, k3] at hle
                refine Sp.Cd.seq fun K23 hK23 => ?_
                refine Sp.Cd.region ?_
                refine Sp.L.pure (by kernel_rfl) (Sp.Runs.move rfl) ?_
                refine Sp.L.pure (by kernel_rfl) (Sp.Runs.notF rfl) ?_
                refine Sp.L.pure (by kernel_rfl) (Sp.Runs.move rfl) ?_
                refine Sp.L.pure (by kernel_rfl) (Sp.Runs.move rfl) ?_
                refine Sp.L.pure (by kernel_rfl) (Sp.Runs.move rfl) ?_
                refine Sp.L.pure (by kernel_rfl) (Sp.Runs.neSF rfl rfl (by first | rfl | assumption)) ?_
                refine Sp.L.pure (by kernel_rfl) (Sp.Runs.pickF rfl rfl) ?_
                refine Sp.L.pure (by kernel_rfl) (Sp.Runs.move rfl) ?_
                refine Sp.L.pure (by kernel_rfl) (Sp.Runs.move rfl) ?_
                refine Sp.L.pure (by kernel_rfl) (Sp.Runs.gtIT rfl rfl (by omega)) ?_
                refine Sp.L.pure (by kernel_rfl) (Sp.Runs.move rfl) ?_
                refine Sp.L.pure (by kernel_rfl) (Sp.Runs.move rfl) ?_
                refine Sp.L.pure (by kernel_rfl) (Sp.Runs.move rfl) ?_
                refine Sp.L.pure (by kernel_rfl) (Sp.Runs.subI rfl rfl (Sp.wrapI (by omega) (by omega))) ?_
                refine Sp.L.pure (by kernel_rfl) (Sp.Runs.indexAddr rfl rfl ((hp2 _ hb2).1)) ?_
                refine Sp.L.pure (by kernel_rfl) (Sp.Runs.load rfl ((hp2 _ hb2).2)) ?_
                refine Sp.L.pure (by kernel_rfl) (Sp.Runs.move rfl) ?_
                refine Sp.L.pure (by kernel_rfl) (Sp.Runs.geSF rfl rfl hle) ?_
                refine Sp.L.pure (by kernel_rfl) (Sp.Runs.pickT rfl rfl) ?_
                refine Sp.L.pure (by kernel_rfl) (Sp.Runs.pickF rfl rfl) ?_
                refine Sp.L.nil ?_
                refine hK23 _ _ (Sp.Cd.sub (S' := [(1, _), (5, _), (6, _), (124, _), (125, _), (126, _), (155, _)]) ⟨rfl, rfl, rfl, rfl, rfl, rfl, rfl, trivial⟩ ?_)
                clear hK23 K23
                refine Sp.Cd.condF rfl ?_
                refine Sp.Cd.skip ?_
                refine Sp.Nx.post () ⟨rfl, rfl, rfl, rfl, rfl, rfl, trivial⟩ (B3.out)
            · intro w11 b
              replace B0 := Lib.hid (B0.out.trans (b.mono B0.out.size))
              replace B1 := Lib.hid (B1.out.trans (b.mono B1.out.size))
              replace B2 := Lib.hid (B2.out.trans (b.mono B2.out.size))
              replace HYa := Lib.hid (HYa.out.below b)
              replace HYb := Lib.hid (HYb.out.below b)
              replace Hbi := Lib.hid (Hbi.out.below b)
              clear b
              refine Sp.Nx.block ?_
              refine hK19 _ _ (Sp.Cd.sub (S' := [(1, _), (5, _), (6, _), (124, _), (125, _), (126, _)]) ⟨rfl, rfl, rfl, rfl, rfl, rfl, trivial⟩ ?_)
              clear hK19 K19
              refine Sp.Cd.region ?_
              refine Sp.L.pure (by kernel_rfl) (Sp.Runs.addI rfl rfl (Sp.wrapI (by omega) (by omega))) ?_
              refine Sp.L.pure (by kernel_rfl) (Sp.Runs.move rfl) ?_
              refine Sp.L.nil ?_
              refine Sp.Nx.again (i1 + 1) ⟨(Sp.lkI rfl (by omega)), rfl, rfl, rfl, rfl, rfl, trivial⟩ ⟨B2, hlt⟩ (by omega)
          · refine Sp.Cd.seq fun K24 hK24 => ?_
            refine Sp.Cd.region ?_
            refine Sp.L.pure (by kernel_rfl) (Sp.Runs.ltIF rfl rfl (by omega)) ?_
            refine Sp.L.nil ?_
            refine hK24 _ _ (Sp.Cd.sub (S' := [(1, _), (5, _), (6, _), (124, _), (125, _), (126, _), (127, _)]) ⟨rfl, rfl, rfl, rfl, rfl, rfl, rfl, trivial⟩ ?_)
            clear hK24 K24
            refine Sp.Cd.seq fun K25 hK25 => ?_
            refine Sp.Cd.condF rfl ?_
            refine Sp.Cd.exit ?_
            refine Sp.Ex.then ?_
            clear hK25 K25
            refine Sp.Ex.then ?_
            clear B2
            refine Sp.Ex.hit ?_
            refine Sp.Nx.post () ⟨rfl, trivial⟩ (B1.out)
    · intro w7 b
      replace B0 := Lib.hid (B0.out.trans (b.mono B0.out.size))
      replace HYa := Lib.hid (HYa.out.below b)
      replace HYb := Lib.hid (HYb.out.below b)
      replace Hbi := Lib.hid (Hbi.out.below b)
      replace Hbs := Lib.hid (Hbs.out.below b)
      clear b
      refine Sp.Cd.seq fun K26 hK26 => ?_
      refine Sp.Cd.region ?_
      refine Sp.L.pure (by kernel_rfl) (Sp.Runs.move rfl) ?_
      refine Sp.L.call (by kernel_rfl) (drawLongestTicks_p w7 xb lb cb' h2 HYb.out) rfl rfl (by kernel_rfl) ?_
      rintro e w8 ⟨n, wn, rfl, b⟩
      replace B0 := Lib.hid (B0.out.trans (b.mono B0.out.size))
      replace HYa := Lib.hid (HYa.out.below b)
      replace HYb := Lib.hid (HYb.out.below b)
      replace Hbi := Lib.hid (Hbi.out.below b)
      replace Hbs := Lib.hid (Hbs.out.below b)
      clear b
      refine ⟨_, rfl, ?_⟩
      obtain ⟨few, hfew⟩ : ∃ x, x = fewB n := ⟨_, rfl⟩
      refine Sp.L.pure (by kernel_rfl) (Sp.Runs.assign rfl) ?_
      refine Sp.L.nil ?_
      refine hK26 _ _ (Sp.Cd.sub (S' := [(1, _), (20, _)]) ⟨rfl, rfl, trivial⟩ ?_)
      clear hK26 K26
      refine Sp.Cd.seq fun K27 hK27 => ?_
      refine Sp.Cd.region ?_
      refine Sp.L.pure (by kernel_rfl) (Sp.Runs.move rfl) ?_
      have CC := implLongestTicks_any n w8
      rw [← hfew] at CC
      refine Sp.L.call (by kernel_rfl) (CC) rfl rfl (by kernel_rfl) ?_
      clear CC
      rintro e w9 ⟨rfl, b⟩
      replace B0 := Lib.hid (B0.out.trans (b.mono B0.out.size))
      replace HYa := Lib.hid (HYa.out.below b)
      replace HYb := Lib.hid (HYb.out.below b)
      replace Hbi := Lib.hid (Hbi.out.below b)
      replace Hbs := Lib.hid (Hbs.out.below b)
      clear b
      refine ⟨_, rfl, ?_⟩
      refine Sp.L.pure (by kernel_rfl) (Sp.Runs.move rfl) ?_
      refine Sp.L.pure (by kernel_rfl) (Sp.Runs.extract rfl rfl) ?_
      refine Sp.L.pure (by kernel_rfl) (Sp.Runs.extract rfl rfl) ?_
      refine Sp.L.pure (by kernel_rfl) (Sp.Runs.assign rfl) ?_
      refine Sp.L.pure (by kernel_rfl) (Sp.Runs.assign rfl) ?_
      refine Sp.L.nil ?_
      refine hK27 _ _ (Sp.Cd.sub (S' := [(1, _), (20, _), (21, _), (22, _)]) ⟨rfl, rfl, rfl, rfl, trivial⟩ ?_)
      clear hK27 K27
      refine Sp.Cd.seq fun K28 hK28 => ?_
      refine Sp.Cd.region ?_
      refine Sp.L.pure (by kernel_rfl) (Sp.Runs.move rfl) ?_
      have CC := specLongestTicks_any n w9
      rw [← hfew] at CC
      refine Sp.L.call (by kernel_rfl) (CC) rfl rfl (by kernel_rfl) ?_
      clear CC
      rintro e w10 ⟨rfl, b⟩
      replace B0 := Lib.hid (B0.out.trans (b.mono B0.out.size))
      replace HYa := Lib.hid (HYa.out.below b)
      replace HYb := Lib.hid (HYb.out.below b)
      replace Hbi := Lib.hid (Hbi.out.below b)
      replace Hbs := Lib.hid (Hbs.out.below b)
      clear b
      refine ⟨_, rfl, ?_⟩
      refine Sp.L.pure (by kernel_rfl) (Sp.Runs.move rfl) ?_
      refine Sp.L.pure (by kernel_rfl) (Sp.Runs.extract rfl rfl) ?_
      refine Sp.L.pure (by kernel_rfl) (Sp.Runs.extract rfl rfl) ?_
      refine Sp.L.pure (by kernel_rfl) (Sp.Runs.assign rfl) ?_
      refine Sp.L.pure (by kernel_rfl) (Sp.Runs.assign rfl) ?_
      refine Sp.L.nil ?_
      refine hK28 _ _ (Sp.Cd.sub (S' := [(1, _), (20, _), (21, _), (22, _), (23, _), (24, _)]) ⟨rfl, rfl, rfl, rfl, rfl, rfl, trivial⟩ ?_)
      clear hK28 K28
      refine Sp.Cd.seq fun K29 hK29 => ?_
      refine Sp.Cd.region ?_
      refine Sp.L.pure (by kernel_rfl) (Sp.Runs.move rfl) ?_
      have CC := implFirstLongest_any n w10
      rw [← hfew] at CC
      refine Sp.L.call (by kernel_rfl) (CC) rfl rfl (by kernel_rfl) ?_
      clear CC
      rintro e w11 ⟨rfl, b⟩
      replace B0 := Lib.hid (B0.out.trans (b.mono B0.out.size))
      replace HYa := Lib.hid (HYa.out.below b)
      replace HYb := Lib.hid (HYb.out.below b)
      replace Hbi := Lib.hid (Hbi.out.below b)
      replace Hbs := Lib.hid (Hbs.out.below b)
      clear b
      refine ⟨_, rfl, ?_⟩
      refine Sp.L.pure (by kernel_rfl) (Sp.Runs.move rfl) ?_
      refine Sp.L.pure (by kernel_rfl) (Sp.Runs.extract rfl rfl) ?_
      refine Sp.L.pure (by kernel_rfl) (Sp.Runs.extract rfl rfl) ?_
      refine Sp.L.pure (by kernel_rfl) (Sp.Runs.assign rfl) ?_
      refine Sp.L.pure (by kernel_rfl) (Sp.Runs.assign rfl) ?_
      refine Sp.L.nil ?_
      refine hK29 _ _ (Sp.Cd.sub (S' := [(1, _), (20, _), (21, _), (22, _), (23, _), (24, _), (25, _), (26, _)]) ⟨rfl, rfl, rfl, rfl, rfl, rfl, rfl, rfl, trivial⟩ ?_)
      clear hK29 K29
      refine Sp.Cd.seq fun K30 hK30 => ?_
      refine Sp.Cd.region ?_
      refine Sp.L.pure (by kernel_rfl) (Sp.Runs.move rfl) ?_
      have CC := specFirstLongest_any n w11
      rw [← hfew] at CC
      refine Sp.L.call (by kernel_rfl) (CC) rfl rfl (by kernel_rfl) ?_
      clear CC
      rintro e w12 ⟨rfl, b⟩
      replace B0 := Lib.hid (B0.out.trans (b.mono B0.out.size))
      replace HYa := Lib.hid (HYa.out.below b)
      replace HYb := Lib.hid (HYb.out.below b)
      replace Hbi := Lib.hid (Hbi.out.below b)
      replace Hbs := Lib.hid (Hbs.out.below b)
      clear b
      refine ⟨_, rfl, ?_⟩
      refine Sp.L.pure (by kernel_rfl) (Sp.Runs.move rfl) ?_
      refine Sp.L.pure (by kernel_rfl) (Sp.Runs.extract rfl rfl) ?_
      refine Sp.L.pure (by kernel_rfl) (Sp.Runs.extract rfl rfl) ?_
      refine Sp.L.pure (by kernel_rfl) (Sp.Runs.assign rfl) ?_
      refine Sp.L.pure (by kernel_rfl) (Sp.Runs.assign rfl) ?_
      refine Sp.L.nil ?_
      refine hK30 _ _ (Sp.Cd.sub (S' := [(1, _), (20, _), (21, _), (22, _), (23, _), (24, _), (25, _), (26, _), (27, _), (28, _)]) ⟨rfl, rfl, rfl, rfl, rfl, rfl, rfl, rfl, rfl, rfl, trivial⟩ ?_)
      clear hK30 K30
      refine Sp.Cd.seq fun K31 hK31 => ?_
      refine Sp.Cd.region ?_
      refine Sp.L.pure (by kernel_rfl) (Sp.Runs.move rfl) ?_
      have CC := implSumOfTicks_any n w12
      rw [← hfew] at CC
      refine Sp.L.call (by kernel_rfl) (CC) rfl rfl (by kernel_rfl) ?_
      clear CC
      rintro e w13 ⟨rfl, b⟩
      replace B0 := Lib.hid (B0.out.trans (b.mono B0.out.size))
      replace HYa := Lib.hid (HYa.out.below b)
      replace HYb := Lib.hid (HYb.out.below b)
      replace Hbi := Lib.hid (Hbi.out.below b)
      replace Hbs := Lib.hid (Hbs.out.below b)
      clear b
      refine ⟨_, rfl, ?_⟩
      refine Sp.L.pure (by kernel_rfl) (Sp.Runs.move rfl) ?_
      refine Sp.L.pure (by kernel_rfl) (Sp.Runs.extract rfl rfl) ?_
      refine Sp.L.pure (by kernel_rfl) (Sp.Runs.extract rfl rfl) ?_
      refine Sp.L.pure (by kernel_rfl) (Sp.Runs.assign rfl) ?_
      refine Sp.L.pure (by kernel_rfl) (Sp.Runs.assign rfl) ?_
      refine Sp.L.nil ?_
      refine hK31 _ _ (Sp.Cd.sub (S' := [(1, _), (20, _), (21, _), (22, _), (23, _), (24, _), (25, _), (26, _), (27, _), (28, _), (29, _), (30, _)]) ⟨rfl, rfl, rfl, rfl, rfl, rfl, rfl, rfl, rfl, rfl, rfl, rfl, trivial⟩ ?_)
      clear hK31 K31
      refine Sp.Cd.seq fun K32 hK32 => ?_
      refine Sp.Cd.region ?_
      refine Sp.L.pure (by kernel_rfl) (Sp.Runs.move rfl) ?_
      have CC := specSumOfTicks_any n w13
      rw [← hfew] at CC
      refine Sp.L.call (by kernel_rfl) (CC) rfl rfl (by kernel_rfl) ?_
      clear CC
      rintro e w14 ⟨rfl, b⟩
      replace B0 := Lib.hid (B0.out.trans (b.mono B0.out.size))
      replace HYa := Lib.hid (HYa.out.below b)
      replace HYb := Lib.hid (HYb.out.below b)
      replace Hbi := Lib.hid (Hbi.out.below b)
      replace Hbs := Lib.hid (Hbs.out.below b)
      clear b
      refine ⟨_, rfl, ?_⟩
      refine Sp.L.pure (by kernel_rfl) (Sp.Runs.move rfl) ?_
      refine Sp.L.pure (by kernel_rfl) (Sp.Runs.extract rfl rfl) ?_
      refine Sp.L.pure (by kernel_rfl) (Sp.Runs.extract rfl rfl) ?_
      refine Sp.L.pure (by kernel_rfl) (Sp.Runs.assign rfl) ?_
      refine Sp.L.pure (by kernel_rfl) (Sp.Runs.assign rfl) ?_
      refine Sp.L.nil ?_
      refine hK32 _ _ (Sp.Cd.sub (S' := [(1, _), (20, _), (21, _), (22, _), (23, _), (24, _), (25, _), (26, _), (27, _), (28, _), (29, _), (30, _), (31, _), (32, _)]) ⟨rfl, rfl, rfl, rfl, rfl, rfl, rfl, rfl, rfl, rfl, rfl, rfl, rfl, rfl, trivial⟩ ?_)
      clear hK32 K32
      refine Sp.Cd.seq fun K33 hK33 => ?_
      refine Sp.Cd.region ?_
      refine Sp.L.pure (by kernel_rfl) (Sp.Runs.move rfl) ?_
      refine Sp.L.call (by kernel_rfl) (drawCountByTicks_p w14 xb lb cb' h2 HYb.out) rfl rfl (by kernel_rfl) ?_
      rintro e w15 ⟨m, ticks, wm, wt, rfl, b⟩
      replace B0 := Lib.hid (B0.out.trans (b.mono B0.out.size))
      replace HYa := Lib.hid (HYa.out.below b)
      replace HYb := Lib.hid (HYb.out.below b)
      replace Hbi := Lib.hid (Hbi.out.below b)
      replace Hbs := Lib.hid (Hbs.out.below b)
      clear b
      refine ⟨_, rfl, ?_⟩
      obtain ⟨cb, hcb⟩ : ∃ x, x = cntB m ticks := ⟨_, rfl⟩
      refine Sp.L.pure (by kernel_rfl) (Sp.Runs.move rfl) ?_
      refine Sp.L.pure (by kernel_rfl) (Sp.Runs.extract rfl rfl) ?_
      refine Sp.L.pure (by kernel_rfl) (Sp.Runs.extract rfl rfl) ?_
      refine Sp.L.pure (by kernel_rfl) (Sp.Runs.assign rfl) ?_
      refine Sp.L.pure (by kernel_rfl) (Sp.Runs.assign rfl) ?_
      refine Sp.L.nil ?_
      refine hK33 _ _ (Sp.Cd.sub (S' := [(1, _), (20, _), (21, _), (22, _), (23, _), (24, _), (25, _), (26, _), (27, _), (28, _), (29, _), (30, _), (31, _), (32, _), (33, _), (34, _)]) ⟨rfl, rfl, rfl, rfl, rfl, rfl, rfl, rfl, rfl, rfl, rfl, rfl, rfl, rfl, rfl, rfl, trivial⟩ ?_)
      clear hK33 K33
      refine Sp.Cd.seq fun K34 hK34 => ?_
      refine Sp.Cd.region ?_
      refine Sp.L.pure (by kernel_rfl) (Sp.Runs.move rfl) ?_
      refine Sp.L.pure (by kernel_rfl) (Sp.Runs.move rfl) ?_
      have CC := implCountByTicks_any m ticks w15
      rw [← hcb] at CC
      refine Sp.L.call (by kernel_rfl) (CC) rfl rfl (by kernel_rfl) ?_
      clear CC
      rintro e w16 ⟨rfl, b⟩
      replace B0 := Lib.hid (B0.out.trans (b.mono B0.out.size))
      replace HYa := Lib.hid (HYa.out.below b)
      replace HYb := Lib.hid (HYb.out.below b)
      replace Hbi := Lib.hid (Hbi.out.below b)
      replace Hbs := Lib.hid (Hbs.out.below b)
      clear b
      refine ⟨_, rfl, ?_⟩
      refine Sp.L.pure (by kernel_rfl) (Sp.Runs.move rfl) ?_
      refine Sp.L.pure (by kernel_rfl) (Sp.Runs.extract rfl rfl) ?_
      refine Sp.L.pure (by kernel_rfl) (Sp.Runs.extract rfl rfl) ?_
      refine Sp.L.pure (by kernel_rfl) (Sp.Runs.assign rfl) ?_
      refine Sp.L.pure (by kernel_rfl) (Sp.Runs.assign rfl) ?_
      refine Sp.L.nil ?_
      refine hK34 _ _ (Sp.Cd.sub (S' := [(1, _), (20, _), (21, _), (22, _), (23, _), (24, _), (25, _), (26, _), (27, _), (28, _), (29, _), (30, _), (31, _), (32, _), (33, _), (34, _), (35, _), (36, _)]) ⟨rfl, rfl, rfl, rfl, rfl, rfl, rfl, rfl, rfl, rfl, rfl, rfl, rfl, rfl, rfl, rfl, rfl, rfl, trivial⟩ ?_)
      clear hK34 K34
      refine Sp.Cd.seq fun K35 hK35 => ?_
      refine Sp.Cd.region ?_
      refine Sp.L.pure (by kernel_rfl) (Sp.Runs.move rfl) ?_
      refine Sp.L.pure (by kernel_rfl) (Sp.Runs.move rfl) ?_
      have CC := specCountByTicks_any m ticks w16
      rw [← hcb] at CC
      refine Sp.L.call (by kernel_rfl) (CC) rfl rfl (by kernel_rfl) ?_
      clear CC
      rintro e w17 ⟨rfl, b⟩
      replace B0 := Lib.hid (B0.out.trans (b.mono B0.out.size))
      replace HYa := Lib.hid (HYa.out.below b)
      replace HYb := Lib.hid (HYb.out.below b)
      replace Hbi := Lib.hid (Hbi.out.below b)
      replace Hbs := Lib.hid (Hbs.out.below b)
      clear b
      refine ⟨_, rfl, ?_⟩
      refine Sp.L.pure (by kernel_rfl) (Sp.Runs.move rfl) ?_
      refine Sp.L.pure (by kernel_rfl) (Sp.Runs.extract rfl rfl) ?_
      refine Sp.L.pure (by kernel_rfl) (Sp.Runs.extract rfl rfl) ?_
      refine Sp.L.pure (by kernel_rfl) (Sp.Runs.assign rfl) ?_
      refine Sp.L.pure (by kernel_rfl) (Sp.Runs.assign rfl) ?_
      refine Sp.L.nil ?_
      refine hK35 _ _ (Sp.Cd.sub (S' := [(1, _), (20, _), (21, _), (22, _), (23, _), (24, _), (25, _), (26, _), (27, _), (28, _), (29, _), (30, _), (31, _), (32, _), (35, _), (36, _), (37, _), (38, _)]) ⟨rfl, rfl, rfl, rfl, rfl, rfl, rfl, rfl, rfl, rfl, rfl, rfl, rfl, rfl, rfl, rfl, rfl, rfl, trivial⟩ ?_)
      clear hK35 K35
      refine Sp.Cd.seq fun K36 hK36 => ?_
      refine Sp.Cd.region ?_
      refine Sp.L.pure (by kernel_rfl) (Sp.Runs.move rfl) ?_
      refine Sp.L.call (by kernel_rfl) (drawCountAtRest_p w17 xb lb cb' h2 HYb.out) rfl rfl (by kernel_rfl) ?_
      rintro e w18 ⟨k, wk, rfl, b⟩
      replace B0 := Lib.hid (B0.out.trans (b.mono B0.out.size))
      replace HYa := Lib.hid (HYa.out.below b)
      replace HYb := Lib.hid (HYb.out.below b)
      replace Hbi := Lib.hid (Hbi.out.below b)
      replace Hbs := Lib.hid (Hbs.out.below b)
      clear b
      refine ⟨_, rfl, ?_⟩
      obtain ⟨ab, hab⟩ : ∃ x, x = atB k := ⟨_, rfl⟩
      refine Sp.L.pure (by kernel_rfl) (Sp.Runs.assign rfl) ?_
      refine Sp.L.nil ?_
      refine hK36 _ _ (Sp.Cd.sub (S' := [(20, _), (21, _), (22, _), (23, _), (24, _), (25, _), (26, _), (27, _), (28, _), (29, _), (30, _), (31, _), (32, _), (35, _), (36, _), (37, _), (38, _), (39, _)]) ⟨rfl, rfl, rfl, rfl, rfl, rfl, rfl, rfl, rfl, rfl, rfl, rfl, rfl, rfl, rfl, rfl, rfl, rfl, trivial⟩ ?_)
      clear hK36 K36
      refine Sp.Cd.seq fun K37 hK37 => ?_
      refine Sp.Cd.region ?_
      refine Sp.L.pure (by kernel_rfl) (Sp.Runs.move rfl) ?_
      have CC := implCountAtRest_any k w18
      rw [← hab] at CC
      refine Sp.L.call (by kernel_rfl) (CC) rfl rfl (by kernel_rfl) ?_
      clear CC
      rintro e w19 ⟨rfl, b⟩
      replace B0 := Lib.hid (B0.out.trans (b.mono B0.out.size))
      replace HYa := Lib.hid (HYa.out.below b)
      replace HYb := Lib.hid (HYb.out.below b)
      replace Hbi := Lib.hid (Hbi.out.below b)
      replace Hbs := Lib.hid (Hbs.out.below b)
      clear b
      refine ⟨_, rfl, ?_⟩
      refine Sp.L.pure (by kernel_rfl) (Sp.Runs.move rfl) ?_
      refine Sp.L.pure (by kernel_rfl) (Sp.Runs.extract rfl rfl) ?_
      refine Sp.L.pure (by kernel_rfl) (Sp.Runs.extract rfl rfl) ?_
      refine Sp.L.pure (by kernel_rfl) (Sp.Runs.assign rfl) ?_
      refine Sp.L.pure (by kernel_rfl) (Sp.Runs.assign rfl) ?_
      refine Sp.L.nil ?_
      refine hK37 _ _ (Sp.Cd.sub (S' := [(20, _), (21, _), (22, _), (23, _), (24, _), (25, _), (26, _), (27, _), (28, _), (29, _), (30, _), (31, _), (32, _), (35, _), (36, _), (37, _), (38, _), (39, _), (40, _), (41, _)]) ⟨rfl, rfl, rfl, rfl, rfl, rfl, rfl, rfl, rfl, rfl, rfl, rfl, rfl, rfl, rfl, rfl, rfl, rfl, rfl, rfl, trivial⟩ ?_)
      clear hK37 K37
      refine Sp.Cd.seq fun K38 hK38 => ?_
      refine Sp.Cd.region ?_
      refine Sp.L.pure (by kernel_rfl) (Sp.Runs.move rfl) ?_
      have CC := specCountAtRest_any k w19
      rw [← hab] at CC
      refine Sp.L.call (by kernel_rfl) (CC) rfl rfl (by kernel_rfl) ?_
      clear CC
      rintro e w20 ⟨rfl, b⟩
      replace B0 := Lib.hid (B0.out.trans (b.mono B0.out.size))
      replace HYa := Lib.hid (HYa.out.below b)
      replace HYb := Lib.hid (HYb.out.below b)
      replace Hbi := Lib.hid (Hbi.out.below b)
      replace Hbs := Lib.hid (Hbs.out.below b)
      clear b
      refine ⟨_, rfl, ?_⟩
      refine Sp.L.pure (by kernel_rfl) (Sp.Runs.move rfl) ?_
      refine Sp.L.pure (by kernel_rfl) (Sp.Runs.extract rfl rfl) ?_
      refine Sp.L.pure (by kernel_rfl) (Sp.Runs.extract rfl rfl) ?_
      refine Sp.L.pure (by kernel_rfl) (Sp.Runs.assign rfl) ?_
      refine Sp.L.pure (by kernel_rfl) (Sp.Runs.assign rfl) ?_
      refine Sp.L.nil ?_
      refine hK38 _ _ (Sp.Cd.sub (S' := [(20, _), (21, _), (22, _), (23, _), (24, _), (25, _), (26, _), (27, _), (28, _), (29, _), (30, _), (31, _), (32, _), (35, _), (36, _), (37, _), (38, _), (39, _), (40, _), (41, _), (42, _), (43, _)]) ⟨rfl, rfl, rfl, rfl, rfl, rfl, rfl, rfl, rfl, rfl, rfl, rfl, rfl, rfl, rfl, rfl, rfl, rfl, rfl, rfl, rfl, rfl, trivial⟩ ?_)
      clear hK38 K38
      refine Sp.Cd.cutK [(20, _), (21, _), (22, _), (25, _), (29, _)] ⟨rfl, rfl, rfl, rfl, rfl, trivial⟩ ?_ ?_
      · have B1 : Hid (Below w20.heap.size w20 w20) := Lib.hid (Below.refl _ _)
        rcases ab with _ | _
        · refine Sp.Cd.seq fun K39 hK39 => ?_
          refine Sp.Cd.region ?_
          refine Sp.L.pure (by kernel_rfl) (Sp.Runs.move rfl) ?_
          refine Sp.L.pure (by kernel_rfl) (Sp.Runs.move rfl) ?_
          refine Sp.L.pure (by kernel_rfl) (Sp.Runs.neBF Try.underlying4 rfl rfl (by first | rfl | assumption)) ?_
          refine Sp.L.pure (by kernel_rfl) (Sp.Runs.move rfl) ?_
          refine Sp.L.pure (by kernel_rfl) (Sp.Runs.move rfl) ?_
          refine Sp.L.pure (by kernel_rfl) (Sp.Runs.move rfl) ?_
          refine Sp.L.pure (by kernel_rfl) (Sp.Runs.neIF rfl rfl (by first | rfl | assumption | omega)) ?_
          refine Sp.L.pure (by kernel_rfl) (Sp.Runs.pickF rfl rfl) ?_
          refine Sp.L.pure (by kernel_rfl) (Sp.Runs.move rfl) ?_
          refine Sp.L.pure (by kernel_rfl) (Sp.Runs.move rfl) ?_
          refine Sp.L.pure (by kernel_rfl) (Sp.Runs.move rfl) ?_
          refine Sp.L.pure (by kernel_rfl) (Sp.Runs.neBF Try.underlying4 rfl rfl (by first | rfl | assumption)) ?_
          refine Sp.L.pure (by kernel_rfl) (Sp.Runs.pickF rfl rfl) ?_
          refine Sp.L.pure (by kernel_rfl) (Sp.Runs.move rfl) ?_
          refine Sp.L.pure (by kernel_rfl) (Sp.Runs.move rfl) ?_
          refine Sp.L.pure (by kernel_rfl) (Sp.Runs.move rfl) ?_
          refine Sp.L.pure (by kernel_rfl) (Sp.Runs.neSF rfl rfl (by first | rfl | assumption)) ?_
          refine Sp.L.pure (by kernel_rfl) (Sp.Runs.pickF rfl rfl) ?_
          refine Sp.L.pure (by kernel_rfl) (Sp.Runs.move rfl) ?_
          refine Sp.L.pure (by kernel_rfl) (Sp.Runs.move rfl) ?_
          refine Sp.L.pure (by kernel_rfl) (Sp.Runs.move rfl) ?_
          refine Sp.L.pure (by kernel_rfl) (Sp.Runs.neBF Try.underlying4 rfl rfl (by first | rfl | assumption)) ?_
          refine Sp.L.pure (by kernel_rfl) (Sp.Runs.pickF rfl rfl) ?_
          refine Sp.L.pure (by kernel_rfl) (Sp.Runs.move rfl) ?_
          refine Sp.L.pure (by kernel_rfl) (Sp.Runs.move rfl) ?_
          refine Sp.L.pure (by kernel_rfl) (Sp.Runs.move rfl) ?_
          refine Sp.L.pure (by kernel_rfl) (Sp.Runs.neIF rfl rfl (by first | rfl | assumption | omega)) ?_
          refine Sp.L.pure (by kernel_rfl) (Sp.Runs.pickF rfl rfl) ?_
          refine Sp.L.pure (by kernel_rfl) (Sp.Runs.move rfl) ?_
          refine Sp.L.pure (by kernel_rfl) (Sp.Runs.move rfl) ?_
          refine Sp.L.pure (by kernel_rfl) (Sp.Runs.move rfl) ?_
          refine Sp.L.pure (by kernel_rfl) (Sp.Runs.neBF Try.underlying4 rfl rfl (by first | rfl | assumption)) ?_
          refine Sp.L.pure (by kernel_rfl) (Sp.Runs.pickF rfl rfl) ?_
          refine Sp.L.pure (by kernel_rfl) (Sp.Runs.move rfl) ?_
          refine Sp.L.pure (by kernel_rfl) (Sp.Runs.move rfl) ?_
          refine Sp.L.pure (by kernel_rfl) (Sp.Runs.move rfl) ?_
          refine Sp.L.pure (by kernel_rfl) (Sp.Runs.neIF rfl rfl (by first | rfl | assumption | omega)) ?_
          refine Sp.L.pure (by kernel_rfl) (Sp.Runs.pickF rfl rfl) ?_
          refine Sp.L.pure (by kernel_rfl) (Sp.Runs.move rfl) ?_
          refine Sp.L.pure (by kernel_rfl) (Sp.Runs.move rfl) ?_
          refine Sp.L.pure (by kernel_rfl) (Sp.Runs.move rfl) ?_
          refine Sp.L.pure (by kernel_rfl) (Sp.Runs.neBF Try.underlying4 rfl rfl (by decide)) ?_
          refine Sp.L.pure (by kernel_rfl) (Sp.Runs.pickF rfl rfl) ?_
          refine Sp.L.pure (by kernel_rfl) (Sp.Runs.move rfl) ?_
          refine Sp.L.pure (by kernel_rfl) (Sp.Runs.move rfl) ?_
          refine Sp.L.pure (by kernel_rfl) (Sp.Runs.move rfl) ?_
          refine Sp.L.pure (by kernel_rfl) (Sp.Runs.neIF rfl rfl (by first | rfl | assumption | omega)) ?_
          refine Sp.L.pure (by kernel_rfl) (Sp.Runs.pickF rfl rfl) ?_
          refine Sp.L.pure (by kernel_rfl) (Sp.Runs.move rfl) ?_
          refine Sp.L.pure (by kernel_rfl) (Sp.Runs.move rfl) ?_
          refine Sp.L.pure (by kernel_rfl) (Sp.Runs.move rfl) ?_
          refine Sp.L.pure (by kernel_rfl) (Sp.Runs.neBF Try.underlying4 rfl rfl (by first | rfl | assumption)) ?_
          refine Sp.L.pure (by kernel_rfl) (Sp.Runs.pickF rfl rfl) ?_
          refine Sp.L.pure (by kernel_rfl) (Sp.Runs.move rfl) ?_
          refine Sp.L.pure (by kernel_rfl) (Sp.Runs.move rfl) ?_
          refine Sp.L.pure (by kernel_rfl) (Sp.Runs.move rfl) ?_
          refine Sp.L.pure (by kernel_rfl) (Sp.Runs.neBF Try.underlying4 rfl rfl (by first | rfl | assumption)) ?_
          refine Sp.L.pure (by kernel_rfl) (Sp.Runs.pickF rfl rfl) ?_
          refine Sp.L.pure (by kernel_rfl) (Sp.Runs.move rfl) ?_
          refine Sp.L.pure (by kernel_rfl) (Sp.Runs.move rfl) ?_
          refine Sp.L.pure (by kernel_rfl) (Sp.Runs.move rfl) ?_
          refine Sp.L.skip (by kernel_rfl) ?_
          refine Sp.L.skip (by kernel_rfl) ?_
          refine Sp.L.skip (by kernel_rfl) ?_
          refine Sp.L.skip (by kernel_rfl) ?_
          refine Sp.L.pure (by kernel_rfl) (Sp.Runs.pickF rfl rfl) ?_
          refine Sp.L.pure (by kernel_rfl) (Sp.Runs.pickF rfl rfl) ?_
          refine Sp.L.nil ?_
          refine hK39 _ _ (Sp.Cd.sub (S' := [(20, _), (21, _), (22, _), (25, _), (29, _), (284, _)]) ⟨rfl, rfl, rfl, rfl, rfl, rfl, trivial⟩ ?_)
          clear hK39 K39
          refine Sp.Cd.condF rfl ?_
          refine Sp.Cd.skip ?_
          refine Sp.Nx.post () ⟨rfl, rfl, rfl, rfl, rfl, trivial⟩ (B1.out)
        · have hat : atI k = k + 1 := by unfold atI; rw [← hab]; rfl
          have hkb : 1 ≤ k ∧ k ≤ 60 := by unfold atB at hab; rw [eq_comm, decide_eq_true_eq] at hab; exact hab
          refine Sp.Cd.seq fun K40 hK40 => ?_
          refine Sp.Cd.region ?_
          refine Sp.L.pure (by kernel_rfl) (Sp.Runs.move rfl) ?_
          refine Sp.L.pure (by kernel_rfl) (Sp.Runs.move rfl) ?_
          refine Sp.L.pure (by kernel_rfl) (Sp.Runs.neBF Try.underlying4 rfl rfl (by first | rfl | assumption)) ?_
          refine Sp.L.pure (by kernel_rfl) (Sp.Runs.move rfl) ?_
          refine Sp.L.pure (by kernel_rfl) (Sp.Runs.move rfl) ?_
          refine Sp.L.pure (by kernel_rfl) (Sp.Runs.move rfl) ?_
          refine Sp.L.pure (by kernel_rfl) (Sp.Runs.neIF rfl rfl (by first | rfl | assumption | omega)) ?_
          refine Sp.L.pure (by kernel_rfl) (Sp.Runs.pickF rfl rfl) ?_
          refine Sp.L.pure (by kernel_rfl) (Sp.Runs.move rfl) ?_
          refine Sp.L.pure (by kernel_rfl) (Sp.Runs.move rfl) ?_
          refine Sp.L.pure (by kernel_rfl) (Sp.Runs.move rfl) ?_
          refine Sp.L.pure (by kernel_rfl) (Sp.Runs.neBF Try.underlying4 rfl rfl (by first | rfl | assumption)) ?_
          refine Sp.L.pure (by kernel_rfl) (Sp.Runs.pickF rfl rfl) ?_
          refine Sp.L.pure (by kernel_rfl) (Sp.Runs.move rfl) ?_
          refine Sp.L.pure (by kernel_rfl) (Sp.Runs.move rfl) ?_
          refine Sp.L.pure (by kernel_rfl) (Sp.Runs.move rfl) ?_
          refine Sp.L.pure (by kernel_rfl) (Sp.Runs.neSF rfl rfl (by first | rfl | assumption)) ?_
          refine Sp.L.pure (by kernel_rfl) (Sp.Runs.pickF rfl rfl) ?_
          refine Sp.L.pure (by kernel_rfl) (Sp.Runs.move rfl) ?_
          refine Sp.L.pure (by kernel_rfl) (Sp.Runs.move rfl) ?_
          refine Sp.L.pure (by kernel_rfl) (Sp.Runs.move rfl) ?_
          refine Sp.L.pure (by kernel_rfl) (Sp.Runs.neBF Try.underlying4 rfl rfl (by first | rfl | assumption)) ?_
          refine Sp.L.pure (by kernel_rfl) (Sp.Runs.pickF rfl rfl) ?_
          refine Sp.L.pure (by kernel_rfl) (Sp.Runs.move rfl) ?_
          refine Sp.L.pure (by kernel_rfl) (Sp.Runs.move rfl) ?_
          refine Sp.L.pure (by kernel_rfl) (Sp.Runs.move rfl) ?_
          refine Sp.L.pure (by kernel_rfl) (Sp.Runs.neIF rfl rfl (by first | rfl | assumption | omega)) ?_
          refine Sp.L.pure (by kernel_rfl) (Sp.Runs.pickF rfl rfl) ?_
          refine Sp.L.pure (by kernel_rfl) (Sp.Runs.move rfl) ?_
          refine Sp.L.pure (by kernel_rfl) (Sp.Runs.move rfl) ?_
          refine Sp.L.pure (by kernel_rfl) (Sp.Runs.move rfl) ?_
          refine Sp.L.pure (by kernel_rfl) (Sp.Runs.neBF Try.underlying4 rfl rfl (by first | rfl | assumption)) ?_
          refine Sp.L.pure (by kernel_rfl) (Sp.Runs.pickF rfl rfl) ?_
          refine Sp.L.pure (by kernel_rfl) (Sp.Runs.move rfl) ?_
          refine Sp.L.pure (by kernel_rfl) (Sp.Runs.move rfl) ?_
          refine Sp.L.pure (by kernel_rfl) (Sp.Runs.move rfl) ?_
          refine Sp.L.pure (by kernel_rfl) (Sp.Runs.neIF rfl rfl (by first | rfl | assumption | omega)) ?_
          refine Sp.L.pure (by kernel_rfl) (Sp.Runs.pickF rfl rfl) ?_
          refine Sp.L.pure (by kernel_rfl) (Sp.Runs.move rfl) ?_
          refine Sp.L.pure (by kernel_rfl) (Sp.Runs.move rfl) ?_
          refine Sp.L.pure (by kernel_rfl) (Sp.Runs.move rfl) ?_
          refine Sp.L.pure (by kernel_rfl) (Sp.Runs.neBF Try.underlying4 rfl rfl (by decide)) ?_
          refine Sp.L.pure (by kernel_rfl) (Sp.Runs.pickF rfl rfl) ?_
          refine Sp.L.pure (by kernel_rfl) (Sp.Runs.move rfl) ?_
          refine Sp.L.pure (by kernel_rfl) (Sp.Runs.move rfl) ?_
          refine Sp.L.pure (by kernel_rfl) (Sp.Runs.move rfl) ?_
          refine Sp.L.pure (by kernel_rfl) (Sp.Runs.neIF rfl rfl (by first | rfl | assumption | omega)) ?_
          refine Sp.L.pure (by kernel_rfl) (Sp.Runs.pickF rfl rfl) ?_
          refine Sp.L.pure (by kernel_rfl) (Sp.Runs.move rfl) ?_
          refine Sp.L.pure (by kernel_rfl) (Sp.Runs.move rfl) ?_
          refine Sp.L.pure (by kernel_rfl) (Sp.Runs.move rfl) ?_
          refine Sp.L.pure (by kernel_rfl) (Sp.Runs.neBF Try.underlying4 rfl rfl (by first | rfl | assumption)) ?_
          refine Sp.L.pure (by kernel_rfl) (Sp.Runs.pickF rfl rfl) ?_
          refine Sp.L.pure (by kernel_rfl) (Sp.Runs.move rfl) ?_
          refine Sp.L.pure (by kernel_rfl) (Sp.Runs.move rfl) ?_
          refine Sp.L.pure (by kernel_rfl) (Sp.Runs.move rfl) ?_
          refine Sp.L.pure (by kernel_rfl) (Sp.Runs.neBF Try.underlying4 rfl rfl (by first | rfl | assumption)) ?_
          refine Sp.L.pure (by kernel_rfl) (Sp.Runs.pickF rfl rfl) ?_
          refine Sp.L.pure (by kernel_rfl) (Sp.Runs.move rfl) ?_
          refine Sp.L.pure (by kernel_rfl) (Sp.Runs.move rfl) ?_
          refine Sp.L.pure (by kernel_rfl) (Sp.Runs.move rfl) ?_
          refine Sp.L.pure (by kernel_rfl) (Sp.Runs.move rfl) ?_
          refine Sp.L.pure (by kernel_rfl) (Sp.Runs.move rfl) ?_
          refine Sp.L.pure (by kernel_rfl) (Sp.Runs.addI rfl rfl (Sp.wrapI (by omega) (by omega))) ?_
          refine Sp.L.pure (by kernel_rfl) (Sp.Runs.neIF rfl rfl (by first | rfl | assumption | omega)) ?_
          refine Sp.L.pure (by kernel_rfl) (Sp.Runs.pickT rfl rfl) ?_
          refine Sp.L.pure (by kernel_rfl) (Sp.Runs.pickF rfl rfl) ?_
          refine Sp.L.nil ?_
          refine hK40 _ _ (Sp.Cd.sub (S' := [(20, _), (21, _), (22, _), (25, _), (29, _), (284, _)]) ⟨rfl, rfl, rfl, rfl, rfl, rfl, trivial⟩ ?_)
          clear hK40 K40
          refine Sp.Cd.condF rfl ?_
          refine Sp.Cd.skip ?_
          refine Sp.Nx.post () ⟨rfl, rfl, rfl, rfl, rfl, trivial⟩ (B1.out)
      · intro w21 b
        replace B0 := Lib.hid (B0.out.trans (b.mono B0.out.size))
        replace HYa := Lib.hid (HYa.out.below b)
        replace HYb := Lib.hid (HYb.out.below b)
        replace Hbi := Lib.hid (Hbi.out.below b)
        replace Hbs := Lib.hid (Hbs.out.below b)
        clear b
        refine Sp.Cd.cutK [] trivial ?_ ?_
        · have B1 : Hid (Below w21.heap.size w21 w21) := Lib.hid (Below.refl _ _)
          rcases few with _ | _
          · refine Sp.Cd.seq fun K41 hK41 => ?_
            refine Sp.Cd.region ?_
            refine Sp.L.pure (by kernel_rfl) (Sp.Runs.move rfl) ?_
            refine Sp.L.nil ?_
            refine hK41 _ _ (Sp.Cd.sub (S' := [(20, _), (21, _), (25, _), (29, _), (285, _)]) ⟨rfl, rfl, rfl, rfl, rfl, trivial⟩ ?_)
            clear hK41 K41
            refine Sp.Cd.condF rfl ?_
            refine Sp.Cd.skip ?_
            refine Sp.Nx.post () trivial (B1.out)
          · obtain ⟨NN, hN, n1, n2⟩ := few_of hfew.symm
            subst hN
            have hmost := fewI_yes C1.longest NN n1 n2
            have hsum := fewI_yes C1.sumTicks NN n1 n2
            have hfst := firstS_yes NN n1 n2
            have F1 := fun w => C1.implTicks_yes (Rw.make NN (firstK NN)) (by rw [Rw.length_make]; exact n1) (by rw [Rw.length_make]; omega) w
            rw [← hfst, first_ticks] at F1
            have hfl : ((firstS (NN : Int)).size : Int) = (NN : Int) := by rw [hfst, Rw.size_str, Rw.length_make]
            have hml := longest_le NN n1
            have hs1 := cntTo_all NN n1
            have hs2 := wgtTo_all NN n1
            have hs3 := pow12 NN n2
            have hs4 := C1.sumTicks_le NN n2
            refine Sp.Cd.seq fun K42 hK42 => ?_
            refine Sp.Cd.region ?_
            refine Sp.L.pure (by kernel_rfl) (Sp.Runs.move rfl) ?_
            refine Sp.L.nil ?_
            refine hK42 _ _ (Sp.Cd.sub (S' := [(20, _), (21, _), (25, _), (29, _), (285, _)]) ⟨rfl, rfl, rfl, rfl, rfl, trivial⟩ ?_)
            clear hK42 K42
            refine Sp.Cd.condT rfl ?_
            refine Sp.Cd.seq fun K43 hK43 => ?_
            refine Sp.Cd.region ?_
            refine Sp.L.pure (by kernel_rfl) (Sp.Runs.move rfl) ?_
            refine Sp.L.call (by kernel_rfl) (F1 w21) rfl rfl (by kernel_rfl) ?_
            rintro e w22 ⟨rfl, b⟩
            replace B0 := Lib.hid (B0.out.trans (b.mono B0.out.size))
            replace B1 := Lib.hid (B1.out.trans (b.mono B1.out.size))
            replace HYa := Lib.hid (HYa.out.below b)
            replace HYb := Lib.hid (HYb.out.below b)
            replace Hbi := Lib.hid (Hbi.out.below b)
            replace Hbs := Lib.hid (Hbs.out.below b)
            clear b
            refine ⟨_, rfl, ?_⟩
            refine Sp.L.pure (by kernel_rfl) (Sp.Runs.move rfl) ?_
            refine Sp.L.pure (by kernel_rfl) (Sp.Runs.extract rfl rfl) ?_
            refine Sp.L.pure (by kernel_rfl) (Sp.Runs.extract rfl rfl) ?_
            refine Sp.L.pure (by kernel_rfl) (Sp.Runs.assign rfl) ?_
            refine Sp.L.pure (by kernel_rfl) (Sp.Runs.assign rfl) ?_
            refine Sp.L.nil ?_
            refine hK43 _ _ (Sp.Cd.sub (S' := [(20, _), (21, _), (25, _), (29, _), (44, _), (45, _)]) ⟨rfl, rfl, rfl, rfl, rfl, rfl, trivial⟩ ?_)
            clear hK43 K43
            refine Sp.Cd.seq fun K44 hK44 => ?_
            refine Sp.Cd.region ?_
            refine Sp.L.pure (by kernel_rfl) (Sp.Runs.assign rfl) ?_
            refine Sp.L.pure (by kernel_rfl) (Sp.Runs.assign rfl) ?_
            refine Sp.L.nil ?_
            refine hK44 _ _ (Sp.Cd.sub (S' := [(20, _), (21, _), (25, _), (29, _), (44, _), (45, _), (46, _), (47, _)]) ⟨rfl, rfl, rfl, rfl, rfl, rfl, rfl, rfl, trivial⟩ ?_)
            clear hK44 K44
            refine Sp.Cd.seq fun K45 hK45 => ?_
            refine Sp.Cd.seq fun K46 hK46 => ?_
            refine Sp.Cd.region ?_
            refine Sp.L.pure (by kernel_rfl) (Sp.Runs.assign rfl) ?_
            refine Sp.L.nil ?_
            refine hK46 _ _ (Sp.Cd.sub (S' := [(20, _), (21, _), (25, _), (29, _), (44, _), (45, _), (46, _), (47, _), (48, _)]) ⟨rfl, rfl, rfl, rfl, rfl, rfl, rfl, rfl, rfl, trivial⟩ ?_)
            clear hK46 K46
            refine Sp.Cd.block ?_
            have B2 : Hid (Below w22.heap.size w22 w22) := Lib.hid (Below.refl _ _)
            refine Sp.Cd.loop (ι := Nat) [(20, _), (21, _), (25, _), (29, _), (44, _), (45, _)] (fun t => [(46, .int .i64 (cntTo NN t : Nat)), (47, .int .i64 (wgtTo NN t : Nat)), (48, .int .i64 (t : Nat))]) (fun t w' => Hid (Below w22.heap.size w22 w') ∧ (t ≤ NN + 1)) (fun t => NN + 1 - t) 0 ⟨rfl, rfl, rfl, rfl, rfl, rfl, rfl, rfl, rfl, trivial⟩ ⟨B2, Nat.zero_le _⟩ ?_
            clear B2
            rintro t w23 ⟨B2, hrel⟩
            have b := B2.out
            replace B0 := Lib.hid (B0.out.trans (b.mono B0.out.size))
            replace B1 := Lib.hid (B1.out.trans (b.mono B1.out.size))
            replace HYa := Lib.hid (HYa.out.below b)
            replace HYb := Lib.hid (HYb.out.below b)
            replace Hbi := Lib.hid (Hbi.out.below b)
            replace Hbs := Lib.hid (Hbs.out.below b)
            clear b
            refine Sp.Cd.sub (S' := [(46, _), (47, _), (48, _), (20, _), (21, _), (25, _), (29, _), (44, _), (45, _)]) ⟨rfl, rfl, rfl, rfl, rfl, rfl, rfl, rfl, rfl, trivial⟩ ?_
            by_cases hlt2 : t ≤ NN
            · have T2 := fun w => implCountByTicks_any (NN : Int) (t : Int) w
              rw [cntI_yes NN t n1 n2 (by omega), cntB_yes NN t n1 n2 (by omega)] at T2
              have c1 := cntTo_le NN t n1 n2 (by omega)
              have c2 := wgtTo_le NN t n1 n2 (by omega)
              have c3 := cnt_le NN t n2
              have c4 := cntTo_le NN (t + 1) n1 n2 (by omega)
              have c5 := wgtTo_le NN (t + 1) n1 n2 (by omega)
              have c6 : cntTo NN (t + 1) = cntTo NN t + C1.countTicks NN t := rfl
              have c7 : wgtTo NN (t + 1) = wgtTo NN t + t * C1.countTicks NN t := rfl
              have c8 : ((t * C1.countTicks NN t : Nat) : Int) = (t : Int) * (C1.countTicks NN t : Int) := by push_cast; rfl
              refine Sp.Cd.seq fun K47 hK47 => ?_
              refine Sp.Cd.seq fun K48 hK48 => ?_
              refine Sp.Cd.region ?_
              refine Sp.L.pure (by kernel_rfl) (Sp.Runs.move rfl) ?_
              refine Sp.L.pure (by kernel_rfl) (Sp.Runs.move rfl) ?_
              refine Sp.L.pure (by kernel_rfl) (Sp.Runs.leIT rfl rfl (by omega)) ?_
              refine Sp.L.nil ?_
              refine hK48 _ _ (Sp.Cd.sub (S' := [(20, _), (21, _), (25, _), (29, _), (44, _), (45, _), (46, _), (47, _), (48, _), (293, _)]) ⟨rfl, rfl, rfl, rfl, rfl, rfl, rfl, rfl, rfl, rfl, trivial⟩ ?_)
              clear hK48 K48
              refine Sp.Cd.condT rfl ?_
              refine Sp.Cd.skip ?_
              refine hK47 _ _ (Sp.Cd.sub (S' := [(20, _), (21, _), (25, _), (29, _), (44, _), (45, _), (46, _), (47, _), (48, _)]) ⟨rfl, rfl, rfl, rfl, rfl, rfl, rfl, rfl, rfl, trivial⟩ ?_)
              clear hK47 K47
              refine Sp.Cd.seq fun K49 hK49 => ?_
              refine Sp.Cd.block ?_
              refine Sp.Cd.seq fun K50 hK50 => ?_
              refine Sp.Cd.region ?_
              refine Sp.L.pure (by kernel_rfl) (Sp.Runs.move rfl) ?_
              refine Sp.L.pure (by kernel_rfl) (Sp.Runs.move rfl) ?_
              refine Sp.L.call (by kernel_rfl) (T2 w23) rfl rfl (by kernel_rfl) ?_
              rintro e w24 ⟨rfl, b⟩
              replace B0 := Lib.hid (B0.out.trans (b.mono B0.out.size))
              replace B1 := Lib.hid (B1.out.trans (b.mono B1.out.size))
              replace B2 := Lib.hid (B2.out.trans (b.mono B2.out.size))
              replace HYa := Lib.hid (HYa.out.below b)
              replace HYb := Lib.hid (HYb.out.below b)
              replace Hbi := Lib.hid (Hbi.out.below b)
              replace Hbs := Lib.hid (Hbs.out.below b)
              clear b
              refine ⟨_, rfl, ?_⟩
              refine Sp.L.pure (by kernel_rfl) (Sp.Runs.move rfl) ?_
              refine Sp.L.pure (by kernel_rfl) (Sp.Runs.extract rfl rfl) ?_
              refine Sp.L.pure (by kernel_rfl) (Sp.Runs.extract rfl rfl) ?_
              refine Sp.L.pure (by kernel_rfl) (Sp.Runs.assign rfl) ?_
              refine Sp.L.pure (by kernel_rfl) (Sp.Runs.assign rfl) ?_
              refine Sp.L.nil ?_
              refine hK50 _ _ (Sp.Cd.sub (S' := [(20, _), (21, _), (25, _), (29, _), (44, _), (45, _), (46, _), (47, _), (48, _), (49, _), (50, _)]) ⟨rfl, rfl, rfl, rfl, rfl, rfl, rfl, rfl, rfl, rfl, rfl, trivial⟩ ?_)
              clear hK50 K50
              refine Sp.Cd.cutK [(20, _), (21, _), (25, _), (29, _), (44, _), (45, _), (46, _), (47, _), (48, _), (49, _)] ⟨rfl, rfl, rfl, rfl, rfl, rfl, rfl, rfl, rfl, rfl, trivial⟩ ?_ ?_
              · have B3 : Hid (Below w24.heap.size w24 w24) := Lib.hid (Below.refl _ _)
                rcases Nat.lt_trichotomy t (C1.longest NN) with hc | hc | hc
                · by_cases h0 : t = 0
                  · have hz := Rw.rest_many NN n2
                    subst h0
                    have hz2 : C1.countTicks NN 0 = NN + 1 := hz
                    refine Sp.Cd.seq fun K51 hK51 => ?_
                    refine Sp.Cd.region ?_
                    refine Sp.L.pure (by kernel_rfl) (Sp.Runs.move rfl) ?_
                    refine Sp.L.pure (by kernel_rfl) (Sp.Runs.notF rfl) ?_
                    refine Sp.L.pure (by kernel_rfl) (Sp.Runs.move rfl) ?_
                    refine Sp.L.pure (by kernel_rfl) (Sp.Runs.move rfl) ?_
                    refine Sp.L.pure (by kernel_rfl) (Sp.Runs.move rfl) ?_
                    refine Sp.L.pure (by kernel_rfl) (Sp.Runs.gtIF rfl rfl (by omega)) ?_
                    refine Sp.L.pure (by kernel_rfl) (Sp.Runs.move rfl) ?_
                    refine Sp.L.skip (by kernel_rfl) ?_
                    refine Sp.L.skip (by kernel_rfl) ?_
                    refine Sp.L.pure (by kernel_rfl) (Sp.Runs.pickF rfl rfl) ?_
                    refine Sp.L.pure (by kernel_rfl) (Sp.Runs.pickF rfl rfl) ?_
                    refine Sp.L.pure (by kernel_rfl) (Sp.Runs.move rfl) ?_
                    refine Sp.L.pure (by kernel_rfl) (Sp.Runs.move rfl) ?_
                    refine Sp.L.pure (by kernel_rfl) (Sp.Runs.move rfl) ?_
                    refine Sp.L.pure (by kernel_rfl) (Sp.Runs.eqIF rfl rfl (by omega)) ?_
                    refine Sp.L.pure (by kernel_rfl) (Sp.Runs.move rfl) ?_
                    refine Sp.L.skip (by kernel_rfl) ?_
                    refine Sp.L.skip (by kernel_rfl) ?_
                    refine Sp.L.pure (by kernel_rfl) (Sp.Runs.pickF rfl rfl) ?_
                    refine Sp.L.pure (by kernel_rfl) (Sp.Runs.pickF rfl rfl) ?_
                    refine Sp.L.pure (by kernel_rfl) (Sp.Runs.move rfl) ?_
                    refine Sp.L.pure (by kernel_rfl) (Sp.Runs.move rfl) ?_
                    refine Sp.L.pure (by kernel_rfl) (Sp.Runs.eqIT rfl rfl (by omega)) ?_
                    refine Sp.L.pure (by kernel_rfl) (Sp.Runs.move rfl) ?_
                    refine Sp.L.pure (by kernel_rfl) (Sp.Runs.move rfl) ?_
                    refine Sp.L.pure (by kernel_rfl) (Sp.Runs.move rfl) ?_
                    refine Sp.L.pure (by kernel_rfl) (Sp.Runs.addI rfl rfl (Sp.wrapI (by omega) (by omega))) ?_
                    refine Sp.L.pure (by kernel_rfl) (Sp.Runs.neIF rfl rfl (by omega)) ?_
                    refine Sp.L.pure (by kernel_rfl) (Sp.Runs.pickT rfl rfl) ?_
                    refine Sp.L.pure (by kernel_rfl) (Sp.Runs.pickF rfl rfl) ?_
                    refine Sp.L.nil ?_
                    refine hK51 _ _ (Sp.Cd.sub (S' := [(20, _), (21, _), (25, _), (29, _), (44, _), (45, _), (46, _), (47, _), (48, _), (49, _), (331, _)]) ⟨rfl, rfl, rfl, rfl, rfl, rfl, rfl, rfl, rfl, rfl, rfl, trivial⟩ ?_)
                    clear hK51 K51
                    refine Sp.Cd.condF rfl ?_
                    refine Sp.Cd.skip ?_
                    refine Sp.Nx.post () ⟨rfl, rfl, rfl, rfl, rfl, rfl, rfl, rfl, rfl, rfl, trivial⟩ (B3.out)
                  · refine Sp.Cd.seq fun K52 hK52 => ?_
                    refine Sp.Cd.region ?_
                    refine Sp.L.pure (by kernel_rfl) (Sp.Runs.move rfl) ?_
                    refine Sp.L.pure (by kernel_rfl) (Sp.Runs.notF rfl) ?_
                    refine Sp.L.pure (by kernel_rfl) (Sp.Runs.move rfl) ?_
                    refine Sp.L.pure (by kernel_rfl) (Sp.Runs.move rfl) ?_
                    refine Sp.L.pure (by kernel_rfl) (Sp.Runs.move rfl) ?_
                    refine Sp.L.pure (by kernel_rfl) (Sp.Runs.gtIF rfl rfl (by omega)) ?_
                    refine Sp.L.pure (by kernel_rfl) (Sp.Runs.move rfl) ?_
                    refine Sp.L.skip (by kernel_rfl) ?_
                    refine Sp.L.skip (by kernel_rfl) ?_
                    refine Sp.L.pure (by kernel_rfl) (Sp.Runs.pickF rfl rfl) ?_
                    refine Sp.L.pure (by kernel_rfl) (Sp.Runs.pickF rfl rfl) ?_
                    refine Sp.L.pure (by kernel_rfl) (Sp.Runs.move rfl) ?_
                    refine Sp.L.pure (by kernel_rfl) (Sp.Runs.move rfl) ?_
                    refine Sp.L.pure (by kernel_rfl) (Sp.Runs.move rfl) ?_
                    refine Sp.L.pure (by kernel_rfl) (Sp.Runs.eqIF rfl rfl (by omega)) ?_
                    refine Sp.L.pure (by kernel_rfl) (Sp.Runs.move rfl) ?_
                    refine Sp.L.skip (by kernel_rfl) ?_
                    refine Sp.L.skip (by kernel_rfl) ?_
                    refine Sp.L.pure (by kernel_rfl) (Sp.Runs.pickF rfl rfl) ?_
                    refine Sp.L.pure (by kernel_rfl) (Sp.Runs.pickF rfl rfl) ?_
                    refine Sp.L.pure (by kernel_rfl) (Sp.Runs.move rfl) ?_
                    refine Sp.L.pure (by kernel_rfl) (Sp.Runs.move rfl) ?_
                    refine Sp.L.pure (by kernel_rfl) (Sp.Runs.eqIF rfl rfl (by omega)) ?_
                    refine Sp.L.pure (by kernel_rfl) (Sp.Runs.move rfl) ?_
                    refine Sp.L.skip (by kernel_rfl) ?_
                    refine Sp.L.skip (by kernel_rfl) ?_
                    refine Sp.L.skip (by kernel_rfl) ?_
                    refine Sp.L.skip (by kernel_rfl) ?_
                    refine Sp.L.pure (by kernel_rfl) (Sp.Runs.pickF rfl rfl) ?_
                    refine Sp.L.pure (by kernel_rfl) (Sp.Runs.pickF rfl rfl) ?_
                    refine Sp.L.nil ?_
                    refine hK52 _ _ (Sp.Cd.sub (S' := [(20, _), (21, _), (25, _), (29, _), (44, _), (45, _), (46, _), (47, _), (48, _), (49, _), (331, _)]) ⟨rfl, rfl, rfl, rfl, rfl, rfl, rfl, rfl, rfl, rfl, rfl, trivial⟩ ?_)
                    clear hK52 K52
                    refine Sp.Cd.condF rfl ?_
                    refine Sp.Cd.skip ?_
                    refine Sp.Nx.post () ⟨rfl, rfl, rfl, rfl, rfl, rfl, rfl, rfl, rfl, rfl, trivial⟩ (B3.out)
                · have h9 := cnt_most NN
                  rw [← hc] at h9
                  by_cases h0 : t = 0
                  · have hz := Rw.rest_many NN n2
                    subst h0
                    have hz2 : C1.countTicks NN 0 = NN + 1 := hz
                    refine Sp.Cd.seq fun K53 hK53 => ?_
                    refine Sp.Cd.region ?_
                    refine Sp.L.pure (by kernel_rfl) (Sp.Runs.move rfl) ?_
                    refine Sp.L.pure (by kernel_rfl) (Sp.Runs.notF rfl) ?_
                    refine Sp.L.pure (by kernel_rfl) (Sp.Runs.move rfl) ?_
                    refine Sp.L.pure (by kernel_rfl) (Sp.Runs.move rfl) ?_
                    refine Sp.L.pure (by kernel_rfl) (Sp.Runs.move rfl) ?_
                    refine Sp.L.pure (by kernel_rfl) (Sp.Runs.gtIF rfl rfl (by omega)) ?_
                    refine Sp.L.pure (by kernel_rfl) (Sp.Runs.move rfl) ?_
                    refine Sp.L.skip (by kernel_rfl) ?_
                    refine Sp.L.skip (by kernel_rfl) ?_
                    refine Sp.L.pure (by kernel_rfl) (Sp.Runs.pickF rfl rfl) ?_
                    refine Sp.L.pure (by kernel_rfl) (Sp.Runs.pickF rfl rfl) ?_
                    refine Sp.L.pure (by kernel_rfl) (Sp.Runs.move rfl) ?_
                    refine Sp.L.pure (by kernel_rfl) (Sp.Runs.move rfl) ?_
                    refine Sp.L.pure (by kernel_rfl) (Sp.Runs.move rfl) ?_
                    refine Sp.L.pure (by kernel_rfl) (Sp.Runs.eqIT rfl rfl (by omega)) ?_
                    refine Sp.L.pure (by kernel_rfl) (Sp.Runs.move rfl) ?_
                    refine Sp.L.pure (by kernel_rfl) (Sp.Runs.move rfl) ?_
                    refine Sp.L.pure (by kernel_rfl) (Sp.Runs.ltIF rfl rfl (by omega)) ?_
                    refine Sp.L.pure (by kernel_rfl) (Sp.Runs.pickT rfl rfl) ?_
                    refine Sp.L.pure (by kernel_rfl) (Sp.Runs.pickF rfl rfl) ?_
                    refine Sp.L.pure (by kernel_rfl) (Sp.Runs.move rfl) ?_
                    refine Sp.L.pure (by kernel_rfl) (Sp.Runs.move rfl) ?_
                    refine Sp.L.pure (by kernel_rfl) (Sp.Runs.eqIT rfl rfl (by omega)) ?_
                    refine Sp.L.pure (by kernel_rfl) (Sp.Runs.move rfl) ?_
                    refine Sp.L.pure (by kernel_rfl) (Sp.Runs.move rfl) ?_
                    refine Sp.L.pure (by kernel_rfl) (Sp.Runs.move rfl) ?_
                    refine Sp.L.pure (by kernel_rfl) (Sp.Runs.addI rfl rfl (Sp.wrapI (by omega) (by omega))) ?_
                    refine Sp.L.pure (by kernel_rfl) (Sp.Runs.neIF rfl rfl (by omega)) ?_
                    refine Sp.L.pure (by kernel_rfl) (Sp.Runs.pickT rfl rfl) ?_
                    refine Sp.L.pure (by kernel_rfl) (Sp.Runs.pickF rfl rfl) ?_
                    refine Sp.L.nil ?_
                    refine hK53 _ _ (Sp.Cd.sub (S' := [(20, _), (21, _), (25, _), (29, _), (44, _), (45, _), (46, _), (47, _), (48, _), (49, _), (331, _)]) ⟨rfl, rfl, rfl, rfl, rfl, rfl, rfl, rfl, rfl, rfl, rfl, trivial⟩ ?_)
                    clear hK53 K53
                    refine Sp.Cd.condF rfl ?_
                    refine Sp.Cd.skip ?_
                    refine Sp.Nx.post () ⟨rfl, rfl, rfl, rfl, rfl, rfl, rfl, rfl, rfl, rfl, trivial⟩ (B3.out)
                  · refine Sp.Cd.seq fun K54 hK54 => ?_
                    refine Sp.Cd.region ?_
                    refine Sp.L.pure (by kernel_rfl) (Sp.Runs.move rfl) ?_
                    refine Sp.L.pure (by kernel_rfl) (Sp.Runs.notF rfl) ?_
                    refine Sp.L.pure (by kernel_rfl) (Sp.Runs.move rfl) ?_
                    refine Sp.L.pure (by kernel_rfl) (Sp.Runs.move rfl) ?_
                    refine Sp.L.pure (by kernel_rfl) (Sp.Runs.move rfl) ?_
                    refine Sp.L.pure (by kernel_rfl) (Sp.Runs.gtIF rfl rfl (by omega)) ?_
                    refine Sp.L.pure (by kernel_rfl) (Sp.Runs.move rfl) ?_
                    refine Sp.L.skip (by kernel_rfl) ?_
                    refine Sp.L.skip (by kernel_rfl) ?_
                    refine Sp.L.pure (by kernel_rfl) (Sp.Runs.pickF rfl rfl) ?_
                    refine Sp.L.pure (by kernel_rfl) (Sp.Runs.pickF rfl rfl) ?_
                    refine Sp.L.pure (by kernel_rfl) (Sp.Runs.move rfl) ?_
                    refine Sp.L.pure (by kernel_rfl) (Sp.Runs.move rfl) ?_
                    refine Sp.L.pure (by kernel_rfl) (Sp.Runs.move rfl) ?_
                    refine Sp.L.pure (by kernel_rfl) (Sp.Runs.eqIT rfl rfl (by omega)) ?_
                    refine Sp.L.pure (by kernel_rfl) (Sp.Runs.move rfl) ?_
                    refine Sp.L.pure (by kernel_rfl) (Sp.Runs.move rfl) ?_
                    refine Sp.L.pure (by kernel_rfl) (Sp.Runs.ltIF rfl rfl (by omega)) ?_
                    refine Sp.L.pure (by kernel_rfl) (Sp.Runs.pickT rfl rfl) ?_
                    refine Sp.L.pure (by kernel_rfl) (Sp.Runs.pickF rfl rfl) ?_
                    refine Sp.L.pure (by kernel_rfl) (Sp.Runs.move rfl) ?_
                    refine Sp.L.pure (by kernel_rfl) (Sp.Runs.move rfl) ?_
                    refine Sp.L.pure (by kernel_rfl) (Sp.Runs.eqIF rfl rfl (by omega)) ?_
                    refine Sp.L.pure (by kernel_rfl) (Sp.Runs.move rfl) ?_
                    refine Sp.L.skip (by kernel_rfl) ?_
                    refine Sp.L.skip (by kernel_rfl) ?_
                    refine Sp.L.skip (by kernel_rfl) ?_
                    refine Sp.L.skip (by kernel_rfl) ?_
                    refine Sp.L.pure (by kernel_rfl) (Sp.Runs.pickF rfl rfl) ?_
                    refine Sp.L.pure (by kernel_rfl) (Sp.Runs.pickF rfl rfl) ?_
                    refine Sp.L.nil ?_
                    refine hK54 _ _ (Sp.Cd.sub (S' := [(20, _), (21, _), (25, _), (29, _), (44, _), (45, _), (46, _), (47, _), (48, _), (49, _), (331, _)]) ⟨rfl, rfl, rfl, rfl, rfl, rfl, rfl, rfl, rfl, rfl, rfl, trivial⟩ ?_)
                    clear hK54 K54
                    refine Sp.Cd.condF rfl ?_
                    refine Sp.Cd.skip ?_
                    refine Sp.Nx.post () ⟨rfl, rfl, rfl, rfl, rfl, rfl, rfl, rfl, rfl, rfl, trivial⟩ (B3.out)
                · have h9 := cnt_over NN t hc
                  by_cases h0 : t = 0
                  · have hz := Rw.rest_many NN n2
                    subst h0
                    have hz2 : C1.countTicks NN 0 = NN + 1 := hz
                    refine Sp.Cd.seq fun K55 hK55 => ?_
                    refine Sp.Cd.region ?_
                    refine Sp.L.pure (by kernel_rfl) (Sp.Runs.move rfl) ?_
                    refine Sp.L.pure (by kernel_rfl) (Sp.Runs.notF rfl) ?_
                    refine Sp.L.pure (by kernel_rfl) (Sp.Runs.move rfl) ?_
                    refine Sp.L.pure (by kernel_rfl) (Sp.Runs.move rfl) ?_
                    refine Sp.L.pure (by kernel_rfl) (Sp.Runs.move rfl) ?_
                    refine Sp.L.pure (by kernel_rfl) (Sp.Runs.gtIT rfl rfl (by omega)) ?_
                    refine Sp.L.pure (by kernel_rfl) (Sp.Runs.move rfl) ?_
                    refine Sp.L.pure (by kernel_rfl) (Sp.Runs.move rfl) ?_
                    refine Sp.L.pure (by kernel_rfl) (Sp.Runs.neIF rfl rfl (by omega)) ?_
                    refine Sp.L.pure (by kernel_rfl) (Sp.Runs.pickT rfl rfl) ?_
                    refine Sp.L.pure (by kernel_rfl) (Sp.Runs.pickF rfl rfl) ?_
                    refine Sp.L.pure (by kernel_rfl) (Sp.Runs.move rfl) ?_
                    refine Sp.L.pure (by kernel_rfl) (Sp.Runs.move rfl) ?_
                    refine Sp.L.pure (by kernel_rfl) (Sp.Runs.move rfl) ?_
                    refine Sp.L.pure (by kernel_rfl) (Sp.Runs.eqIF rfl rfl (by omega)) ?_
                    refine Sp.L.pure (by kernel_rfl) (Sp.Runs.move rfl) ?_
                    refine Sp.L.skip (by kernel_rfl) ?_
                    refine Sp.L.skip (by kernel_rfl) ?_
                    refine Sp.L.pure (by kernel_rfl) (Sp.Runs.pickF rfl rfl) ?_
                    refine Sp.L.pure (by kernel_rfl) (Sp.Runs.pickF rfl rfl) ?_
                    refine Sp.L.pure (by kernel_rfl) (Sp.Runs.move rfl) ?_
                    refine Sp.L.pure (by kernel_rfl) (Sp.Runs.move rfl) ?_
                    refine Sp.L.pure (by kernel_rfl) (Sp.Runs.eqIT rfl rfl (by omega)) ?_
                    refine Sp.L.pure (by kernel_rfl) (Sp.Runs.move rfl) ?_
                    refine Sp.L.pure (by kernel_rfl) (Sp.Runs.move rfl) ?_
                    refine Sp.L.pure (by kernel_rfl) (Sp.Runs.move rfl) ?_
                    refine Sp.L.pure (by kernel_rfl) (Sp.Runs.addI rfl rfl (Sp.wrapI (by omega) (by omega))) ?_
                    refine Sp.L.pure (by kernel_rfl) (Sp.Runs.neIF rfl rfl (by omega)) ?_
                    refine Sp.L.pure (by kernel_rfl) (Sp.Runs.pickT rfl rfl) ?_
                    refine Sp.L.pure (by kernel_rfl) (Sp.Runs.pickF rfl rfl) ?_
                    refine Sp.L.nil ?_
                    refine hK55 _ _ (Sp.Cd.sub (S' := [(20, _), (21, _), (25, _), (29, _), (44, _), (45, _), (46, _), (47, _), (48, _), (49, _), (331, _)]) ⟨rfl, rfl, rfl, rfl, rfl, rfl, rfl, rfl, rfl, rfl, rfl, trivial⟩ ?_)
                    clear hK55 K55
                    refine Sp.Cd.condF rfl ?_
                    refine Sp.Cd.skip ?_
                    refine Sp.Nx.post () ⟨rfl, rfl, rfl, rfl, rfl, rfl, rfl, rfl, rfl, rfl, trivial⟩ (B3.out)
                  · refine Sp.Cd.seq fun K56 hK56 => ?_
                    refine Sp.Cd.region ?_
                    refine Sp.L.pure (by kernel_rfl) (Sp.Runs.move rfl) ?_
                    refine Sp.L.pure (by kernel_rfl) (Sp.Runs.notF rfl) ?_
                    refine Sp.L.pure (by kernel_rfl) (Sp.Runs.move rfl) ?_
                    refine Sp.L.pure (by kernel_rfl) (Sp.Runs.move rfl) ?_
                    refine Sp.L.pure (by kernel_rfl) (Sp.Runs.move rfl) ?_
                    refine Sp.L.pure (by kernel_rfl) (Sp.Runs.gtIT rfl rfl (by omega)) ?_
                    refine Sp.L.pure (by kernel_rfl) (Sp.Runs.move rfl) ?_
                    refine Sp.L.pure (by kernel_rfl) (Sp.Runs.move rfl) ?_
                    refine Sp.L.pure (by kernel_rfl) (Sp.Runs.neIF rfl rfl (by omega)) ?_
                    refine Sp.L.pure (by kernel_rfl) (Sp.Runs.pickT rfl rfl) ?_
                    refine Sp.L.pure (by kernel_rfl) (Sp.Runs.pickF rfl rfl) ?_
                    refine Sp.L.pure (by kernel_rfl) (Sp.Runs.move rfl) ?_
                    refine Sp.L.pure (by kernel_rfl) (Sp.Runs.move rfl) ?_
                    refine Sp.L.pure (by kernel_rfl) (Sp.Runs.move rfl) ?_
                    refine Sp.L.pure (by kernel_rfl) (Sp.Runs.eqIF rfl rfl (by omega)) ?_
                    refine Sp.L.pure (by kernel_rfl) (Sp.Runs.move rfl) ?_
                    refine Sp.L.skip (by kernel_rfl) ?_
                    refine Sp.L.skip (by kernel_rfl) ?_
                    refine Sp.L.pure (by kernel_rfl) (Sp.Runs.pickF rfl rfl) ?_
                    refine Sp.L.pure (by kernel_rfl) (Sp.Runs.pickF rfl rfl) ?_
                    refine Sp.L.pure (by kernel_rfl) (Sp.Runs.move rfl) ?_
                    refine Sp.L.pure (by kernel_rfl) (Sp.Runs.move rfl) ?_
                    refine Sp.L.pure (by kernel_rfl) (Sp.Runs.eqIF rfl rfl (by omega)) ?_
                    refine Sp.L.pure (by kernel_rfl) (Sp.Runs.move rfl) ?_
                    refine Sp.L.skip (by kernel_rfl) ?_
                    refine Sp.L.skip (by kernel_rfl) ?_
                    refine Sp.L.skip (by kernel_rfl) ?_
                    refine Sp.L.skip (by kernel_rfl) ?_
                    refine Sp.L.pure (by kernel_rfl) (Sp.Runs.pickF rfl rfl) ?_
                    refine Sp.L.pure (by kernel_rfl) (Sp.Runs.pickF rfl rfl) ?_
                    refine Sp.L.nil ?_
                    refine hK56 _ _ (Sp.Cd.sub (S' := [(20, _), (21, _), (25, _), (29, _), (44, _), (45, _), (46, _), (47, _), (48, _), (49, _), (331, _)]) ⟨rfl, rfl, rfl, rfl, rfl, rfl, rfl, rfl, rfl, rfl, rfl, trivial⟩ ?_)
                    clear hK56 K56
                    refine Sp.Cd.condF rfl ?_
                    refine Sp.Cd.skip ?_
                    refine Sp.Nx.post () ⟨rfl, rfl, rfl, rfl, rfl, rfl, rfl, rfl, rfl, rfl, trivial⟩ (B3.out)
              · intro w25 b
                replace B0 := Lib.hid (B0.out.trans (b.mono B0.out.size))
                replace B1 := Lib.hid (B1.out.trans (b.mono B1.out.size))
                replace B2 := Lib.hid (B2.out.trans (b.mono B2.out.size))
                replace HYa := Lib.hid (HYa.out.below b)
                replace HYb := Lib.hid (HYb.out.below b)
                replace Hbi := Lib.hid (Hbi.out.below b)
                replace Hbs := Lib.hid (Hbs.out.below b)
                clear b
                refine Sp.Cd.seq fun K57 hK57 => ?_
                refine Sp.Cd.region ?_
                refine Sp.L.pure (by kernel_rfl) (Sp.Runs.move rfl) ?_
                refine Sp.L.pure (by kernel_rfl) (Sp.Runs.move rfl) ?_
                refine Sp.L.pure (by kernel_rfl) (Sp.Runs.addI rfl rfl (Sp.wrapI (by omega) (by omega))) ?_
                refine Sp.L.pure (by kernel_rfl) (Sp.Runs.assign rfl) ?_
                refine Sp.L.nil ?_
                refine hK57 _ _ (Sp.Cd.sub (S' := [(20, _), (21, _), (25, _), (29, _), (44, _), (45, _), (46, _), (47, _), (48, _), (49, _)]) ⟨rfl, rfl, rfl, rfl, rfl, rfl, rfl, rfl, rfl, rfl, trivial⟩ ?_)
                clear hK57 K57
                refine Sp.Cd.region ?_
                refine Sp.L.pure (by kernel_rfl) (Sp.Runs.move rfl) ?_
                refine Sp.L.pure (by kernel_rfl) (Sp.Runs.move rfl) ?_
                refine Sp.L.pure (by kernel_rfl) (Sp.Runs.move rfl) ?_
                refine Sp.L.pure (by kernel_rfl) (Sp.Runs.mulI rfl rfl (Sp.wrapI (by rw [← c8]; omega) (by rw [← c8]; omega))) ?_
                refine Sp.L.pure (by kernel_rfl) (Sp.Runs.addI rfl rfl (Sp.wrapI (by rw [← c8]; omega) (by rw [← c8]; omega))) ?_
                refine Sp.L.pure (by kernel_rfl) (Sp.Runs.assign rfl) ?_
                refine Sp.L.nil ?_
                refine Sp.Nx.block ?_
                refine hK49 _ _ (Sp.Cd.sub (S' := [(20, _), (21, _), (25, _), (29, _), (44, _), (45, _), (46, _), (47, _), (48, _)]) ⟨rfl, rfl, rfl, rfl, rfl, rfl, rfl, rfl, rfl, trivial⟩ ?_)
                clear hK49 K49
                refine Sp.Cd.region ?_
                refine Sp.L.pure (by kernel_rfl) (Sp.Runs.move rfl) ?_
                refine Sp.L.pure (by kernel_rfl) (Sp.Runs.addI rfl rfl (Sp.wrapI (by omega) (by omega))) ?_
                refine Sp.L.pure (by kernel_rfl) (Sp.Runs.assign rfl) ?_
                refine Sp.L.nil ?_
                refine Sp.Nx.again (t + 1) ⟨(Sp.lkI rfl (by omega)), (Sp.lkI rfl (by omega)), (Sp.lkI rfl (by omega)), rfl, rfl, rfl, rfl, rfl, rfl, trivial⟩ ⟨B2, (by omega)⟩ (by omega)
            · obtain rfl : t = NN + 1 := by omega
              refine Sp.Cd.seq fun K58 hK58 => ?_
              refine Sp.Cd.seq fun K59 hK59 => ?_
              refine Sp.Cd.region ?_
              refine Sp.L.pure (by kernel_rfl) (Sp.Runs.move rfl) ?_
              refine Sp.L.pure (by kernel_rfl) (Sp.Runs.move rfl) ?_
              refine Sp.L.pure (by kernel_rfl) (Sp.Runs.leIF rfl rfl (by omega)) ?_
              refine Sp.L.nil ?_
              refine hK59 _ _ (Sp.Cd.sub (S' := [(20, _), (21, _), (25, _), (29, _), (44, _), (45, _), (46, _), (47, _), (48, _), (293, _)]) ⟨rfl, rfl, rfl, rfl, rfl, rfl, rfl, rfl, rfl, rfl, trivial⟩ ?_)
              clear hK59 K59
              refine Sp.Cd.condF rfl ?_
              refine Sp.Cd.exit ?_
              refine Sp.Ex.then ?_
              clear hK58 K58
              refine Sp.Ex.then ?_
              clear B2
              refine Sp.Ex.hit ?_
              refine hK45 _ _ (Sp.Cd.sub (S' := [(20, _), (21, _), (25, _), (29, _), (44, _), (45, _), (46, _), (47, _)]) ⟨rfl, rfl, rfl, rfl, rfl, rfl, rfl, rfl, trivial⟩ ?_)
              clear hK45 K45
              refine Sp.Cd.seq fun K60 hK60 => ?_
              refine Sp.Cd.region ?_
              refine Sp.L.pure (by kernel_rfl) (Sp.Runs.move rfl) ?_
              refine Sp.L.pure (by kernel_rfl) (Sp.Runs.notF rfl) ?_
              refine Sp.L.pure (by kernel_rfl) (Sp.Runs.move rfl) ?_
              refine Sp.L.pure (by kernel_rfl) (Sp.Runs.move rfl) ?_
              refine Sp.L.pure (by kernel_rfl) (Sp.Runs.move rfl) ?_
              refine Sp.L.pure (by kernel_rfl) (Sp.Runs.neIF rfl rfl (by omega)) ?_
              refine Sp.L.pure (by kernel_rfl) (Sp.Runs.pickF rfl rfl) ?_
              refine Sp.L.pure (by kernel_rfl) (Sp.Runs.move rfl) ?_
              refine Sp.L.pure (by kernel_rfl) (Sp.Runs.move rfl) ?_
              refine Sp.L.pure (by kernel_rfl) (Sp.Runs.lenS Try.underlying9 rfl) ?_
              refine Sp.L.pure (by kernel_rfl) (Sp.Runs.move rfl) ?_
              refine Sp.L.pure (by kernel_rfl) (Sp.Runs.neIF rfl rfl hfl) ?_
              refine Sp.L.pure (by kernel_rfl) (Sp.Runs.pickF rfl rfl) ?_
              refine Sp.L.pure (by kernel_rfl) (Sp.Runs.move rfl) ?_
              refine Sp.L.pure (by kernel_rfl) (Sp.Runs.move rfl) ?_
              refine Sp.L.pure (by kernel_rfl) (Sp.Runs.move rfl) ?_
              refine Sp.L.pure (by kernel_rfl) (Sp.Runs.shlI rfl rfl (by omega) (by omega) (Sp.wrap1 NN n2)) ?_
              refine Sp.L.pure (by kernel_rfl) (Sp.Runs.neIF rfl rfl (by rw [hs1])) ?_
              refine Sp.L.pure (by kernel_rfl) (Sp.Runs.pickF rfl rfl) ?_
              refine Sp.L.pure (by kernel_rfl) (Sp.Runs.move rfl) ?_
              refine Sp.L.pure (by kernel_rfl) (Sp.Runs.move rfl) ?_
              refine Sp.L.pure (by kernel_rfl) (Sp.Runs.move rfl) ?_
              refine Sp.L.pure (by kernel_rfl) (Sp.Runs.neIF rfl rfl (by omega)) ?_
              refine Sp.L.pure (by kernel_rfl) (Sp.Runs.pickF rfl rfl) ?_
              refine Sp.L.pure (by kernel_rfl) (Sp.Runs.move rfl) ?_
              refine Sp.L.pure (by kernel_rfl) (Sp.Runs.move rfl) ?_
              refine Sp.L.pure (by kernel_rfl) (Sp.Runs.move rfl) ?_
              refine Sp.L.pure (by kernel_rfl) (Sp.Runs.gtIF rfl rfl (by omega)) ?_
              refine Sp.L.pure (by kernel_rfl) (Sp.Runs.pickF rfl rfl) ?_
              refine Sp.L.nil ?_
              refine hK60 _ _ (Sp.Cd.sub (S' := [(368, _)]) ⟨rfl, trivial⟩ ?_)
              clear hK60 K60
              refine Sp.Cd.condF rfl ?_
              refine Sp.Cd.skip ?_
              refine Sp.Nx.post () trivial (B1.out)
        · intro w22 b
          replace B0 := Lib.hid (B0.out.trans (b.mono B0.out.size))
          replace HYa := Lib.hid (HYa.out.below b)
          replace HYb := Lib.hid (HYb.out.below b)
          replace Hbi := Lib.hid (Hbi.out.below b)
          replace Hbs := Lib.hid (Hbs.out.below b)
          clear b
          refine Sp.Cd.seq fun K61 hK61 => ?_
          refine Sp.Cd.region ?_
          refine Sp.L.pure (by kernel_rfl) (Sp.Runs.assign rfl) ?_
          refine Sp.L.nil ?_
          refine hK61 _ _ (Sp.Cd.sub (S' := [(4, _)]) ⟨rfl, trivial⟩ ?_)
          clear hK61 K61
          refine Sp.Cd.ret ?_
          refine Sp.Rt.body rfl rfl ?_
          exact ⟨rfl, B0.out⟩
  · refine Sp.Cd.condT rfl ?_
    refine Sp.Cd.seq fun K62 hK62 => ?_
    refine Sp.Cd.region ?_
    refine Sp.L.pure (by kernel_rfl) (Sp.Runs.assign rfl) ?_
    refine Sp.L.nil ?_
    refine hK62 _ _ (Sp.Cd.sub (S' := [(4, _)]) ⟨rfl, trivial⟩ ?_)
    clear hK62 K62
    refine Sp.Cd.ret ?_
    refine Sp.Rt.then ?_
    refine Sp.Rt.body rfl rfl ?_
    exact ⟨rfl, B0.out⟩
end Go.Proofs.Ytacchefmblfobaa
