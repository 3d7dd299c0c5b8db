/- Chapter 6, the program: searched, PlacesSearched. -/
import Derived.Test.YtpoceonmlpnhlabKf
import Derived.Test.YtpoceonmlpnhlabFia
namespace Go.Proofs.Ytpoceonmlpnhlab
open Go.ChangeShapes Go.WideShapes Go.ChangeAt Go.RowKit
open Fi

/-- a load of a whole value behind a guard that is met -/
theorem wpList_loadAllW {P : Program} {w : World} {ops : Array Oper} {rest : List Oper} {o : Oper} {a : Act} {Q : Exit → Act → World → Prop} (ty : TypeId) (x : Operand) (ho : o.op = .load ty x) (hw : Region.wanted o (yielded ops a.tmps) = true)
    (g : Nat) (t : TypeId) (cs : List Value) (d : TypeDesc) (hu : P.underlying ty = some d) (hd : (match d with | .struct _ | .array _ _ => true | _ => false) = true) (n : Nat) (hi : (P.info? ty).map (·.size) = some n)
    (hx : a.eval x = .pointer (some ⟨g, 0, none⟩)) (hb : Hid (Blk w g t cs)) (hn : cs.length = n)
    (h : Stop (wpList P ops Q rest (a.put o.dst (.agg cs.toArray)) w)) : wpList P ops Q (o :: rest) a w := by
  subst hn
  refine BigFrame.wpList_want hw fun K hK => ?_
  have hl := run_loadVar_row (P := P) w g t ty cs.toArray (0, 0) d hb hu hd (by simpa using hi)
  unfold Oper.wp
  simp only [execOp, ho, hx, Instr.loadAt, Instr.sureAddr, Sem.run_bind, Sem.run_pure, Result.andThen_ok, hl]
  exact hK _ _ h.on

theorem srch_none (zss : List (List Int)) (h : Int) (R i kk : Nat) (hn : ¬ (i < R ∧ 0 < kk)) : ∀ f, srch zss h R f i kk = []
  | 0 => rfl
  | f + 1 => by rw [srch, if_neg hn]
set_option maxHeartbeats 4000000 in
theorem searched_any (w : World) (bs : List Int) (zss : List (List Int)) (R C : Nat) (h : Int) (hz : IsZ bs zss R C) :
    Calls Try.prog 37 #[.agg (cellsI bs).toArray, .int .i64 h] w fun e w' => ∃ v, e = .returned v ∧ OwnSS w' w.heap.size v (searchL zss h) ∧ Below w.heap.size w w' := by
  have HIS := Lib.hid hz.is
  have hr1 := hz.good.r1
  have hr8 := hz.good.r8
  have hc1 := hz.good.c1
  have hc8 := hz.good.c8
  have HL : Hid (srch zss h R (R + C) 0 C = searchL zss h) := Lib.hid (by unfold searchL; rw [hz.good.rows, hz.good.cols 0 hr1])
  obtain ⟨L, hL⟩ : ∃ L, L = searchL zss h := ⟨_, rfl⟩
  rw [← hL] at HL ⊢
  obtain ⟨c1, hc⟩ : ∃ c, C = c + 1 := ⟨C - 1, by omega⟩
  have e65 : (C : Int) - 1 = (c1 : Int) := by omega
  have ew : IntKind.i64.wrap (c1 : Int) = (c1 : Int) := by rw [IntKind.wrap_i64]; omega
  have HCC := Lib.hid hc
  clear hz hL hc
  go_enter Try.func37, Try.ntmps37
  go_wp2_with (refine wpList_box 45 _ rfl rfl (cellsI bs) rfl ?_; intro w1 g1 G1 B1 L1)
  refine ⟨?_⟩
  have LA : Hid (Below w.heap.size w w1) := L1
  have c65 : w1.cell? ⟨g1, 65, none⟩ = some (.int .i64 (C : Int)) := by rw [B1.out.celI 65 (by rw [HIS.out.len]; omega), HIS.out.cols]
  clear G1 L1
  go_wp2_with fail
  go_quiet (fail)
  have LQ : Hid (Below w1.heap.size w1 (w1.drewN nq)) := Lib.hid (drewN_down w1 nq)
  clear c65 e65 ew
  go_wp2
  go_loopw [5, 6, 7] (fun v i c wr => ∃ (r kk f : Nat) (ps : List (List Int)), r ≤ R ∧ kk ≤ C ∧ R - r + kk ≤ f ∧ i = .int .i64 (r : Int) ∧ c = .int .i64 ((kk : Int) - 1) ∧ ps.length + f ≤ 16 ∧ Hid (ps ++ srch zss h R f r kk = L) ∧ Hid (OwnSS wr w1.heap.size v ps) ∧ Hid (Below w1.heap.size w1 wr)) (fun _ i c _ => (R - (intOf i).toNat) + (intOf c + 1).toNat)
  case atStart => exact ⟨0, C, R + C, [], Nat.zero_le _, Nat.le_refl _, by omega, rfl, int_eq (by have := HCC.out; omega), by simp; omega, Lib.hid (by rw [List.nil_append]; exact HL.out), Lib.hid (ownSS_nil _ _), LQ⟩
  case round =>
    obtain ⟨r, kk, f, ps, hr, hkk, hf, rfl, rfl, hps, HE, HO, HB⟩ := hrel
    have HBK : Hid (Blk wr g1 45 (cellsI bs)) := Lib.hid (B1.out.below HB.out B1.out.lt)
    have c64 : wr.cell? ⟨g1, 64, none⟩ = some (.int .i64 (R : Int)) := by rw [HBK.out.celI 64 (by rw [HIS.out.len]; omega), HIS.out.rows]
    by_cases hlt : r < R
    · rcases kk with _ | m
      · have HN : Hid (ps = L) := Lib.hid (by rw [← HE.out, srch_none _ _ _ _ _ (by omega), List.append_nil])
        rw [show (((0 : Nat) : Int)) - 1 = -1 from rfl]
        have i3 : (r : Int) < (R : Int) := by omega
        go_wp2
        go_ret
        exact ⟨_, rfl, by rw [← HN.out]; exact HO.out.mono LA.out.size, LA.out.trans (HB.out.mono LA.out.size)⟩
      · obtain ⟨f', rfl⟩ : ∃ f', f = f' + 1 := ⟨f - 1, by omega⟩
        have em : (((m + 1 : Nat) : Int)) - 1 = (m : Int) := by omega
        rw [em]
        have cz : wr.cell? ⟨g1, r * 8 + m, none⟩ = some (.int .i64 (fOf zss r m)) := by rw [HBK.out.celI (r * 8 + m) (by rw [HIS.out.len]; omega), HIS.out.at' r m hlt hkk trivial]
        have HS : Hid (srch zss h R (f' + 1) r (m + 1) = [(r : Int), (m : Int)] :: (if fOf zss r m = h then [] else if h < fOf zss r m then srch zss h R f' r m else srch zss h R f' (r + 1) (m + 1))) := Lib.hid (by rw [srch, if_pos ⟨hlt, Nat.succ_pos m⟩]; rfl)
        obtain ⟨z, hz⟩ : ∃ z, z = fOf zss r m := ⟨_, rfl⟩
        rw [← hz] at cz HS
        have i3 : (r : Int) < (R : Int) := by omega
        have i4 : (0 : Int) ≤ (m : Int) := by omega
        have i5 : (m : Int) < 8 := by omega
        have i6 : (r : Int) < 8 := by omega
        have i7 : (0 : Int) ≤ (r : Int) := by omega
        have hz4 := HB.out.size
        have hbl : ps.length ≤ 1000000000 := by omega
        have HA : Hid (ps ++ srch zss h R (f' + 1) r (m + 1) = (ps ++ [[(r : Int), (m : Int)]]) ++ (if z = h then [] else if h < z then srch zss h R f' r m else srch zss h R f' (r + 1) (m + 1))) := Lib.hid (by rw [HS.out, List.append_assoc]; rfl)
        have HL1 : Hid ((ps ++ [[(r : Int), (m : Int)]]).length = ps.length + 1) := Lib.hid (by simp)
        clear hz em HS HBK
        go_wp2_with (at_builtin; refine wpList_appRow rfl _ _ rfl _ wr _ _ _ _ _ _ rfl rfl (by simp) HO.out ((Below.refl _ _).alloc (Nat.le_refl _) _) (own_two wr _ _) hz4 hbl ?_; intro v' w5 hO hB5; refine Stop.on ?_)
        have HO5 : Hid (OwnSS w5 w1.heap.size v' (ps ++ [[(r : Int), (m : Int)]])) := Lib.hid hO
        have HB5 : Hid (Below w1.heap.size w1 w5) := Lib.hid ((HB.out.alloc hz4 _).trans hB5)
        have HBK : Hid (Blk w5 g1 45 (cellsI bs)) := Lib.hid (B1.out.below HB5.out B1.out.lt)
        have cz : w5.cell? ⟨g1, r * 8 + m, none⟩ = some (.int .i64 z) := (World.cell?_of_block (show w5.heap[g1]? = wr.heap[g1]? by rw [HBK.out, (show Blk wr g1 45 (cellsI bs) from B1.out.below HB.out B1.out.lt)])).trans cz
        clear hO hB5 c64
        refine ⟨?_⟩
        by_cases hzh : z = h
        · have g1' : (z == h) = true := by rw [beq_iff_eq]; exact hzh
          have HN : Hid (ps ++ [[(r : Int), (m : Int)]] = L) := Lib.hid (by rw [← HE.out, HA.out, if_pos hzh, List.append_nil])
          clear hzh
          go_wp2
          go_ret
          exact ⟨_, rfl, by rw [← HN.out]; exact HO5.out.mono LA.out.size, LA.out.trans (HB5.out.mono LA.out.size)⟩
        · have g1' : (z == h) = false := by rw [beq_eq_false_iff_ne]; exact hzh
          by_cases hlz : h < z
          · have HN : Hid ((ps ++ [[(r : Int), (m : Int)]]) ++ srch zss h R f' r m = L) := Lib.hid (by rw [← HE.out, HA.out, if_neg hzh, if_pos hlz])
            clear hzh
            go_wp2
            go_roundw
            case rel => exact ⟨r, m, f', _, hr, by omega, by omega, rfl, rfl, by rw [HL1.out]; omega, HN, HO5, HB5⟩
            case measure => first | (simp [intOf]; done) | (simp [intOf]; omega)
          · have HN : Hid ((ps ++ [[(r : Int), (m : Int)]]) ++ srch zss h R f' (r + 1) (m + 1) = L) := Lib.hid (by rw [← HE.out, HA.out, if_neg hzh, if_neg hlz])
            clear hzh
            go_wp2
            go_roundw
            case rel => exact ⟨r + 1, m + 1, f', _, by omega, hkk, by omega, by go_num, int_eq (by omega), by rw [HL1.out]; omega, HN, HO5, HB5⟩
            case measure => first | (simp [intOf]; done) | (simp [intOf]; omega)
    · have HN : Hid (ps = L) := Lib.hid (by rw [← HE.out, srch_none _ _ _ _ _ (by omega), List.append_nil])
      have i3 : ¬ (r : Int) < (R : Int) := by omega
      go_wp2
      go_ret
      exact ⟨_, rfl, by rw [← HN.out]; exact HO.out.mono LA.out.size, LA.out.trans (HB.out.mono LA.out.size)⟩

set_option maxRecDepth 20000 in
set_option maxHeartbeats 2000000 in
theorem implPlacesSearched_any (w : World) (a : Option Addr) (len cap : Nat) (zss : List (List Int)) (h : Int) (_wh : (Lit.int .i64 h).wf = true) (hf : FitsSS zss) (hc : CameSS w a len zss) :
    Calls Try.prog 12 #[.slice a len cap, .int .i64 h] w fun e w' => ∃ v0, e = .returned (.tuple #[v0, .bool (outPlacesSearched_1 zss h)]) ∧ OwnSS w' w.heap.size v0 (outPlacesSearched_0 zss h) ∧ Below w.heap.size w w' := by
  have HG := Lib.hid (areFiles_any w a len cap zss hf hc)
  have HI := Lib.hid (fun w2 => isHeightAsked_any h w2)
  have HNO : Hid (serB zss h = false → outPlacesSearched_0 zss h = [] ∧ outPlacesSearched_1 zss h = false) := Lib.hid (fun e => by unfold outPlacesSearched_0 outPlacesSearched_1; rw [e]; exact ⟨rfl, rfl⟩)
  clear _wh
  rcases hb : goodF zss with _ | _
  · have H0 := Lib.hid (HNO.out (by unfold serB; rw [hb]; rfl))
    rw [hb] at HG
    clear hb hc hf HNO
    go_enter Try.func12, Try.ntmps12
    go_wp2_with (go_at_call 32; refine HG.out.mono ?_; rintro e w' ⟨rfl, rfl⟩)
    go_ret2
    exact ⟨_, by rw [H0.out.2]; exact rfl, by rw [H0.out.1]; exact ownSS_nil _ _, Below.refl _ _⟩
  · rcases hb2 : inB h 0 1000 with _ | _
    · have H0 := Lib.hid (HNO.out (by unfold serB; rw [hb, hb2]; rfl))
      rw [hb] at HG
      rw [hb2] at HI
      clear hb hb2 hc hf HNO
      go_enter Try.func12, Try.ntmps12
      go_wp2_with (first | (go_at_call 32; refine HG.out.mono ?_; rintro e w' ⟨rfl, rfl⟩) | (go_at_call 33; refine (HI.out _).mono ?_; rintro e w' ⟨rfl, rfl⟩))
      go_ret2
      exact ⟨_, by rw [H0.out.2]; exact rfl, by rw [H0.out.1]; exact ownSS_nil _ _, Below.refl _ _⟩
    · have g := good_of hb
      have HBL := Lib.hid (blockOf_any w a len cap zss _ _ g hc)
      have HSE : Hid (serB zss h = (sortedB zss && sortedB (turnL zss))) := Lib.hid (by unfold serB; rw [hb, hb2]; rfl)
      have HYE : Hid (serB zss h = true → outPlacesSearched_0 zss h = searchL zss h ∧ outPlacesSearched_1 zss h = true) := Lib.hid (fun e => by unfold outPlacesSearched_0 outPlacesSearched_1; rw [e]; exact ⟨rfl, rfl⟩)
      obtain ⟨s1, hs1⟩ : ∃ b, b = sortedB zss := ⟨_, rfl⟩
      obtain ⟨s2, hs2⟩ : ∃ b, b = sortedB (turnL zss) := ⟨_, rfl⟩
      have HS1 := Lib.hid hs1.symm
      have HS2 := Lib.hid hs2.symm
      rw [HS1.out, HS2.out] at HSE
      rw [hb] at HG
      rw [hb2] at HI
      clear hb hb2 hc hf g hs1 hs2
      go_enter Try.func12, Try.ntmps12
      go_wp2_with fail
      go_at_call 32
      refine HG.out.mono ?_
      rintro e w' ⟨rfl, rfl⟩
      go_wp2_with fail
      go_at_call 33
      refine (HI.out _).mono ?_
      rintro e w' ⟨rfl, rfl⟩
      go_wp2_with fail
      go_at_call 34
      refine HBL.out.mono ?_
      rintro e w2 ⟨bs, rfl, hi, b2⟩
      have HI2 := Lib.hid hi
      have L2 := Lib.hid b2
      have hfl := isB_len hi.is
      clear hi b2 HBL
      go_wp2_with (refine wpList_new 45 rfl rfl _ _ Try.info_block ?_; intro w3 g3 G3 B3 L3)
      refine ⟨?_⟩
      go_wp2_with (refine wpList_storeAll 45 _ _ rfl rfl g3 _ (cellsI bk0) (cellsI bs) 66 Try.size_block rfl rfl B3 hfl length_bk0 (cellsI_one _) ?_; intro w4 B4 L4)
      refine ⟨?_⟩
      have hg3 : Hid (w.heap.size ≤ g3) := Lib.hid (by have := G3.out; have := L2.out.size; omega)
      have LB : Hid (Below w.heap.size w w4) := grownBy_below (L2.out.trans (L3.out.mono L2.out.size)) L4.out (Nat.le_refl _) hg3.out
      clear G3 B3 L3 L4 L2 hg3
      cases s1 with
      | false =>
        go_wp2_with (refine wpList_loadAll 45 _ rfl rfl g3 _ (cellsI bs) _ Try.underlying45 rfl 66 Try.size_block rfl B4 hfl ?_)
        refine ⟨?_⟩
        go_wp2_with fail
        go_at_call 35
        refine (rowsAre_any w4 bs _ _ _ HI2.out).mono ?_
        rintro e w5 ⟨rfl, b5⟩
        rw [HS1.out]
        have B5 : Hid (Blk w5 g3 45 (cellsI bs)) := Lib.hid (B4.out.below b5 B4.out.lt)
        have LC : Hid (Below w.heap.size w w5) := Lib.hid (LB.out.trans (b5.mono LB.out.size))
        clear b5 B4 LB
        have H0 := Lib.hid (HNO.out (by rw [HSE.out]; rfl))
        go_wp2
        go_ret2
        exact ⟨_, by rw [H0.out.2]; exact rfl, by rw [H0.out.1]; exact ownSS_nil _ _, LC.out⟩
      | true =>
        go_wp2_with (refine wpList_loadAll 45 _ rfl rfl g3 _ (cellsI bs) _ Try.underlying45 rfl 66 Try.size_block rfl B4 hfl ?_)
        refine ⟨?_⟩
        go_wp2_with fail
        go_at_call 35
        refine (rowsAre_any w4 bs _ _ _ HI2.out).mono ?_
        rintro e w5 ⟨rfl, b5⟩
        rw [HS1.out]
        have B5 : Hid (Blk w5 g3 45 (cellsI bs)) := Lib.hid (B4.out.below b5 B4.out.lt)
        have LC : Hid (Below w.heap.size w w5) := Lib.hid (LB.out.trans (b5.mono LB.out.size))
        clear b5 B4 LB
        cases s2 with
        | false =>
          go_wp2_with (refine wpList_loadAllW 45 _ rfl rfl g3 _ (cellsI bs) _ Try.underlying45 rfl 66 Try.size_block rfl B5 hfl ?_)
          refine ⟨?_⟩
          go_wp2_with fail
          go_at_call 36
          refine (colsAre_any w5 bs _ _ _ HI2.out).mono ?_
          rintro e w6 ⟨rfl, b6⟩
          rw [HS2.out]
          have B6 : Hid (Blk w6 g3 45 (cellsI bs)) := Lib.hid (B5.out.below b6 B5.out.lt)
          have LD : Hid (Below w.heap.size w w6) := Lib.hid (LC.out.trans (b6.mono LC.out.size))
          clear b6 B5 LC
          have H0 := Lib.hid (HNO.out (by rw [HSE.out]; rfl))
          go_wp2
          go_ret2
          exact ⟨_, by rw [H0.out.2]; exact rfl, by rw [H0.out.1]; exact ownSS_nil _ _, LD.out⟩
        | true =>
          go_wp2_with (refine wpList_loadAllW 45 _ rfl rfl g3 _ (cellsI bs) _ Try.underlying45 rfl 66 Try.size_block rfl B5 hfl ?_)
          refine ⟨?_⟩
          go_wp2_with fail
          go_at_call 36
          refine (colsAre_any w5 bs _ _ _ HI2.out).mono ?_
          rintro e w6 ⟨rfl, b6⟩
          rw [HS2.out]
          have B6 : Hid (Blk w6 g3 45 (cellsI bs)) := Lib.hid (B5.out.below b6 B5.out.lt)
          have LD : Hid (Below w.heap.size w w6) := Lib.hid (LC.out.trans (b6.mono LC.out.size))
          clear b6 B5 LC
          have H0 := Lib.hid (HYE.out (by rw [HSE.out]; rfl))
          go_wp2_with (refine wpList_loadAll 45 _ rfl rfl g3 _ (cellsI bs) _ Try.underlying45 rfl 66 Try.size_block rfl B6 hfl ?_)
          refine ⟨?_⟩
          go_wp2_with fail
          go_at_call 37
          refine (searched_any w6 bs _ _ _ h HI2.out).mono ?_
          rintro e w7 ⟨v7, rfl, o7, b7⟩
          have LE : Hid (Below w.heap.size w w7) := Lib.hid (LD.out.trans (b7.mono LD.out.size))
          have O7 := Lib.hid (o7.mono LD.out.size)
          clear b7 o7
          go_wp2
          go_ret2
          exact ⟨_, by rw [H0.out.2]; exact rfl, by rw [H0.out.1]; exact O7.out, LE.out⟩

end Go.Proofs.Ytpoceonmlpnhlab
