/- Chapter 8, the program: ParseSignal; what it asks of the library's variables. -/
import Derived.Test.YtmlamcimncfmcabDoorSjf
import Derived.Test.YtmlamcimncfmcabDoorAgg
import Derived.Shelf.Vars
import Derived.LaidMore
namespace Go.Proofs.YtmlamcimncfmcabDoor
open Go.ChangeShapes Go.WideShapes Go.ChangeAt Go.RowKit Go.Shelf
open Si Dr Rd

/-- what the library's own variables hold that the road reads: some number, and two errors -/
def Tab_libParse (w : World) : Prop := (∃ m, w.cell? ⟨0, 0, none⟩ = some (.int .i64 m)) ∧ (∃ te pe, w.cell? ⟨1, 0, none⟩ = some (.iface te pe)) ∧ ∃ te pe, w.cell? ⟨2, 0, none⟩ = some (.iface te pe)
theorem keeps_cell {w w1 w2 : World} {p : Addr} {v u : Value} (h : w1.cell? p = some v) (h0 : w.cell? p = some u) (hb : Below w.heap.size w1 w2) : w2.cell? p = some v :=
  (hb.cell (World.block_lt_of_cell? w p h0)).trans h
theorem Tab_libParse.keeps {w w1 w2 : World} (h0 : Tab_libParse w) (h : Tab_libParse w1) (hb : Below w.heap.size w1 w2) : Tab_libParse w2 := by
  obtain ⟨⟨m, a⟩, ⟨t1, p1, b⟩, t2, p2, c⟩ := h
  obtain ⟨⟨m', a'⟩, ⟨t1', p1', b'⟩, t2', p2', c'⟩ := h0
  exact ⟨⟨m, keeps_cell a a' hb⟩, ⟨t1, p1, keeps_cell b b' hb⟩, t2, p2, keeps_cell c c' hb⟩
theorem Tab_libParse.below {w w' : World} (h : Tab_libParse w) (hb : Below w.heap.size w w') : Tab_libParse w' := h.keeps h hb
theorem iface_of_trod {H : Type} {enc : TypeId × Value → H} {P : Program} {w : World} {base : Nat} {sp : Nat → Bool} {held : Bool} {fuel : Nat} {t : TypeId} {cs : List Value} {nm : String} {d : DataW H} {p : List MemPlace} {ms : Array (String × TypeId)}
    (ht : P.underlying t = some (.interface ms)) (h : DataW.trod enc P w base sp held fuel t cs = some (.iface nm d, p)) : ∃ te pe, cs = [.iface te pe] := by
  cases fuel with
  | zero => simp [DataW.trod] at h
  | succ fuel =>
    unfold DataW.trod at h
    rw [ht] at h
    split at h <;> first | (rename_i e; cases e) | skip
    all_goals first | (exact ⟨_, _, rfl⟩) | (simp at h; done)

theorem tab_libParse_of {W : World} (h : laidMetH Tryd.prog Rows.fnExactParseSignalRow.laid W) (hs : W.ShapedOpen Tryd.prog) : Tab_libParse W := by
  rw [MakeChecks.laidMetH_plain _ _ _ (by kernel_rfl)] at h
  obtain ⟨ps, h0, _⟩ := h
  obtain ⟨g0, t0, cs0, f0, p0, q0, hg0, ht0, hv0, hd0, h1, _⟩ := h0
  obtain ⟨g1, t1, cs1, f1, p1, q1, hg1, ht1, hv1, hd1, h2, _⟩ := h1
  obtain ⟨g2, t2, cs2, f2, p2, q2, hg2, ht2, hv2, hd2, h3, _⟩ := h2
  obtain ⟨g3, t3, cs3, f3, p3, q3, hg4, ht4, hv4, hd4, h4, _⟩ := h3
  obtain ⟨g4, t4, cs4, f4, p4, q4, hg5, ht5, hv5, hd5, h5, _⟩ := h4
  obtain rfl := Option.some.inj ((show Tryd.prog.globalNamed "strconv.ErrRange" = some 2 by kernel_rfl).symm.trans hg4)
  obtain rfl := Option.some.inj ((show Tryd.prog.globalNamed "strconv.ErrSyntax" = some 1 by kernel_rfl).symm.trans hg5)
  obtain rfl := Option.some.inj ((show (Tryd.prog.globals[2]?).map (·.type) = some 41 by kernel_rfl).symm.trans ht4)
  obtain rfl := Option.some.inj ((show (Tryd.prog.globals[1]?).map (·.type) = some 41 by kernel_rfl).symm.trans ht5)
  obtain ⟨te4, pe4, e4⟩ := iface_of_trod Tryd.underlying41 hd4
  obtain ⟨te5, pe5, e5⟩ := iface_of_trod Tryd.underlying41 hd5
  refine ⟨cell_of_shapedOpen_int hs (g := 0) (t := 3) (zero := #[.int .i64 0]) (of_decide_eq_true (by kernel_rfl)) (by kernel_rfl) rfl (by kernel_rfl) (by kernel_rfl) Tryd.underlying3, ⟨te5, pe5, ?_⟩, te4, pe4, ?_⟩
  · rw [World.var?_cell hg5 hv5 0, ← Array.getElem?_toList, e5]; rfl
  · rw [World.var?_cell hg4 hv4 0, ← Array.getElem?_toList, e4]; rfl

namespace Si
theorem cut_size (l : List UInt8) (b : UInt8) : (Lib.cut l [b]).1.length ≤ l.length ∧ (Lib.cut l [b]).2.1.length ≤ l.length := by
  unfold Lib.cut
  split
  · exact ⟨by show (List.take _ l).length ≤ _; rw [List.length_take]; omega, by show (List.drop _ l).length ≤ _; rw [List.length_drop]; omega⟩
  · exact ⟨Nat.le_refl _, Nat.zero_le _⟩
theorem str_ne' {q s : ByteArray} (h : ¬ q = s) : (q.toList == s.toList) = false := str_ne h
end Si

theorem cutSig_any (t : ByteArray) (b : UInt8) (htz : t.size ≤ 1048576) (w : World) (h : Tab_libParse w) : Calls Tryd.prog 16 #[.string t, .string ⟨#[b]⟩] w fun e w' => e = .returned (.tuple #[.string ⟨(Lib.cut t.data.toList [b]).1.toArray⟩, .string ⟨(Lib.cut t.data.toList [b]).2.1.toArray⟩, .bool (Lib.cut t.data.toList [b]).2.2]) ∧ Below w.heap.size w w' := by
  obtain ⟨⟨m, hm⟩, _⟩ := h
  exact (Tryd.strings_Cut t ⟨#[b]⟩ m w (by omega) hm).mono fun e w' ⟨he, n, hw⟩ => ⟨he, by rw [hw]; exact drewN_down w n⟩
theorem atoiSig_any (t : ByteArray) (htz : t.size ≤ 1048576) (w : World) (h : Tab_libParse w) : Calls Tryd.prog 17 #[.string t] w fun e w' => ∃ ev, e = .returned (.tuple #[.int .i64 (atoiV t.data.toList), ev]) ∧ Below w.heap.size w w' := by
  obtain ⟨_, ⟨te, pe, hc1⟩, te2, pe2, hc2⟩ := h
  unfold atoiV
  cases ha : Lib.atoiAll t.data.toList with
  | ok v => exact (Tryd.strconv_Atoi_ok t (by omega) v ha w).mono fun e w' ⟨he, hw⟩ => ⟨_, he, by
      rcases hw with rfl | ⟨u, rfl⟩
      · exact Below.refl _ _
      · exact Lib.bytesWorld_below _ _ _⟩
  | range => exact (Tryd.strconv_Atoi_range t (by omega) ha _ w hc2 (.inr ⟨_, _, rfl⟩)).mono fun e w' ⟨N, he, _, _, hb⟩ => ⟨_, he, hb⟩
  | _ => exact (Tryd.strconv_Atoi_syntax t (by omega) ha _ w hc1 (.inr ⟨_, _, rfl⟩)).mono fun e w' ⟨N, he, _, _, hb⟩ => ⟨_, he, hb⟩
set_option maxRecDepth 20000 in
set_option maxHeartbeats 8000000 in
theorem implParseSignal_any (w : World) (t : ByteArray) (_ws : t.size ≤ maxLen) (hls : t.size ≤ 1048576) (ht : Tab_libParse w) :
    Calls Tryd.prog 9 #[.string t] w fun e w' => e = .returned (.tuple #[.agg #[.int .i64 (outParseSignal_0 t).1, .bool (outParseSignal_0 t).2.1, .int .i64 (outParseSignal_0 t).2.2], .bool (outParseSignal_1 t)]) ∧ Below w.heap.size w w' := by
  clear _ws
  have HOP := Lib.hid (parse_is t)
  have HB1 : Hid (Below w.heap.size w (w.alloc (.cells #[.int .i64 0, .bool false, .int .i64 0] 26))) := Lib.hid ((Below.refl _ _).alloc (Nat.le_refl _) _)
  have HT := Lib.hid ht
  have hcs := fun b => cut_size t.data.toList b
  have htl : t.data.toList.length = t.size := Array.length_toList
  obtain ⟨A, hA⟩ : ∃ A : ByteArray, A = ⟨(Lib.cut t.data.toList [60]).1.toArray⟩ := ⟨_, rfl⟩
  obtain ⟨B, hB⟩ : ∃ A : ByteArray, A = ⟨(Lib.cut t.data.toList [60]).2.1.toArray⟩ := ⟨_, rfl⟩
  obtain ⟨C, hC⟩ : ∃ A : ByteArray, A = ⟨(Lib.cut t.data.toList [62]).1.toArray⟩ := ⟨_, rfl⟩
  obtain ⟨D, hD⟩ : ∃ A : ByteArray, A = ⟨(Lib.cut t.data.toList [62]).2.1.toArray⟩ := ⟨_, rfl⟩
  obtain ⟨c, hc⟩ : ∃ c, c = (Lib.cut t.data.toList [62]).2.2 := ⟨_, rfl⟩
  obtain ⟨h, hh⟩ : ∃ h, h = hasL t := ⟨_, rfl⟩
  have HC1 := Lib.hid (fun w2 (k : Tab_libParse w2) => cutSig_any t 60 hls w2 k)
  have HC2 := Lib.hid (fun w2 (k : Tab_libParse w2) => cutSig_any t 62 hls w2 k)
  have hh2 : (Lib.cut t.data.toList [60]).2.2 = h := hh.symm
  rw [← hA, ← hB, hh2] at HC1
  rw [← hC, ← hD, ← hc] at HC2
  -- what is read: two texts
  obtain ⟨U, hU⟩ : ∃ U, U = if h then A else C := ⟨_, rfl⟩
  obtain ⟨V, hV⟩ : ∃ U, U = if h then B else D := ⟨_, rfl⟩
  have hUl : U.data.toList = fromT t := by rw [hU, hA, hC, hh]; unfold fromT; split <;> simp
  have hVl : V.data.toList = slowT t := by rw [hV, hB, hD, hh]; unfold slowT; split <;> simp
  have hUs : U.size ≤ 1048576 := by
    rw [size_data, hUl]; unfold fromT
    split
    · have := (hcs 60).1; omega
    · have := (hcs 62).1; omega
  have hVs : V.size ≤ 1048576 := by
    rw [size_data, hVl]; unfold slowT
    split
    · have := (hcs 60).2; omega
    · have := (hcs 62).2; omega
  have HA1 := Lib.hid (fun w2 (k : Tab_libParse w2) => atoiSig_any U hUs w2 k)
  have HA2 := Lib.hid (fun w2 (k : Tab_libParse w2) => atoiSig_any V hVs w2 k)
  obtain ⟨x, hx⟩ : ∃ x, x = atoiV (fromT t) := ⟨_, rfl⟩
  obtain ⟨y, hy⟩ : ∃ x, x = atoiV (slowT t) := ⟨_, rfl⟩
  rw [hUl, ← hx] at HA1
  rw [hVl, ← hy] at HA2
  have HPS : Hid (progS t = (x, h, y)) := Lib.hid (by unfold progS; rw [hx, hy, hh])
  have HSX := Lib.hid (fun w2 => implSignalText_any w2 x h y)
  obtain ⟨T, hTT⟩ : ∃ T, T = outSignalText_0 (x, h, y) := ⟨_, rfl⟩
  obtain ⟨g, hgg⟩ : ∃ g, g = outSignalText_1 (x, h, y) := ⟨_, rfl⟩
  rw [← hTT, ← hgg] at HSX
  have HPB : Hid (progB t = (g && decide (T = t))) := Lib.hid (by
    unfold progB
    rw [HPS.out, hgg, hTT]
    unfold outSignalText_0 outSignalText_1
    rcases e : sigB 100 (x, h, y) with _ | _
    · rfl
    · rfl)
  have HUV : Hid ((h = true → A = U ∧ B = V) ∧ (h = false → C = U ∧ D = V)) := Lib.hid ⟨fun e => by rw [hU, hV, e]; exact ⟨rfl, rfl⟩, fun e => by rw [hU, hV, e]; exact ⟨rfl, rfl⟩⟩
  have HG1 : Hid (w.heap.size < (w.alloc (.cells #[.int .i64 0, .bool false, .int .i64 0] 26)).heap.size) := Lib.hid (by rw [alloc_size1]; exact Nat.lt_succ_self _)
  have HK0 : Hid (Blk (w.alloc (.cells #[.int .i64 0, .bool false, .int .i64 0] 26)) w.heap.size 26 [.int .i64 0, .bool false, .int .i64 0]) := Lib.hid (heap_alloc_new w _)
  clear ht hcs htl hA hB hC hD hc hh hh2 hU hV hUl hVl hUs hVs hx hy hTT hgg
  -- the walk behind the cuts, from a world on
  have HREST : Hid (∀ wc : World, Below (w.alloc (.cells #[.int .i64 0, .bool false, .int .i64 0] 26)).heap.size (w.alloc (.cells #[.int .i64 0, .bool false, .int .i64 0] 26)) wc → Tab_libParse wc ∧ Blk wc w.heap.size 26 [.int .i64 0, .bool false, .int .i64 0] ∧ Below w.heap.size w wc ∧ w.heap.size < wc.heap.size) := Lib.hid (fun wc hb =>
    ⟨HT.out.below (HB1.out.trans (hb.mono HB1.out.size)), HK0.out.below hb HG1.out, HB1.out.trans (hb.mono HB1.out.size), Nat.lt_of_lt_of_le HG1.out hb.size⟩)
  have HT1 := Lib.hid (HREST.out _ (Below.refl _ _)).1
  cases h with
  | true =>
    obtain ⟨rfl, rfl⟩ := HUV.out.1 rfl
    clear HUV
    go_enter Tryd.func9, Tryd.ntmps9
    go_wp2_with fail
    go_at_call 16
    refine (HC1.out _ HT1.out).mono ?_
    rintro e wc ⟨rfl, bb⟩
    obtain ⟨rt, rk, rb, rz⟩ := HREST.out _ bb
    have RT := Lib.hid rt
    have RK := Lib.hid rk
    have RB := Lib.hid rb
    have RZ := Lib.hid rz
    clear rt rk rb rz bb HREST HK0 HG1 HT1
    have HKs : Hid (Blk (wc.alloc (.cells #[.int .i64 0, .bool true, .int .i64 0] 26)) wc.heap.size 26 [.int .i64 0, .bool true, .int .i64 0]) := Lib.hid (heap_alloc_new wc _)
    have HRs : Hid (Blk (wc.alloc (.cells #[.int .i64 0, .bool true, .int .i64 0] 26)) w.heap.size 26 [.int .i64 0, .bool false, .int .i64 0]) := Lib.hid (RK.out.below ((Below.refl wc.heap.size wc).alloc (Nat.le_refl _) _) RZ.out)
    have HTs : Hid (Tab_libParse (wc.alloc (.cells #[.int .i64 0, .bool true, .int .i64 0] 26))) := Lib.hid (RT.out.below ((Below.refl wc.heap.size wc).alloc (Nat.le_refl _) _))
    have HBs : Hid (Below w.heap.size w (wc.alloc (.cells #[.int .i64 0, .bool true, .int .i64 0] 26))) := Lib.hid (RB.out.alloc RB.out.size _)
    have HLs : Hid (wc.heap.size < (wc.alloc (.cells #[.int .i64 0, .bool true, .int .i64 0] 26)).heap.size) := Lib.hid (by rw [alloc_size1]; exact Nat.lt_succ_self _)
    obtain ⟨g7, hg7⟩ : ∃ g7, g7 = wc.heap.size := ⟨_, rfl⟩
    have HNE : Hid (w.heap.size < g7) := Lib.hid (by rw [hg7]; exact RZ.out)
    rw [← hg7] at HKs HLs
    have HRS0 := Lib.hid (HA1.out _ HTs.out)
    go_wp2_with fail
    go_at_call 17
    refine HRS0.out.mono ?_
    rintro e wd ⟨ev1, rfl, bb⟩
    rw [← hg7]
    have HKd : Hid (Blk wd g7 26 [.int .i64 0, .bool true, .int .i64 0]) := Lib.hid (HKs.out.below bb HLs.out)
    have HRd : Hid (Blk wd w.heap.size 26 [.int .i64 0, .bool false, .int .i64 0]) := Lib.hid (HRs.out.below bb (Nat.lt_trans HNE.out HLs.out))
    have HBd : Hid (Below w.heap.size w wd) := Lib.hid (HBs.out.trans (bb.mono HBs.out.size))
    have HGd : Hid (w.heap.size ≤ g7) := Lib.hid (by rw [hg7]; exact RB.out.size)
    clear bb hg7 HRS0 HKs HRs HTs HBs HLs RT RK RB RZ
    have c0 : wd.cell? ⟨g7, 0, none⟩ = some (.int .i64 0) := HKd.out.cell 0
    have f0 := HKd.out.free 0
    have HK2 : Hid (Blk (wd.setCell ⟨g7, 0, none⟩ (.int .i64 x)) g7 26 [.int .i64 x, .bool true, .int .i64 0]) := Lib.hid (HKd.out.set 0 (.int .i64 x))
    have HB2 : Hid (Below w.heap.size w (wd.setCell ⟨g7, 0, none⟩ (.int .i64 x))) := Lib.hid (HBd.out.setCell (p := ⟨g7, 0, none⟩) HGd.out _)
    have HR2 : Hid (Blk (wd.setCell ⟨g7, 0, none⟩ (.int .i64 x)) w.heap.size 26 [.int .i64 0, .bool false, .int .i64 0]) := Lib.hid (HRd.out.grown (set_grown wd g7 0 _) (fun e => by have := HNE.out; have := Option.some.inj e; omega))
    have HA2b := Lib.hid (HA2.out _ (HT.out.below HB2.out))
    clear HKd HRd HBd
    go_wp2_with fail
    go_at_call 17
    refine HA2b.out.mono ?_
    rintro e we ⟨ev2, rfl, bb⟩
    have HKe : Hid (Blk we g7 26 [.int .i64 x, .bool true, .int .i64 0]) := Lib.hid (HK2.out.below bb HK2.out.lt)
    have HRe : Hid (Blk we w.heap.size 26 [.int .i64 0, .bool false, .int .i64 0]) := Lib.hid (HR2.out.below bb HR2.out.lt)
    have HBe : Hid (Below w.heap.size w we) := Lib.hid (HB2.out.trans (bb.mono HB2.out.size))
    clear bb c0 f0 HA2b HK2 HB2 HR2
    have d0 : we.cell? ⟨g7, 0, none⟩ = some (.int .i64 x) := HKe.out.cell 0
    have d1 : we.cell? ⟨g7, 1, none⟩ = some (.bool true) := HKe.out.cell 1
    have d2 : we.cell? ⟨g7, 2, none⟩ = some (.int .i64 0) := HKe.out.cell 2
    have f2 := HKe.out.free 2
    have HK3 : Hid (Blk (we.setCell ⟨g7, 2, none⟩ (.int .i64 y)) g7 26 [.int .i64 x, .bool true, .int .i64 y]) := Lib.hid (HKe.out.set 2 (.int .i64 y))
    have HB3 : Hid (Below w.heap.size w (we.setCell ⟨g7, 2, none⟩ (.int .i64 y))) := Lib.hid (HBe.out.setCell (p := ⟨g7, 2, none⟩) HGd.out _)
    have HR3 : Hid (Blk (we.setCell ⟨g7, 2, none⟩ (.int .i64 y)) w.heap.size 26 [.int .i64 0, .bool false, .int .i64 0]) := Lib.hid (HRe.out.grown (set_grown we g7 2 _) (fun e => by have := HNE.out; have := Option.some.inj e; omega))
    have HSXe := Lib.hid (HSX.out (we.setCell ⟨g7, 2, none⟩ (.int .i64 y)))
    clear HKe HRe HBe
    go_wp2_with fail
    go_at_call 7
    refine HSXe.out.mono ?_
    rintro e wg ⟨rfl, bb⟩
    have HKg : Hid (Blk wg g7 26 [.int .i64 x, .bool true, .int .i64 y]) := Lib.hid (HK3.out.below bb HK3.out.lt)
    have HRg : Hid (Blk wg w.heap.size 26 [.int .i64 0, .bool false, .int .i64 0]) := Lib.hid (HR3.out.below bb HR3.out.lt)
    have HBg : Hid (Below w.heap.size w wg) := Lib.hid (HB3.out.trans (bb.mono HB3.out.size))
    clear bb d0 d1 d2 f2 HSXe HK3 HB3 HR3
    have k0 : wg.cell? ⟨g7, 0, none⟩ = some (.int .i64 x) := HKg.out.cell 0
    have k1 : wg.cell? ⟨g7, 1, none⟩ = some (.bool true) := HKg.out.cell 1
    have k2 : wg.cell? ⟨g7, 2, none⟩ = some (.int .i64 y) := HKg.out.cell 2
    have r0 : wg.cell? ⟨w.heap.size, 0, none⟩ = some (.int .i64 0) := HRg.out.cell 0
    have r1 : wg.cell? ⟨w.heap.size, 1, none⟩ = some (.bool false) := HRg.out.cell 1
    have r2 : wg.cell? ⟨w.heap.size, 2, none⟩ = some (.int .i64 0) := HRg.out.cell 2
    have q0 := HRg.out.free 0
    have q1 := HRg.out.free 1
    have q2 := HRg.out.free 2
    have HG0 : Hid (w.heap.size ≤ w.heap.size) := Lib.hid (Nat.le_refl _)
    cases g with
    | false =>
      have H0 : Hid (outParseSignal_0 t = (0, false, 0) ∧ outParseSignal_1 t = false) := Lib.hid (by rw [HOP.out.1, HOP.out.2, HPB.out]; exact ⟨rfl, rfl⟩)
      go_wp2
      (try simp only [Exit.inBlock, Exit.then])
      refine bodyPost_ret (results_cell3 rfl _ _ w.heap.size 0 0 false rfl rfl (setS0 r0 r1 r2) (setS1 r0 r1 r2) (setS2 r0 r1 r2)) rfl ?_
      exact ⟨by rw [H0.out.1, H0.out.2]; exact rfl, HBg.out.setCell HG0.out _ |>.setCell HG0.out _ |>.setCell HG0.out _⟩
    | true =>
      by_cases hqs : T = t
      · have H0 : Hid (outParseSignal_0 t = (x, true, y) ∧ outParseSignal_1 t = true) := Lib.hid (by rw [HOP.out.1, HOP.out.2, HPB.out, decide_eq_true hqs, HPS.out]; exact ⟨rfl, rfl⟩)
        have hq : (T.toList == t.toList) = true := by rw [hqs]; simp
        clear hqs
        go_wp2
        (try simp only [Exit.inBlock, Exit.then])
        refine bodyPost_ret (results_cell3 rfl _ _ w.heap.size x y true rfl rfl (setS0 r0 r1 r2) (setS1 r0 r1 r2) (setS2 r0 r1 r2)) rfl ?_
        exact ⟨by rw [H0.out.1, H0.out.2]; exact rfl, HBg.out.setCell HG0.out _ |>.setCell HG0.out _ |>.setCell HG0.out _⟩
      · have H0 : Hid (outParseSignal_0 t = (0, false, 0) ∧ outParseSignal_1 t = false) := Lib.hid (by rw [HOP.out.1, HOP.out.2, HPB.out, decide_eq_false hqs]; exact ⟨rfl, rfl⟩)
        have hq : (T.toList == t.toList) = false := str_ne hqs
        clear hqs
        go_wp2
        (try simp only [Exit.inBlock, Exit.then])
        refine bodyPost_ret (results_cell3 rfl _ _ w.heap.size 0 0 false rfl rfl (setS0 r0 r1 r2) (setS1 r0 r1 r2) (setS2 r0 r1 r2)) rfl ?_
        exact ⟨by rw [H0.out.1, H0.out.2]; exact rfl, HBg.out.setCell HG0.out _ |>.setCell HG0.out _ |>.setCell HG0.out _⟩
  | false =>
    obtain ⟨rfl, rfl⟩ := HUV.out.2 rfl
    clear HUV
    go_enter Tryd.func9, Tryd.ntmps9
    go_wp2_with fail
    go_at_call 16
    refine (HC1.out _ HT1.out).mono ?_
    rintro e wc0 ⟨rfl, bb0⟩
    have HT2 := Lib.hid (HREST.out _ bb0).1
    go_wp2_with fail
    go_at_call 16
    refine (HC2.out _ HT2.out).mono ?_
    rintro e wc ⟨rfl, bb1⟩
    have bb := bb0.trans (bb1.mono bb0.size)
    clear bb0 bb1 HT2
    obtain ⟨rt, rk, rb, rz⟩ := HREST.out _ bb
    have RT := Lib.hid rt
    have RK := Lib.hid rk
    have RB := Lib.hid rb
    have RZ := Lib.hid rz
    clear rt rk rb rz bb HREST HK0 HG1 HT1
    have HKs : Hid (Blk (wc.alloc (.cells #[.int .i64 0, .bool false, .int .i64 0] 26)) wc.heap.size 26 [.int .i64 0, .bool false, .int .i64 0]) := Lib.hid (heap_alloc_new wc _)
    have HRs : Hid (Blk (wc.alloc (.cells #[.int .i64 0, .bool false, .int .i64 0] 26)) w.heap.size 26 [.int .i64 0, .bool false, .int .i64 0]) := Lib.hid (RK.out.below ((Below.refl wc.heap.size wc).alloc (Nat.le_refl _) _) RZ.out)
    have HTs : Hid (Tab_libParse (wc.alloc (.cells #[.int .i64 0, .bool false, .int .i64 0] 26))) := Lib.hid (RT.out.below ((Below.refl wc.heap.size wc).alloc (Nat.le_refl _) _))
    have HBs : Hid (Below w.heap.size w (wc.alloc (.cells #[.int .i64 0, .bool false, .int .i64 0] 26))) := Lib.hid (RB.out.alloc RB.out.size _)
    have HLs : Hid (wc.heap.size < (wc.alloc (.cells #[.int .i64 0, .bool false, .int .i64 0] 26)).heap.size) := Lib.hid (by rw [alloc_size1]; exact Nat.lt_succ_self _)
    obtain ⟨g7, hg7⟩ : ∃ g7, g7 = wc.heap.size := ⟨_, rfl⟩
    have HNE : Hid (w.heap.size < g7) := Lib.hid (by rw [hg7]; exact RZ.out)
    rw [← hg7] at HKs HLs
    have HRS0 := Lib.hid (HA1.out _ HTs.out)
    go_wp2_with fail
    go_at_call 17
    refine HRS0.out.mono ?_
    rintro e wd ⟨ev1, rfl, bb⟩
    rw [← hg7]
    have HKd : Hid (Blk wd g7 26 [.int .i64 0, .bool false, .int .i64 0]) := Lib.hid (HKs.out.below bb HLs.out)
    have HRd : Hid (Blk wd w.heap.size 26 [.int .i64 0, .bool false, .int .i64 0]) := Lib.hid (HRs.out.below bb (Nat.lt_trans HNE.out HLs.out))
    have HBd : Hid (Below w.heap.size w wd) := Lib.hid (HBs.out.trans (bb.mono HBs.out.size))
    have HGd : Hid (w.heap.size ≤ g7) := Lib.hid (by rw [hg7]; exact RB.out.size)
    clear bb hg7 HRS0 HKs HRs HTs HBs HLs RT RK RB RZ
    have c0 : wd.cell? ⟨g7, 0, none⟩ = some (.int .i64 0) := HKd.out.cell 0
    have f0 := HKd.out.free 0
    have HK2 : Hid (Blk (wd.setCell ⟨g7, 0, none⟩ (.int .i64 x)) g7 26 [.int .i64 x, .bool false, .int .i64 0]) := Lib.hid (HKd.out.set 0 (.int .i64 x))
    have HB2 : Hid (Below w.heap.size w (wd.setCell ⟨g7, 0, none⟩ (.int .i64 x))) := Lib.hid (HBd.out.setCell (p := ⟨g7, 0, none⟩) HGd.out _)
    have HR2 : Hid (Blk (wd.setCell ⟨g7, 0, none⟩ (.int .i64 x)) w.heap.size 26 [.int .i64 0, .bool false, .int .i64 0]) := Lib.hid (HRd.out.grown (set_grown wd g7 0 _) (fun e => by have := HNE.out; have := Option.some.inj e; omega))
    have HA2b := Lib.hid (HA2.out _ (HT.out.below HB2.out))
    clear HKd HRd HBd
    go_wp2_with fail
    go_at_call 17
    refine HA2b.out.mono ?_
    rintro e we ⟨ev2, rfl, bb⟩
    have HKe : Hid (Blk we g7 26 [.int .i64 x, .bool false, .int .i64 0]) := Lib.hid (HK2.out.below bb HK2.out.lt)
    have HRe : Hid (Blk we w.heap.size 26 [.int .i64 0, .bool false, .int .i64 0]) := Lib.hid (HR2.out.below bb HR2.out.lt)
    have HBe : Hid (Below w.heap.size w we) := Lib.hid (HB2.out.trans (bb.mono HB2.out.size))
    clear bb c0 f0 HA2b HK2 HB2 HR2
    have d0 : we.cell? ⟨g7, 0, none⟩ = some (.int .i64 x) := HKe.out.cell 0
    have d1 : we.cell? ⟨g7, 1, none⟩ = some (.bool false) := HKe.out.cell 1
    have d2 : we.cell? ⟨g7, 2, none⟩ = some (.int .i64 0) := HKe.out.cell 2
    have f2 := HKe.out.free 2
    have HK3 : Hid (Blk (we.setCell ⟨g7, 2, none⟩ (.int .i64 y)) g7 26 [.int .i64 x, .bool false, .int .i64 y]) := Lib.hid (HKe.out.set 2 (.int .i64 y))
    have HB3 : Hid (Below w.heap.size w (we.setCell ⟨g7, 2, none⟩ (.int .i64 y))) := Lib.hid (HBe.out.setCell (p := ⟨g7, 2, none⟩) HGd.out _)
    have HR3 : Hid (Blk (we.setCell ⟨g7, 2, none⟩ (.int .i64 y)) w.heap.size 26 [.int .i64 0, .bool false, .int .i64 0]) := Lib.hid (HRe.out.grown (set_grown we g7 2 _) (fun e => by have := HNE.out; have := Option.some.inj e; omega))
    have HSXe := Lib.hid (HSX.out (we.setCell ⟨g7, 2, none⟩ (.int .i64 y)))
    clear HKe HRe HBe
    go_wp2_with fail
    go_at_call 7
    refine HSXe.out.mono ?_
    rintro e wg ⟨rfl, bb⟩
    have HKg : Hid (Blk wg g7 26 [.int .i64 x, .bool false, .int .i64 y]) := Lib.hid (HK3.out.below bb HK3.out.lt)
    have HRg : Hid (Blk wg w.heap.size 26 [.int .i64 0, .bool false, .int .i64 0]) := Lib.hid (HR3.out.below bb HR3.out.lt)
    have HBg : Hid (Below w.heap.size w wg) := Lib.hid (HB3.out.trans (bb.mono HB3.out.size))
    clear bb d0 d1 d2 f2 HSXe HK3 HB3 HR3
    have k0 : wg.cell? ⟨g7, 0, none⟩ = some (.int .i64 x) := HKg.out.cell 0
    have k1 : wg.cell? ⟨g7, 1, none⟩ = some (.bool false) := HKg.out.cell 1
    have k2 : wg.cell? ⟨g7, 2, none⟩ = some (.int .i64 y) := HKg.out.cell 2
    have r0 : wg.cell? ⟨w.heap.size, 0, none⟩ = some (.int .i64 0) := HRg.out.cell 0
    have r1 : wg.cell? ⟨w.heap.size, 1, none⟩ = some (.bool false) := HRg.out.cell 1
    have r2 : wg.cell? ⟨w.heap.size, 2, none⟩ = some (.int .i64 0) := HRg.out.cell 2
    have q0 := HRg.out.free 0
    have q1 := HRg.out.free 1
    have q2 := HRg.out.free 2
    have HG0 : Hid (w.heap.size ≤ w.heap.size) := Lib.hid (Nat.le_refl _)
    cases g with
    | false =>
      have H0 : Hid (outParseSignal_0 t = (0, false, 0) ∧ outParseSignal_1 t = false) := Lib.hid (by rw [HOP.out.1, HOP.out.2, HPB.out]; exact ⟨rfl, rfl⟩)
      go_wp2
      (try simp only [Exit.inBlock, Exit.then])
      refine bodyPost_ret (results_cell3 rfl _ _ w.heap.size 0 0 false rfl rfl (setS0 r0 r1 r2) (setS1 r0 r1 r2) (setS2 r0 r1 r2)) rfl ?_
      exact ⟨by rw [H0.out.1, H0.out.2]; exact rfl, HBg.out.setCell HG0.out _ |>.setCell HG0.out _ |>.setCell HG0.out _⟩
    | true =>
      by_cases hqs : T = t
      · have H0 : Hid (outParseSignal_0 t = (x, false, y) ∧ outParseSignal_1 t = true) := Lib.hid (by rw [HOP.out.1, HOP.out.2, HPB.out, decide_eq_true hqs, HPS.out]; exact ⟨rfl, rfl⟩)
        have hq : (T.toList == t.toList) = true := by rw [hqs]; simp
        clear hqs
        go_wp2
        (try simp only [Exit.inBlock, Exit.then])
        refine bodyPost_ret (results_cell3 rfl _ _ w.heap.size x y false rfl rfl (setS0 r0 r1 r2) (setS1 r0 r1 r2) (setS2 r0 r1 r2)) rfl ?_
        exact ⟨by rw [H0.out.1, H0.out.2]; exact rfl, HBg.out.setCell HG0.out _ |>.setCell HG0.out _ |>.setCell HG0.out _⟩
      · have H0 : Hid (outParseSignal_0 t = (0, false, 0) ∧ outParseSignal_1 t = false) := Lib.hid (by rw [HOP.out.1, HOP.out.2, HPB.out, decide_eq_false hqs]; exact ⟨rfl, rfl⟩)
        have hq : (T.toList == t.toList) = false := str_ne hqs
        clear hqs
        go_wp2
        (try simp only [Exit.inBlock, Exit.then])
        refine bodyPost_ret (results_cell3 rfl _ _ w.heap.size 0 0 false rfl rfl (setS0 r0 r1 r2) (setS1 r0 r1 r2) (setS2 r0 r1 r2)) rfl ?_
        exact ⟨by rw [H0.out.1, H0.out.2]; exact rfl, HBg.out.setCell HG0.out _ |>.setCell HG0.out _ |>.setCell HG0.out _⟩

end Go.Proofs.YtmlamcimncfmcabDoor
