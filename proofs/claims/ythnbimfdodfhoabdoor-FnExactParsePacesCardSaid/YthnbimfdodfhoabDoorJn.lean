/- Chapter 5, the program: ParsePaces, with the library's contracts laid; what it asks of the library's variables. -/
import Derived.Test.YthnbimfdodfhoabDoorJm
import Derived.Test.YthnbimfdodfhoabDoorJl
import Derived.Test.YthnbimfdodfhoabDoorShc
import Derived.Shelf.Vars
import Derived.LaidMore
namespace Go.Proofs.YthnbimfdodfhoabDoor
open Go.ChangeShapes Go.WideShapes Go.ChangeAt Go.RowKit Go.Shelf
open Dr Pa Rd

/-- what the library's own variables hold that the road reads: some number, and two errors -/
def Tab_libParse (w : World) : Prop := (∃ m, w.cell? ⟨0, 0, none⟩ = some (.int .i64 m)) ∧ (∃ te pe, w.cell? ⟨1, 0, none⟩ = some (.iface te pe)) ∧ ∃ te pe, w.cell? ⟨2, 0, none⟩ = some (.iface te pe)
theorem keeps_cell {w w1 w2 : World} {p : Addr} {v u : Value} (h : w1.cell? p = some v) (h0 : w.cell? p = some u) (hb : Below w.heap.size w1 w2) : w2.cell? p = some v :=
  (hb.cell (World.block_lt_of_cell? w p h0)).trans h
theorem Tab_libParse.keeps {w w1 w2 : World} (h0 : Tab_libParse w) (h : Tab_libParse w1) (hb : Below w.heap.size w1 w2) : Tab_libParse w2 := by
  obtain ⟨⟨m, a⟩, ⟨t1, p1, b⟩, t2, p2, c⟩ := h
  obtain ⟨⟨m', a'⟩, ⟨t1', p1', b'⟩, t2', p2', c'⟩ := h0
  exact ⟨⟨m, keeps_cell a a' hb⟩, ⟨t1, p1, keeps_cell b b' hb⟩, t2, p2, keeps_cell c c' hb⟩
theorem Tab_libParse.below {w w' : World} (h : Tab_libParse w) (hb : Below w.heap.size w w') : Tab_libParse w' := h.keeps h hb
theorem iface_of_trod {H : Type} {enc : TypeId × Value → H} {P : Program} {w : World} {base : Nat} {sp : Nat → Bool} {held : Bool} {fuel : Nat} {t : TypeId} {cs : List Value} {nm : String} {d : DataW H} {p : List MemPlace} {ms : Array (String × TypeId)}
    (ht : P.underlying t = some (.interface ms)) (h : DataW.trod enc P w base sp held fuel t cs = some (.iface nm d, p)) : ∃ te pe, cs = [.iface te pe] := by
  cases fuel with
  | zero => simp [DataW.trod] at h
  | succ fuel =>
    unfold DataW.trod at h
    rw [ht] at h
    split at h <;> first | (rename_i e; cases e) | skip
    all_goals first | (exact ⟨_, _, rfl⟩) | (simp at h; done)

theorem tab_libParse_of {W : World} (h : laidMetH Tryd.prog Rows.fnExactParsePacesRow.laid W) (hs : W.ShapedOpen Tryd.prog) : Tab_libParse W := by
  rw [MakeChecks.laidMetH_plain _ _ _ (by kernel_rfl)] at h
  obtain ⟨ps, h0, _⟩ := h
  obtain ⟨g0, t0, cs0, f0, p0, q0, hg0, ht0, hv0, hd0, h1, _⟩ := h0
  obtain ⟨g1, t1, cs1, f1, p1, q1, hg1, ht1, hv1, hd1, h2, _⟩ := h1
  obtain ⟨g2, t2, cs2, f2, p2, q2, hg2, ht2, hv2, hd2, h3, _⟩ := h2
  obtain ⟨g3, t3, cs3, f3, p3, q3, hg3, ht3, hv3, hd3, h4, _⟩ := h3
  obtain ⟨g4, t4, cs4, f4, p4, q4, hg4, ht4, hv4, hd4, h5, _⟩ := h4
  obtain ⟨g5, t5, cs5, f5, p5, q5, hg5, ht5, hv5, hd5, h6, _⟩ := h5
  obtain rfl := Option.some.inj ((show Tryd.prog.globalNamed "strconv.ErrRange" = some 2 by kernel_rfl).symm.trans hg4)
  obtain rfl := Option.some.inj ((show Tryd.prog.globalNamed "strconv.ErrSyntax" = some 1 by kernel_rfl).symm.trans hg5)
  obtain rfl := Option.some.inj ((show (Tryd.prog.globals[2]?).map (·.type) = some 53 by kernel_rfl).symm.trans ht4)
  obtain rfl := Option.some.inj ((show (Tryd.prog.globals[1]?).map (·.type) = some 53 by kernel_rfl).symm.trans ht5)
  obtain ⟨te4, pe4, e4⟩ := iface_of_trod Tryd.underlying53 hd4
  obtain ⟨te5, pe5, e5⟩ := iface_of_trod Tryd.underlying53 hd5
  refine ⟨cell_of_shapedOpen_int hs (g := 0) (t := 3) (zero := #[.int .i64 0]) (of_decide_eq_true (by kernel_rfl)) (by kernel_rfl) rfl (by kernel_rfl) (by kernel_rfl) Tryd.underlying3, ⟨te5, pe5, ?_⟩, te4, pe4, ?_⟩
  · rw [World.var?_cell hg5 hv5 0, ← Array.getElem?_toList, e5]; rfl
  · rw [World.var?_cell hg4 hv4 0, ← Array.getElem?_toList, e4]; rfl

theorem implParsePaces_any (w : World) (s : ByteArray) (_ws : s.size ≤ maxLen) (hls : s.size ≤ 1048576) (ht : Tab_libParse w) :
    Calls Tryd.prog 15 #[.string s] w fun e w' => ∃ v0, e = .returned (.tuple #[v0, .bool (outParsePaces_1 s)]) ∧ OwnPace w' w.heap.size v0 (outParsePaces_0 s) ∧ Below w.heap.size w w' := by
  refine implParsePaces_of w s hls Tab_libParse ht (fun w1 w2 _ h1 hb => ht.keeps h1 hb) ?_ ?_ ?_ implPacesText_any
  · intro w ⟨⟨m, hm⟩, _⟩
    exact Tryd.strings_SplitN s ⟨#[44]⟩ 7 m w (by omega) hm (by decide) (by decide) (by decide)
  · intro t w htz ⟨⟨m, hm⟩, _⟩
    exact (Tryd.strings_Cut t ⟨#[43]⟩ m w (by omega) hm).mono fun e w' ⟨he, n, hw⟩ => ⟨he, by rw [hw]; exact drewN_down w n⟩
  · intro t w htz ⟨_, ⟨te, pe, hc1⟩, te2, pe2, hc2⟩
    unfold Pm.atoiV
    cases ha : Lib.atoiAll t.data.toList with
    | ok v => exact (Tryd.strconv_Atoi_ok t (by omega) v ha w).mono fun e w' ⟨he, hw⟩ => ⟨_, he, by
        rcases hw with rfl | ⟨u, rfl⟩
        · exact Below.refl _ _
        · exact Lib.bytesWorld_below _ _ _⟩
    | range => exact (Tryd.strconv_Atoi_range t (by omega) ha _ w hc2 (.inr ⟨_, _, rfl⟩)).mono fun e w' ⟨N, he, _, _, hb⟩ => ⟨_, he, hb⟩
    | _ => exact (Tryd.strconv_Atoi_syntax t (by omega) ha _ w hc1 (.inr ⟨_, _, rfl⟩)).mono fun e w' ⟨N, he, _, _, hb⟩ => ⟨_, he, hb⟩

end Go.Proofs.YthnbimfdodfhoabDoor
