/- Chapter 6, the program: ParseFiles, with the library's contracts laid; what it asks of the library's variables. -/
import Derived.Test.YtpoceonmlpnhlabDoorKr
import Derived.Test.YtpoceonmlpnhlabDoorKs
import Derived.Test.YtpoceonmlpnhlabDoorShj
import Derived.Shelf.Vars
namespace Go.Proofs.YtpoceonmlpnhlabDoor
open Go.ChangeShapes Go.WideShapes Go.ChangeAt Go.RowKit Go.Shelf
open Dr Fi Rd

/-- what the library's own variables hold that the road reads: some number, two errors, the powers of ten -/
def Tab_libFiles (w : World) : Prop := ((∃ m, w.cell? ⟨3, 0, none⟩ = some (.int .i64 m)) ∧ (∃ te pe, w.cell? ⟨0, 0, none⟩ = some (.iface te pe)) ∧ ∃ te pe, w.cell? ⟨1, 0, none⟩ = some (.iface te pe)) ∧ Tab_libPow w
theorem Tab_libFiles.below {w w' : World} (h : Tab_libFiles w) (hb : Below w.heap.size w w') : Tab_libFiles w' := by
  obtain ⟨⟨⟨m, a⟩, ⟨t1, p1, b⟩, t2, p2, c⟩, d⟩ := h
  have k : ∀ {p : Addr} {v : Value}, w.cell? p = some v → w'.cell? p = some v := fun e => (hb.cell (World.block_lt_of_cell? w _ e)).trans e
  exact ⟨⟨⟨m, k a⟩, ⟨t1, p1, k b⟩, t2, p2, k c⟩, d.below hb⟩
theorem ifaceF_of_trod {H : Type} {enc : TypeId × Value → H} {P : Program} {w : World} {base : Nat} {sp : Nat → Bool} {held : Bool} {fuel : Nat} {t : TypeId} {cs : List Value} {nm : String} {d : DataW H} {p : List MemPlace} {ms : Array (String × TypeId)}
    (ht : P.underlying t = some (.interface ms)) (h : DataW.trod enc P w base sp held fuel t cs = some (.iface nm d, p)) : ∃ te pe, cs = [.iface te pe] := by
  cases fuel with
  | zero => simp [DataW.trod] at h
  | succ fuel =>
    unfold DataW.trod at h
    rw [ht] at h
    split at h <;> first | (rename_i e; cases e) | skip
    all_goals first | (exact ⟨_, _, rfl⟩) | (simp at h; done)

theorem tab_libFiles_of {W : World} (h : laidMetH Tryd.prog Rows.fnExactParseFilesRow.laid W) (hs : W.ShapedOpen Tryd.prog) : Tab_libFiles W := by
  rw [MakeChecks.laidMetH_plain _ _ _ (by kernel_rfl)] at h
  obtain ⟨ps, h0, _⟩ := h
  obtain ⟨g0, t0, cs0, f0, p0, q0, hg0, ht0, hv0, hd0, h1, _⟩ := h0
  obtain ⟨g1, t1, cs1, f1, p1, q1, hg1, ht1, hv1, hd1, h2, _⟩ := h1
  obtain ⟨g2, t2, cs2, f2, p2, q2, hg2, ht2, hv2, hd2, h3, _⟩ := h2
  obtain ⟨g3, t3, cs3, f3, p3, q3, hg3, ht3, hv3, hd3, h4, _⟩ := h3
  obtain ⟨g4, t4, cs4, f4, p4, q4, hg4, ht4, hv4, hd4, h5, _⟩ := h4
  obtain ⟨g5, t5, cs5, f5, p5, q5, hg5, ht5, hv5, hd5, h6, _⟩ := h5
  obtain rfl := Option.some.inj ((show Tryd.prog.globalNamed "internal/strconv.uint64pow10" = some 2 by kernel_rfl).symm.trans hg2)
  obtain rfl := Option.some.inj ((show (Tryd.prog.globals[2]?).map (·.type) = some 90 by kernel_rfl).symm.trans ht2)
  obtain rfl := Option.some.inj ((show Tryd.prog.globalNamed "strconv.ErrRange" = some 1 by kernel_rfl).symm.trans hg4)
  obtain rfl := Option.some.inj ((show Tryd.prog.globalNamed "strconv.ErrSyntax" = some 0 by kernel_rfl).symm.trans hg5)
  obtain rfl := Option.some.inj ((show (Tryd.prog.globals[1]?).map (·.type) = some 44 by kernel_rfl).symm.trans ht4)
  obtain rfl := Option.some.inj ((show (Tryd.prog.globals[0]?).map (·.type) = some 44 by kernel_rfl).symm.trans ht5)
  obtain ⟨te4, pe4, e4⟩ := ifaceF_of_trod Tryd.underlying44 hd4
  obtain ⟨te5, pe5, e5⟩ := ifaceF_of_trod Tryd.underlying44 hd5
  refine ⟨⟨cell_of_shapedOpen_int hs (g := 3) (t := 3) (zero := #[.int .i64 0]) (of_decide_eq_true (by kernel_rfl)) (by kernel_rfl) rfl (by kernel_rfl) (by kernel_rfl) Tryd.underlying3, ⟨te5, pe5, ?_⟩, te4, pe4, ?_⟩, ?_⟩
  · rw [World.var?_cell hg5 hv5 0, ← Array.getElem?_toList, e5]; rfl
  · rw [World.var?_cell hg4 hv4 0, ← Array.getElem?_toList, e4]; rfl
  · unfold Tab_libPow Lib.TabIs
    rw [hv2, ← Lib.cells_of_tab (k := .u64) (zs := Lib.pow10Tab) Tryd.underlying90 Tryd.underlying70 (by kernel_rfl) (by kernel_rfl) hd2]

theorem spl_cellF (b t : ByteArray) (cp : Nat) (w : World) (j : Nat) (hj : j < (splF b t).length) : (w.alloc (.cells (Lib.cellsOf (splF b t) cp) 9)).cell? ⟨w.heap.size, j, none⟩ = some (.string ((splF b t).getD j ByteArray.empty)) := by
  rw [World.cell?_alloc_new]
  unfold Lib.cellsOf
  rw [List.getElem?_toArray, List.getElem?_append_left (by rw [List.length_map]; exact hj), List.getElem?_map, List.getD_eq_getElem?_getD, List.getElem?_eq_getElem hj]; rfl
theorem implParseFiles_any (w : World) (s : ByteArray) (_ws : s.size ≤ maxLen) (hls : s.size ≤ 1048576) (ht : Tab_libFiles w) :
    Calls Tryd.prog 11 #[.string s] w fun e w' => ∃ v0, e = .returned (.tuple #[v0, .bool (outParseFiles_1 s)]) ∧ OwnSS w' w.heap.size v0 (outParseFiles_0 s) ∧ Below w.heap.size w w' := by
  refine implParseFiles_of w s hls Tab_libFiles (fun w2 hb => ht.below hb) ?_ ?_ (fun w a len cap zss hf hc h => implFilesText_any w a len cap zss hf hc h.2)
  · intro sep t w hsep htz ⟨⟨⟨m, hm⟩, _⟩, _⟩
    refine (Tryd.strings_SplitN t sep 9 m w (by omega) hm hsep (by decide) (by decide)).mono fun e w' ⟨he, hw⟩ => ⟨min 9 (t.size + 1), he, fun j hj => ?_, ?_⟩
    · rw [hw]; exact spl_cellF sep t _ w j hj
    · rw [hw]; exact (Below.refl _ _).alloc (Nat.le_refl _) _
  · intro t w htz ⟨⟨_, ⟨te, pe, hc1⟩, te2, pe2, hc2⟩, _⟩
    unfold atoiF
    cases ha : Lib.atoiAll t.data.toList with
    | ok v => exact (Tryd.strconv_Atoi_ok t (by omega) v ha w).mono fun e w' ⟨he, hw⟩ => ⟨_, he, by
        rcases hw with rfl | ⟨u, rfl⟩
        · exact Below.refl _ _
        · exact Lib.bytesWorld_below _ _ _⟩
    | range => exact (Tryd.strconv_Atoi_range t (by omega) ha _ w hc2 (.inr ⟨_, _, rfl⟩)).mono fun e w' ⟨N, he, _, _, hb⟩ => ⟨_, he, hb⟩
    | _ => exact (Tryd.strconv_Atoi_syntax t (by omega) ha _ w hc1 (.inr ⟨_, _, rfl⟩)).mono fun e w' ⟨N, he, _, _, hb⟩ => ⟨_, he, hb⟩

end Go.Proofs.YtpoceonmlpnhlabDoor
