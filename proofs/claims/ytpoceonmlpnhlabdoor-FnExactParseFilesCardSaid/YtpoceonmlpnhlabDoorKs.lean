/- Chapter 6, the program: FilesText, with the library's contracts laid; what it asks of the library's table. -/
import Derived.Test.YtpoceonmlpnhlabDoorKq
import Derived.Test.YtpoceonmlpnhlabDoorSht
import Derived.Test.YtpoceonmlpnhlabDoorDrew
import Derived.Test.YtpoceonmlpnhlabDoorRows
import Derived.Lib.ItoaMem
import Derived.LaidMore
namespace Go.Proofs.YtpoceonmlpnhlabDoor
open Go.ChangeShapes Go.WideShapes Go.ChangeAt Go.RowKit Go.Shelf
open Dr Fi

theorem grow_below (w : World) (k : Nat) (os : Array Obj) : Below w.heap.size w (Go.Sort.grow (w.drewN k) os) :=
  ⟨rfl, rfl, rfl, by rw [Go.Sort.size_grow]; exact Nat.le_add_right _ _, fun j hj => Go.Sort.heap_grow_old (w.drewN k) os hj⟩

theorem tab_libPow_of {W : World} (h : laidMetH Tryd.prog Rows.fnExactFilesTextRow.laid W) (_ : W.ShapedOpen Tryd.prog) : Tab_libPow W := by
  rw [MakeChecks.laidMetH_plain _ _ _ (by kernel_rfl)] at h
  obtain ⟨ps, h0, _⟩ := h
  obtain ⟨g0, t0, cs0, f0, p0, q0, hg0, ht0, hv0, hd0, h1, _⟩ := h0
  obtain ⟨g1, t1, cs1, f1, p1, q1, hg1, ht1, hv1, hd1, h2, _⟩ := h1
  obtain ⟨g2, t2, cs2, f2, p2, q2, hg2, ht2, hv2, hd2, h3, _⟩ := h2
  obtain rfl := Option.some.inj ((show Tryd.prog.globalNamed "internal/strconv.uint64pow10" = some 2 by kernel_rfl).symm.trans hg2)
  obtain rfl := Option.some.inj ((show (Tryd.prog.globals[2]?).map (·.type) = some 90 by kernel_rfl).symm.trans ht2)
  unfold Tab_libPow Lib.TabIs
  rw [hv2, ← Lib.cells_of_tab (k := .u64) (zs := Lib.pow10Tab) Tryd.underlying90 Tryd.underlying70 (by kernel_rfl) (by kernel_rfl) hd2]

theorem implFilesText_any (w : World) (a : Option Addr) (len cap : Nat) (zss : List (List Int)) (hf : FitsSS zss) (hc : CameSS w a len zss) (ht : Tab_libPow w) :
    Calls Tryd.prog 8 #[.slice a len cap] w fun e w' => e = .returned (.tuple #[.string (outFilesText_0 zss), .bool (outFilesText_1 zss)]) ∧ Below w.heap.size w w' :=
  implFilesText_of w a len cap zss hf hc ht
    (fun i w hi ht => (Tryd.strconv_Itoa (i : Int) (by omega) (by omega) w ht).mono fun e w' ⟨he, k, os, hw⟩ => ⟨by rw [he, Lib.itoa_nonneg, digitsF]; rfl, by rw [hw]; exact grow_below w k os⟩)
    (fun sep bk o c xs w h1 h2 h3 h4 h5 => Tryd.strings_Join bk o c xs sep w h1 h2 (by omega) h4 (by omega))

end Go.Proofs.YtpoceonmlpnhlabDoor
