/- Chapter 9, the model: pzFits, DoesFit, pzAll. -/
import Derived.Test.YtodlpdbmiicdfaaPzc
import Derived.Test.YtodlpdbmiicdfaaStr
import Derived.Deep.RegionHeldLaw
namespace Go.Proofs.Ytodlpdbmiicdfaa
open Go.ChangeShapes Go.WideShapes Go.ChangeAt Go.RowKit
open Pz

set_option maxHeartbeats 2000000 in
theorem pzFits_any (n : Nat) (x0 x1 x2 x3 : Int) (l : List Bool) (hl : l.length = n) (h1 : 1 ≤ n) (h8 : n ≤ 8) (hcl : clueB (n : Int) (x0, x1, x2, x3) = true) (w : World) :
    Calls Try.prog 57 #[.agg #[.int .i64 x0, .int .i64 x1, .int .i64 x2, .int .i64 x3], .string (Rw.str l)] w fun e w' => e = .returned (.bool (fitsC (x0, x1, x2, x3) l)) ∧ Below w.heap.size w w' := by
  obtain ⟨k, a, b, ok⟩ := ok_of h1 hcl
  obtain rfl : x0 = (k : Int) := ok.kind
  obtain rfl : x1 = (a : Int) := ok.ka
  obtain rfl : x2 = (b : Int) := ok.kb
  have HF : Hid (fitsC ((k : Int), (a : Int), (b : Int), x3) l = decide (((valueN k a b l : Nat) : Int) = x3)) := Lib.hid (fits_of ok l)
  have HV := Lib.hid (fun w2 => pzValue_any k a b l (by omega) (by omega) ok.k4 (by have := ok.an; omega) ok.b20 w2)
  obtain ⟨v, hv⟩ : ∃ v, v = valueN k a b l := ⟨_, rfl⟩
  rw [← hv] at HF HV
  obtain ⟨s, hs⟩ : ∃ s, s = Rw.str l := ⟨_, rfl⟩
  rw [← hs] at HV ⊢
  clear hv hs ok hcl
  obtain ⟨w0, hw0⟩ : ∃ w0, w0 = w.alloc (.cells #[.int .i64 (k : Int), .int .i64 (a : Int), .int .i64 (b : Int), .int .i64 x3] 25) := ⟨_, rfl⟩
  have HW0 : Hid (Below w.heap.size w w0) := Lib.hid (by rw [hw0]; exact (Below.refl _ _).alloc (Nat.le_refl _) _)
  obtain ⟨pb, hpb⟩ : ∃ pb, pb = w.heap.size := ⟨_, rfl⟩
  have HPC : Hid (∀ w2, Below w0.heap.size w0 w2 → w2.cell? ⟨pb, 0, none⟩ = some (.int .i64 (k : Int)) ∧ w2.cell? ⟨pb, 1, none⟩ = some (.int .i64 (a : Int)) ∧ w2.cell? ⟨pb, 2, none⟩ = some (.int .i64 (b : Int)) ∧ w2.cell? ⟨pb, 3, none⟩ = some (.int .i64 x3)) := Lib.hid (fun w2 h => by
    have c0 : w0.cell? ⟨pb, 0, none⟩ = some (.int .i64 (k : Int)) := by rw [hw0, hpb, World.cell?_alloc_new]; rfl
    have c1 : w0.cell? ⟨pb, 1, none⟩ = some (.int .i64 (a : Int)) := by rw [hw0, hpb, World.cell?_alloc_new]; rfl
    have c2 : w0.cell? ⟨pb, 2, none⟩ = some (.int .i64 (b : Int)) := by rw [hw0, hpb, World.cell?_alloc_new]; rfl
    have c3 : w0.cell? ⟨pb, 3, none⟩ = some (.int .i64 x3) := by rw [hw0, hpb, World.cell?_alloc_new]; rfl
    exact ⟨(h.cell (World.block_lt_of_cell? _ _ c0)).trans c0, (h.cell (World.block_lt_of_cell? _ _ c1)).trans c1, (h.cell (World.block_lt_of_cell? _ _ c2)).trans c2, (h.cell (World.block_lt_of_cell? _ _ c3)).trans c3⟩)
  obtain ⟨c0, c1, c2, c3⟩ := HPC.out w0 (Below.refl _ _)
  go_enter Try.func57, Try.ntmps57
  go_wp2_with fail
  rw [← hw0, ← hpb]
  clear hw0 hpb
  go_region_held_law (fun w' : World => w'.cell? ⟨pb, 0, none⟩ = some (.int .i64 (k : Int)) ∧ w'.cell? ⟨pb, 1, none⟩ = some (.int .i64 (a : Int)) ∧ w'.cell? ⟨pb, 2, none⟩ = some (.int .i64 (b : Int)) ∧ w'.cell? ⟨pb, 3, none⟩ = some (.int .i64 x3)) (first | go_keep | exact HPC.out _ ⟨b2.os, b2.tape, b2.output, b2.size, b2.block⟩)
    ((go_at_call 77; refine (HV.out _).mono ?_; rintro e w2 ⟨rfl, b2⟩))
  have HB2 : Hid (Below w0.heap.size w0 w2) := Lib.hid ⟨b2.os, b2.tape, b2.output, b2.size, b2.block⟩
  clear b2 c0 c1 c2 c3
  go_wp2
  go_ret
  exact ⟨ret_bool (by rw [HF.out]; rfl), HW0.out.trans (HB2.out.mono HW0.out.size)⟩

def outDoesFit_1 (c : RClue) (s : ByteArray) : Bool := hidB s && clueB (s.size : Int) c
def outDoesFit_0 (c : RClue) (s : ByteArray) : Bool := outDoesFit_1 c s && fitsC c (bitsV (.string s))
set_option maxHeartbeats 4000000 in
theorem specDoesFit_any (w : World) (x0 x1 x2 x3 : Int) (s : ByteArray) (hls : s.size ≤ 1048576) :
    Calls Try.prog 27 #[.agg #[.int .i64 x0, .int .i64 x1, .int .i64 x2, .int .i64 x3], .string s] w fun e w' => e = .returned (.tuple #[.bool (outDoesFit_0 (x0, x1, x2, x3) s), .bool (outDoesFit_1 (x0, x1, x2, x3) s)]) ∧ Below w.heap.size w w' := by
  have HH := Lib.hid (fun w2 => pzHidden_any s w2 (by unfold maxLen; omega))
  obtain ⟨w0, hw0⟩ : ∃ w0, w0 = w.alloc (.cells #[.int .i64 x0, .int .i64 x1, .int .i64 x2, .int .i64 x3] 25) := ⟨_, rfl⟩
  have HW0 : Hid (Below w.heap.size w w0) := Lib.hid (by rw [hw0]; exact (Below.refl _ _).alloc (Nat.le_refl _) _)
  obtain ⟨pb, hpb⟩ : ∃ pb, pb = w.heap.size := ⟨_, rfl⟩
  have HPC : Hid (∀ w2, Below w0.heap.size w0 w2 → w2.cell? ⟨pb, 0, none⟩ = some (.int .i64 x0) ∧ w2.cell? ⟨pb, 1, none⟩ = some (.int .i64 x1) ∧ w2.cell? ⟨pb, 2, none⟩ = some (.int .i64 x2) ∧ w2.cell? ⟨pb, 3, none⟩ = some (.int .i64 x3)) := Lib.hid (fun w2 h => by
    have c0 : w0.cell? ⟨pb, 0, none⟩ = some (.int .i64 x0) := by rw [hw0, hpb, World.cell?_alloc_new]; rfl
    have c1 : w0.cell? ⟨pb, 1, none⟩ = some (.int .i64 x1) := by rw [hw0, hpb, World.cell?_alloc_new]; rfl
    have c2 : w0.cell? ⟨pb, 2, none⟩ = some (.int .i64 x2) := by rw [hw0, hpb, World.cell?_alloc_new]; rfl
    have c3 : w0.cell? ⟨pb, 3, none⟩ = some (.int .i64 x3) := by rw [hw0, hpb, World.cell?_alloc_new]; rfl
    exact ⟨(h.cell (World.block_lt_of_cell? _ _ c0)).trans c0, (h.cell (World.block_lt_of_cell? _ _ c1)).trans c1, (h.cell (World.block_lt_of_cell? _ _ c2)).trans c2, (h.cell (World.block_lt_of_cell? _ _ c3)).trans c3⟩)
  obtain ⟨c0, c1, c2, c3⟩ := HPC.out w0 (Below.refl _ _)
  rcases hh : hidB s with _ | _
  · have HE : Hid (outDoesFit_1 (x0, x1, x2, x3) s = false ∧ outDoesFit_0 (x0, x1, x2, x3) s = false) := Lib.hid (by unfold outDoesFit_0 outDoesFit_1; rw [hh]; exact ⟨rfl, rfl⟩)
    rw [hh] at HH
    clear hh
    go_enter Try.func27, Try.ntmps27
    go_wp2_with fail
    rw [← hw0, ← hpb]
    clear hw0 hpb
    go_at_call 56
    refine (HH.out _).mono ?_
    rintro e w' ⟨rfl, rfl⟩
    go_wp2
    go_ret2
    exact ⟨by rw [HE.out.1, HE.out.2]; exact rfl, HW0.out⟩
  obtain ⟨l, rfl, hl1, hl8⟩ := hid_row hh
  have hsz : (Rw.str l).size = l.length := Rw.size_str l
  have HC := Lib.hid (fun w2 => pzClue_any l.length (by omega) x0 x1 x2 x3 w2)
  have H1 : Hid (outDoesFit_1 (x0, x1, x2, x3) (Rw.str l) = clueB (l.length : Int) (x0, x1, x2, x3)) := Lib.hid (by unfold outDoesFit_1; rw [hh, hsz]; rfl)
  have H0 : Hid (outDoesFit_0 (x0, x1, x2, x3) (Rw.str l) = (outDoesFit_1 (x0, x1, x2, x3) (Rw.str l) && fitsC (x0, x1, x2, x3) l)) := Lib.hid (by unfold outDoesFit_0; rw [bits_str])
  rw [hh] at HH
  clear hh
  rcases hc : clueB (l.length : Int) (x0, x1, x2, x3) with _ | _
  · have HE : Hid (outDoesFit_1 (x0, x1, x2, x3) (Rw.str l) = false ∧ outDoesFit_0 (x0, x1, x2, x3) (Rw.str l) = false) := Lib.hid (by rw [H0.out, H1.out, hc]; exact ⟨rfl, rfl⟩)
    rw [hc] at HC
    clear hc H0 H1
    obtain ⟨s, hs⟩ : ∃ s, s = Rw.str l := ⟨_, rfl⟩
    rw [← hs] at hsz HH HE ⊢
    have HS := Lib.hid hs
    have hsz2 : (s.size : Int) = (l.length : Int) := by rw [hsz]
    clear hs
    go_enter Try.func27, Try.ntmps27
    go_wp2_with fail
    rw [← hw0, ← hpb]
    clear hw0 hpb
    go_at_call 56
    refine (HH.out _).mono ?_
    rintro e w' ⟨rfl, rfl⟩
    go_wp2_with fail
    go_at_call 43
    refine (HC.out _).mono ?_
    rintro e w2 ⟨rfl, b2⟩
    have HB2 : Hid (Below w0.heap.size w0 w2) := Lib.hid b2
    clear b2
    go_wp2
    go_ret2
    exact ⟨by rw [HE.out.1, HE.out.2]; exact rfl, HW0.out.trans (HB2.out.mono HW0.out.size)⟩
  have HE : Hid (outDoesFit_1 (x0, x1, x2, x3) (Rw.str l) = true ∧ outDoesFit_0 (x0, x1, x2, x3) (Rw.str l) = fitsC (x0, x1, x2, x3) l) := Lib.hid (by rw [H0.out, H1.out, hc]; exact ⟨rfl, rfl⟩)
  have HF := Lib.hid (fun w2 => pzFits_any l.length x0 x1 x2 x3 l rfl hl1 hl8 hc w2)
  rw [hc] at HC
  clear hc H0 H1
  obtain ⟨s, hs⟩ : ∃ s, s = Rw.str l := ⟨_, rfl⟩
  rw [← hs] at hsz HH HE HF ⊢
  have HS := Lib.hid hs
  clear hs
  go_enter Try.func27, Try.ntmps27
  go_wp2_with fail
  rw [← hw0, ← hpb]
  clear hw0 hpb
  go_at_call 56
  refine (HH.out _).mono ?_
  rintro e w' ⟨rfl, rfl⟩
  go_wp2_with fail
  go_at_call 43
  refine (HC.out _).mono ?_
  rintro e w2 ⟨rfl, b2⟩
  have HB2 : Hid (Below w0.heap.size w0 w2) := Lib.hid b2
  clear b2 c0 c1 c2 c3
  obtain ⟨c0, c1, c2, c3⟩ := HPC.out w2 HB2.out
  go_wp2_with fail
  go_at_call 57
  refine (HF.out _).mono ?_
  rintro e w3 ⟨rfl, b3⟩
  have HB3 : Hid (Below w0.heap.size w0 w3) := Lib.hid (HB2.out.trans (b3.mono HB2.out.size))
  clear b3 c0 c1 c2 c3
  go_wp2
  go_ret2
  exact ⟨by rw [HE.out.1, HE.out.2]; exact rfl, HW0.out.trans (HB3.out.mono HW0.out.size)⟩

end Go.Proofs.Ytodlpdbmiicdfaa
