/- Chapter 9, the model: pzFits, DoesFit, pzAll. -/
import Derived.Test.YtodlpdbmiicdfabPzc
import Derived.Test.YtodlpdbmiicdfabStr
import Derived.Deep.RegionHeldLaw
namespace Go.Proofs.Ytodlpdbmiicdfab
open Go.ChangeShapes Go.WideShapes Go.ChangeAt Go.RowKit
open Pz

set_option maxHeartbeats 2000000 in
theorem pzFits_any (n : Nat) (x0 x1 x2 x3 : Int) (l : List Bool) (hl : l.length = n) (h1 : 1 ≤ n) (h8 : n ≤ 8) (hcl : clueB (n : Int) (x0, x1, x2, x3) = true) (w : World) :
    Calls Try.prog 55 #[.agg #[.int .i64 x0, .int .i64 x1, .int .i64 x2, .int .i64 x3], .string (Rw.str l)] w fun e w' => e = .returned (.bool (fitsC (x0, x1, x2, x3) l)) ∧ Below w.heap.size w w' := by
  obtain ⟨k, a, b, ok⟩ := ok_of h1 hcl
  obtain rfl : x0 = (k : Int) := ok.kind
  obtain rfl : x1 = (a : Int) := ok.ka
  obtain rfl : x2 = (b : Int) := ok.kb
  have HF : Hid (fitsC ((k : Int), (a : Int), (b : Int), x3) l = decide (((valueN k a b l : Nat) : Int) = x3)) := Lib.hid (fits_of ok l)
  have HV := Lib.hid (fun w2 => pzValue_any k a b l (by omega) (by omega) ok.k4 (by have := ok.an; omega) ok.b20 w2)
  obtain ⟨v, hv⟩ : ∃ v, v = valueN k a b l := ⟨_, rfl⟩
  rw [← hv] at HF HV
  obtain ⟨s, hs⟩ : ∃ s, s = Rw.str l := ⟨_, rfl⟩
  rw [← hs] at HV ⊢
  clear hv hs ok hcl
  obtain ⟨w0, hw0⟩ : ∃ w0, w0 = w.alloc (.cells #[.int .i64 (k : Int), .int .i64 (a : Int), .int .i64 (b : Int), .int .i64 x3] 64) := ⟨_, rfl⟩
  have HW0 : Hid (Below w.heap.size w w0) := Lib.hid (by rw [hw0]; exact (Below.refl _ _).alloc (Nat.le_refl _) _)
  obtain ⟨pb, hpb⟩ : ∃ pb, pb = w.heap.size := ⟨_, rfl⟩
  have HPC : Hid (∀ w2, Below w0.heap.size w0 w2 → w2.cell? ⟨pb, 0, none⟩ = some (.int .i64 (k : Int)) ∧ w2.cell? ⟨pb, 1, none⟩ = some (.int .i64 (a : Int)) ∧ w2.cell? ⟨pb, 2, none⟩ = some (.int .i64 (b : Int)) ∧ w2.cell? ⟨pb, 3, none⟩ = some (.int .i64 x3)) := Lib.hid (fun w2 h => by
    have c0 : w0.cell? ⟨pb, 0, none⟩ = some (.int .i64 (k : Int)) := by rw [hw0, hpb, World.cell?_alloc_new]; rfl
    have c1 : w0.cell? ⟨pb, 1, none⟩ = some (.int .i64 (a : Int)) := by rw [hw0, hpb, World.cell?_alloc_new]; rfl
    have c2 : w0.cell? ⟨pb, 2, none⟩ = some (.int .i64 (b : Int)) := by rw [hw0, hpb, World.cell?_alloc_new]; rfl
    have c3 : w0.cell? ⟨pb, 3, none⟩ = some (.int .i64 x3) := by rw [hw0, hpb, World.cell?_alloc_new]; rfl
    exact ⟨(h.cell (World.block_lt_of_cell? _ _ c0)).trans c0, (h.cell (World.block_lt_of_cell? _ _ c1)).trans c1, (h.cell (World.block_lt_of_cell? _ _ c2)).trans c2, (h.cell (World.block_lt_of_cell? _ _ c3)).trans c3⟩)
  obtain ⟨c0, c1, c2, c3⟩ := HPC.out w0 (Below.refl _ _)
  go_enter Try.func55, Try.ntmps55
  go_wp2_with fail
  rw [← hw0, ← hpb]
  clear hw0 hpb
  go_region_held_law (fun w' : World => w'.cell? ⟨pb, 0, none⟩ = some (.int .i64 (k : Int)) ∧ w'.cell? ⟨pb, 1, none⟩ = some (.int .i64 (a : Int)) ∧ w'.cell? ⟨pb, 2, none⟩ = some (.int .i64 (b : Int)) ∧ w'.cell? ⟨pb, 3, none⟩ = some (.int .i64 x3)) (first | go_keep | exact HPC.out _ ⟨b2.os, b2.tape, b2.output, b2.size, b2.block⟩)
    ((go_at_call 66; refine (HV.out _).mono ?_; rintro e w2 ⟨rfl, b2⟩))
  have HB2 : Hid (Below w0.heap.size w0 w2) := Lib.hid ⟨b2.os, b2.tape, b2.output, b2.size, b2.block⟩
  clear b2 c0 c1 c2 c3
  go_wp2
  go_ret
  exact ⟨ret_bool (by rw [HF.out]; rfl), HW0.out.trans (HB2.out.mono HW0.out.size)⟩


end Go.Proofs.Ytodlpdbmiicdfab
