/- Chapter 9, the program: DoesFit. -/
import Derived.Test.YtodlpdbmiicdfaaZf
namespace Go.Proofs.Ytodlpdbmiicdfaa
open Go.ChangeShapes Go.WideShapes Go.ChangeAt Go.RowKit
open Pz

set_option maxHeartbeats 4000000 in
theorem implDoesFit_any (w : World) (x0 x1 x2 x3 : Int) (s : ByteArray) (hls : s.size ≤ 1048576) :
    Calls Try.prog 28 #[.agg #[.int .i64 x0, .int .i64 x1, .int .i64 x2, .int .i64 x3], .string s] w fun e w' => e = .returned (.tuple #[.bool (outDoesFit_0 (x0, x1, x2, x3) s), .bool (outDoesFit_1 (x0, x1, x2, x3) s)]) ∧ Below w.heap.size w w' := by
  have HH := Lib.hid (fun w2 => Tp.isRow_any s w2 (by unfold maxLen; omega))
  have HC := Lib.hid (fun w2 => implIsClue_any w2 (s.size : Int) x0 x1 x2 x3)
  obtain ⟨w0, hw0⟩ : ∃ w0, w0 = w.alloc (.cells #[.int .i64 x0, .int .i64 x1, .int .i64 x2, .int .i64 x3] 25) := ⟨_, rfl⟩
  have HW0 : Hid (Below w.heap.size w w0) := Lib.hid (by rw [hw0]; exact (Below.refl _ _).alloc (Nat.le_refl _) _)
  obtain ⟨pb, hpb⟩ : ∃ pb, pb = w.heap.size := ⟨_, rfl⟩
  have HPC : Hid (∀ w2, Below w0.heap.size w0 w2 → BoxClue w2 pb x0 x1 x2 x3) := Lib.hid (fun w2 h => by
    have c0 : BoxClue w0 pb x0 x1 x2 x3 := by rw [hw0, hpb]; exact boxClue_new _ _ _ _ _
    exact c0.below h)
  obtain ⟨c0, c1, c2, c3⟩ := HPC.out w0 (Below.refl _ _)
  rcases hh : Rx.goodB s with _ | _
  · have HE : Hid (outDoesFit_1 (x0, x1, x2, x3) s = false ∧ outDoesFit_0 (x0, x1, x2, x3) s = false) := Lib.hid (by unfold outDoesFit_0 outDoesFit_1 hidB; rw [hh]; exact ⟨rfl, rfl⟩)
    rw [hh] at HH
    clear hh
    go_enter Try.func28, Try.ntmps28
    go_wp2_with fail
    rw [← hw0, ← hpb]
    clear hw0 hpb
    go_at_call 58
    refine (HH.out _).mono ?_
    rintro e w' ⟨rfl, rfl⟩
    go_wp2
    go_ret2
    exact ⟨by rw [HE.out.1, HE.out.2]; exact rfl, HW0.out⟩
  rcases hc : outIsClue_0 (s.size : Int) (x0, x1, x2, x3) with _ | _
  · have HE : Hid (outDoesFit_1 (x0, x1, x2, x3) s = false ∧ outDoesFit_0 (x0, x1, x2, x3) s = false) := Lib.hid (by
      have h : outDoesFit_1 (x0, x1, x2, x3) s = false := by
        unfold outDoesFit_1 hidB
        rw [hh, Bool.true_and]
        unfold outIsClue_0 at hc
        rcases h8 : decide (s.size ≤ 8) with _ | _
        · rfl
        · rw [Bool.true_and]
          rcases Bool.and_eq_false_iff.1 hc with h | h
          · exfalso
            have h9 := inB_not h
            have h10 := of_decide_eq_true h8
            have h11 := Rx.goodB_row hh
            obtain ⟨l, rfl, h12, _⟩ := h11
            rw [Rw.size_str] at h9 h10; omega
          · exact h
      unfold outDoesFit_0; rw [h]; exact ⟨rfl, rfl⟩)
    rw [hh] at HH
    rw [hc] at HC
    clear hh hc
    go_enter Try.func28, Try.ntmps28
    go_wp2_with fail
    rw [← hw0, ← hpb]
    clear hw0 hpb
    go_at_call 58
    refine (HH.out _).mono ?_
    rintro e w' ⟨rfl, rfl⟩
    go_wp2_with fail
    go_at_call 15
    refine (HC.out _).mono ?_
    rintro e w2 ⟨rfl, b2⟩
    have HB2 : Hid (Below w0.heap.size w0 w2) := Lib.hid b2
    clear b2
    go_wp2
    go_ret2
    exact ⟨by rw [HE.out.1, HE.out.2]; exact rfl, HW0.out.trans (HB2.out.mono HW0.out.size)⟩
  obtain ⟨l, rfl, hl1, _⟩ := Rx.goodB_row hh
  have hsz : (Rw.str l).size = l.length := Rw.size_str l
  have hc1 : inB (l.length : Int) 1 8 = true ∧ clueB (l.length : Int) (x0, x1, x2, x3) = true := by
    unfold outIsClue_0 at hc; rw [hsz, Bool.and_eq_true] at hc; exact hc
  have hl8 : l.length ≤ 8 := by have := inB_yes hc1.1; omega
  have HE : Hid (outDoesFit_1 (x0, x1, x2, x3) (Rw.str l) = true ∧ outDoesFit_0 (x0, x1, x2, x3) (Rw.str l) = fitsC (x0, x1, x2, x3) l) := Lib.hid (by
    have h : outDoesFit_1 (x0, x1, x2, x3) (Rw.str l) = true := by
      unfold outDoesFit_1 hidB; rw [hh, hsz, hc1.2, decide_eq_true hl8]; rfl
    unfold outDoesFit_0; rw [h, bits_str]; exact ⟨rfl, rfl⟩)
  have HT := Lib.hid (fun w2 => toldC_any l.length x0 x1 x2 x3 l rfl hl1 hl8 hc1.2 w2)
  have hft := fits_tell (x0, x1, x2, x3) l
  obtain ⟨V, hV⟩ : ∃ V, V = tellC (x0, x1, x2, x3) l := ⟨_, rfl⟩
  rw [← hV] at HT hft
  simp only at hft
  have HQ : Hid ((x3 == (V : Int)) = fitsC (x0, x1, x2, x3) l) := Lib.hid (by
    rw [hft, Bool.eq_iff_iff, beq_iff_eq, decide_eq_true_eq]; exact eq_comm)
  rw [hh] at HH
  rw [hc] at HC
  clear hh hc hc1 hft hV
  obtain ⟨s, hs⟩ : ∃ s, s = Rw.str l := ⟨_, rfl⟩
  rw [← hs] at HH HE HC HT ⊢
  clear hs hsz
  go_enter Try.func28, Try.ntmps28
  go_wp2_with fail
  rw [← hw0, ← hpb]
  clear hw0 hpb
  go_at_call 58
  refine (HH.out _).mono ?_
  rintro e w' ⟨rfl, rfl⟩
  go_wp2_with fail
  go_at_call 15
  refine (HC.out _).mono ?_
  rintro e w1 ⟨rfl, b1⟩
  have HB1 : Hid (Below w0.heap.size w0 w1) := Lib.hid b1
  clear b1 c0 c1 c2 c3
  obtain ⟨d0, d1, d2, d3⟩ := HPC.out _ HB1.out
  go_wp2_with fail
  go_region_held_law (fun w' : World => w'.cell? ⟨pb, 0, none⟩ = some (.int .i64 x0) ∧ w'.cell? ⟨pb, 1, none⟩ = some (.int .i64 x1) ∧ w'.cell? ⟨pb, 2, none⟩ = some (.int .i64 x2) ∧ w'.cell? ⟨pb, 3, none⟩ = some (.int .i64 x3)) (first | go_keep | exact ⟨q2.c0, q2.c1, q2.c2, q2.c3⟩)
    ((go_at_call 59; refine (HT.out _).mono ?_; rintro e w2 ⟨rfl, b2⟩; have q2 := HPC.out w2 (HB1.out.trans (Below.mono (show Below w1.heap.size w1 w2 from ⟨b2.os, b2.tape, b2.output, b2.size, b2.block⟩) HB1.out.size))))
  have HB2 : Hid (Below w0.heap.size w0 w2) := Lib.hid (HB1.out.trans (Below.mono (show Below w1.heap.size w1 w2 from ⟨b2.os, b2.tape, b2.output, b2.size, b2.block⟩) HB1.out.size))
  clear b2 q2 d0 d1 d2 d3
  go_wp2
  go_ret2
  exact ⟨by rw [HE.out.1, HE.out.2, ← HQ.out]; exact rfl, HW0.out.trans (HB2.out.mono HW0.out.size)⟩

end Go.Proofs.Ytodlpdbmiicdfaa
