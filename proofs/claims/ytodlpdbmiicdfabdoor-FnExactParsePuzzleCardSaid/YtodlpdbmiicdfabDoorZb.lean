/- Chapter 9, the program: isUpTo, isHiddenCount, greatestClue, mustBeOf, isAnyNone (a clue that is none is thrown and known), IsClue, IsPuzzle. -/
import Derived.Test.YtodlpdbmiicdfabDoorZa
import Derived.Test.YtodlpdbmiicdfabDoorLw
import Derived.Test.YtodlpdbmiicdfabDoorBxC
import Derived.Defers
import Derived.Recover
namespace Go.Proofs.YtodlpdbmiicdfabDoor
open Go.ChangeShapes Go.WideShapes Go.ChangeAt Go.RowKit
open Pz

theorem isUpTo_any (m x : Int) (w : World) :
    Calls Tryd.prog 63 #[.int .i64 m, .int .i64 x] w fun e w' => e = .returned (.bool (inB x 0 m)) ∧ w = w' := by
  by_cases h1 : 0 ≤ x
  · by_cases h2 : x ≤ m
    · have HE : Hid (inB x 0 m = true) := Lib.hid (inB_of ⟨h1, h2⟩)
      go_enter Tryd.func63, Tryd.ntmps63
      go_wp2
      go_ret
      exact ⟨ret_bool (by rw [HE.out]), rfl⟩
    · have HE : Hid (inB x 0 m = false) := Lib.hid (inB_no (by omega))
      go_enter Tryd.func63, Tryd.ntmps63
      go_wp2
      go_ret
      exact ⟨ret_bool (by rw [HE.out]), rfl⟩
  · have HE : Hid (inB x 0 m = false) := Lib.hid (inB_no (by omega))
    go_enter Tryd.func63, Tryd.ntmps63
    go_wp2
    go_ret
    exact ⟨ret_bool (by rw [HE.out]), rfl⟩

theorem isHidden_any (s : Int) (w : World) :
    Calls Tryd.prog 34 #[.int .i64 s] w fun e w' => e = .returned (.bool (inB s 1 8)) ∧ w = w' := by
  by_cases h1 : 1 ≤ s
  · by_cases h2 : s ≤ 8
    · have HE : Hid (inB s 1 8 = true) := Lib.hid (inB_of ⟨h1, h2⟩)
      go_enter Tryd.func34, Tryd.ntmps34
      go_wp2
      go_ret
      exact ⟨ret_bool (by rw [HE.out]), rfl⟩
    · have HE : Hid (inB s 1 8 = false) := Lib.hid (inB_no (by omega))
      go_enter Tryd.func34, Tryd.ntmps34
      go_wp2
      go_ret
      exact ⟨ret_bool (by rw [HE.out]), rfl⟩
  · have HE : Hid (inB s 1 8 = false) := Lib.hid (inB_no (by omega))
    go_enter Tryd.func34, Tryd.ntmps34
    go_wp2
    go_ret
    exact ⟨ret_bool (by rw [HE.out]), rfl⟩

/-- a clue and a truth, as results -/
theorem results_cellC {fn : Func} {t u : Tmp} {ty : TypeId} (h : fn.results = #[.cell t ty, .tmp u]) (tmps : Array Value) (w : World) (g : Nat) (x0 x1 x2 x3 : Int) (hty : ty = 44)
    (ht : tmps[t]?.getD undef = .pointer (some ⟨g, 0, none⟩)) (c0 : w.cell? ⟨g, 0, none⟩ = some (.int .i64 x0)) (c1 : w.cell? ⟨g, 1, none⟩ = some (.int .i64 x1)) (c2 : w.cell? ⟨g, 2, none⟩ = some (.int .i64 x2)) (c3 : w.cell? ⟨g, 3, none⟩ = some (.int .i64 x3)) :
    (results fn tmps).run Tryd.prog w = .ok (.tuple #[.agg #[.int .i64 x0, .int .i64 x1, .int .i64 x2, .int .i64 x3], tmps.getD u undef]) w := by
  subst hty
  simp [results, h, ht, c0, c1, c2, c3, go_sem]
theorem two_cell {w : World} {xs : Array Value} {t : TypeId} {o : Obj} {j : Nat} {v : Value} (h : (w.alloc (.cells xs t)).cell? ⟨w.heap.size, j, none⟩ = some v) : ((w.alloc (.cells xs t)).alloc o).cell? ⟨w.heap.size, j, none⟩ = some v :=
  (((Below.refl _ _).alloc (Nat.le_refl _) o).cell (World.block_lt_of_cell? _ _ h)).trans h

set_option maxHeartbeats 1000000 in
theorem greatest_0 (s : Int) (hs : 1 ≤ s ∧ s ≤ 8) (w : World) :
    Calls Tryd.prog 62 #[.int .i64 s, .int .i64 0] w fun e w' => e = .returned (.tuple #[.agg #[.int .i64 0, .int .i64 (s - 1), .int .i64 (20), .int .i64 (1)], .bool true]) ∧ Below w.heap.size w w' := by
  have hw : IntKind.i64.wrap (s - 1) = s - 1 := by rw [IntKind.wrap_i64]; omega
  have HB : Hid (Below w.heap.size w w) := Lib.hid (Below.refl _ _)
  go_enter Tryd.func62, Tryd.ntmps62
  go_wp2
  (try simp only [Exit.inBlock, Exit.then])
  refine bodyPost_ret (results_cellC rfl _ _ w.heap.size 0 (s - 1) (20) (1) rfl rfl (two_cell (by rw [World.cell?_alloc_new]; rfl)) (two_cell (by rw [World.cell?_alloc_new]; rfl)) (two_cell (by rw [World.cell?_alloc_new]; rfl)) (two_cell (by rw [World.cell?_alloc_new]; rfl))) rfl ⟨rfl, ?_⟩
  exact (HB.out.alloc (Nat.le_refl _) _).alloc (by simp) _

set_option maxHeartbeats 1000000 in
theorem greatest_1 (s : Int) (hs : 1 ≤ s ∧ s ≤ 8) (w : World) :
    Calls Tryd.prog 62 #[.int .i64 s, .int .i64 1] w fun e w' => e = .returned (.tuple #[.agg #[.int .i64 1, .int .i64 (0), .int .i64 (0), .int .i64 (s)], .bool true]) ∧ Below w.heap.size w w' := by
  have hw : IntKind.i64.wrap (s - 1) = s - 1 := by rw [IntKind.wrap_i64]; omega
  have HB : Hid (Below w.heap.size w w) := Lib.hid (Below.refl _ _)
  go_enter Tryd.func62, Tryd.ntmps62
  go_wp2
  (try simp only [Exit.inBlock, Exit.then])
  refine bodyPost_ret (results_cellC rfl _ _ w.heap.size 1 (0) (0) (s) rfl rfl (two_cell (by rw [World.cell?_alloc_new]; rfl)) (two_cell (by rw [World.cell?_alloc_new]; rfl)) (two_cell (by rw [World.cell?_alloc_new]; rfl)) (two_cell (by rw [World.cell?_alloc_new]; rfl))) rfl ⟨rfl, ?_⟩
  exact (HB.out.alloc (Nat.le_refl _) _).alloc (by simp) _

set_option maxHeartbeats 1000000 in
theorem greatest_2 (s : Int) (hs : 1 ≤ s ∧ s ≤ 8) (w : World) :
    Calls Tryd.prog 62 #[.int .i64 s, .int .i64 2] w fun e w' => e = .returned (.tuple #[.agg #[.int .i64 2, .int .i64 (0), .int .i64 (0), .int .i64 (20)], .bool true]) ∧ Below w.heap.size w w' := by
  have hw : IntKind.i64.wrap (s - 1) = s - 1 := by rw [IntKind.wrap_i64]; omega
  have HB : Hid (Below w.heap.size w w) := Lib.hid (Below.refl _ _)
  go_enter Tryd.func62, Tryd.ntmps62
  go_wp2
  (try simp only [Exit.inBlock, Exit.then])
  refine bodyPost_ret (results_cellC rfl _ _ w.heap.size 2 (0) (0) (20) rfl rfl (two_cell (by rw [World.cell?_alloc_new]; rfl)) (two_cell (by rw [World.cell?_alloc_new]; rfl)) (two_cell (by rw [World.cell?_alloc_new]; rfl)) (two_cell (by rw [World.cell?_alloc_new]; rfl))) rfl ⟨rfl, ?_⟩
  exact (HB.out.alloc (Nat.le_refl _) _).alloc (by simp) _

set_option maxHeartbeats 1000000 in
theorem greatest_3 (s : Int) (hs : 1 ≤ s ∧ s ≤ 8) (w : World) :
    Calls Tryd.prog 62 #[.int .i64 s, .int .i64 3] w fun e w' => e = .returned (.tuple #[.agg #[.int .i64 3, .int .i64 (0), .int .i64 (0), .int .i64 (8)], .bool true]) ∧ Below w.heap.size w w' := by
  have hw : IntKind.i64.wrap (s - 1) = s - 1 := by rw [IntKind.wrap_i64]; omega
  have HB : Hid (Below w.heap.size w w) := Lib.hid (Below.refl _ _)
  go_enter Tryd.func62, Tryd.ntmps62
  go_wp2
  (try simp only [Exit.inBlock, Exit.then])
  refine bodyPost_ret (results_cellC rfl _ _ w.heap.size 3 (0) (0) (8) rfl rfl (two_cell (by rw [World.cell?_alloc_new]; rfl)) (two_cell (by rw [World.cell?_alloc_new]; rfl)) (two_cell (by rw [World.cell?_alloc_new]; rfl)) (two_cell (by rw [World.cell?_alloc_new]; rfl))) rfl ⟨rfl, ?_⟩
  exact (HB.out.alloc (Nat.le_refl _) _).alloc (by simp) _

set_option maxHeartbeats 1000000 in
theorem greatest_4 (s : Int) (hs : 1 ≤ s ∧ s ≤ 8) (w : World) :
    Calls Tryd.prog 62 #[.int .i64 s, .int .i64 4] w fun e w' => e = .returned (.tuple #[.agg #[.int .i64 4, .int .i64 (s - 1), .int .i64 (0), .int .i64 (20)], .bool true]) ∧ Below w.heap.size w w' := by
  have hw : IntKind.i64.wrap (s - 1) = s - 1 := by rw [IntKind.wrap_i64]; omega
  have HB : Hid (Below w.heap.size w w) := Lib.hid (Below.refl _ _)
  go_enter Tryd.func62, Tryd.ntmps62
  go_wp2
  (try simp only [Exit.inBlock, Exit.then])
  refine bodyPost_ret (results_cellC rfl _ _ w.heap.size 4 (s - 1) (0) (20) rfl rfl (two_cell (by rw [World.cell?_alloc_new]; rfl)) (two_cell (by rw [World.cell?_alloc_new]; rfl)) (two_cell (by rw [World.cell?_alloc_new]; rfl)) (two_cell (by rw [World.cell?_alloc_new]; rfl))) rfl ⟨rfl, ?_⟩
  exact (HB.out.alloc (Nat.le_refl _) _).alloc (by simp) _

set_option maxHeartbeats 1000000 in
theorem greatest_no (s k : Int) (hk : inB k 0 4 = false) (w : World) :
    Calls Tryd.prog 62 #[.int .i64 s, .int .i64 k] w fun e w' => e = .returned (.tuple #[.agg #[.int .i64 0, .int .i64 0, .int .i64 0, .int .i64 0], .bool false]) ∧ Below w.heap.size w w' := by
  have hn := inB_not hk
  have HB : Hid (Below w.heap.size w w) := Lib.hid (Below.refl _ _)
  have k0 : (k == (0 : Int)) = false := by rw [beq_eq_false_iff_ne]; omega
  have k1 : (k == (1 : Int)) = false := by rw [beq_eq_false_iff_ne]; omega
  have k2 : (k == (2 : Int)) = false := by rw [beq_eq_false_iff_ne]; omega
  have k3 : (k == (3 : Int)) = false := by rw [beq_eq_false_iff_ne]; omega
  have k4 : (k == (4 : Int)) = false := by rw [beq_eq_false_iff_ne]; omega
  clear hn hk
  go_enter Tryd.func62, Tryd.ntmps62
  go_wp2
  (try simp only [Exit.inBlock, Exit.then])
  refine bodyPost_ret (results_cellC rfl _ _ w.heap.size 0 0 0 0 rfl rfl (two_cell (by rw [World.cell?_alloc_new]; rfl)) (two_cell (by rw [World.cell?_alloc_new]; rfl)) (two_cell (by rw [World.cell?_alloc_new]; rfl)) (two_cell (by rw [World.cell?_alloc_new]; rfl))) rfl ⟨rfl, ?_⟩
  exact (HB.out.alloc (Nat.le_refl _) _).alloc (by simp) _
theorem greatest_any (s k : Int) (hs : 1 ≤ s ∧ s ≤ 8) (hk : inB k 0 4 = true) (w : World) :
    Calls Tryd.prog 62 #[.int .i64 s, .int .i64 k] w fun e w' => e = .returned (.tuple #[.agg #[.int .i64 k, .int .i64 (grA s k), .int .i64 (grB k), .int .i64 (grC s k)], .bool true]) ∧ Below w.heap.size w w' := by
  obtain ⟨h0, h4⟩ := inB_yes hk
  by_cases e0 : k = 0
  · subst e0; exact greatest_0 s hs w
  by_cases e1 : k = 1
  · subst e1; exact greatest_1 s hs w
  by_cases e2 : k = 2
  · subst e2; exact greatest_2 s hs w
  by_cases e3 : k = 3
  · subst e3; exact greatest_3 s hs w
  obtain rfl : k = 4 := by omega
  exact greatest_4 s hs w

set_option maxHeartbeats 2000000 in
theorem must_ok (s x0 x1 x2 x3 A B C : Int) (hs : 1 ≤ s ∧ s ≤ 8) (hA : grA s x0 = A) (hB : grB x0 = B) (hC : grC s x0 = C) (h0 : inB x0 0 4 = true) (h1 : inB x1 0 A = true) (h2 : inB x2 0 B = true) (h3 : inB x3 0 C = true) (w : World) :
    Calls Tryd.prog 49 #[.agg #[.int .i64 x0, .int .i64 x1, .int .i64 x2, .int .i64 x3], .int .i64 s] w fun e w' => e = .returned (.tuple #[]) ∧ Below w.heap.size w w' := by
  have HG := Lib.hid (fun w2 => greatest_any s x0 hs h0 w2)
  have HB : Hid (Below w.heap.size w (w.alloc (.cells #[.int .i64 x0, .int .i64 x1, .int .i64 x2, .int .i64 x3] 44))) := Lib.hid ((Below.refl _ _).alloc (Nat.le_refl _) _)
  have HX : Hid (BoxClue (w.alloc (.cells #[.int .i64 x0, .int .i64 x1, .int .i64 x2, .int .i64 x3] 44)) w.heap.size x0 x1 x2 x3) := Lib.hid (boxClue_new w x0 x1 x2 x3)
  rw [hA, hB, hC] at HG
  have HU1 := Lib.hid (fun w2 => isUpTo_any A x1 w2)
  rw [h1] at HU1
  have HU2 := Lib.hid (fun w2 => isUpTo_any B x2 w2)
  rw [h2] at HU2
  have HU3 := Lib.hid (fun w2 => isUpTo_any C x3 w2)
  rw [h3] at HU3
  clear hA hB hC h0 h1 h2 h3
  obtain ⟨w0, hw0⟩ : ∃ w0, w0 = w.alloc (.cells #[.int .i64 x0, .int .i64 x1, .int .i64 x2, .int .i64 x3] 44) := ⟨_, rfl⟩
  obtain ⟨pb, hpb⟩ : ∃ pb, pb = w.heap.size := ⟨_, rfl⟩
  rw [← hw0] at HB HX
  rw [← hpb] at HX
  obtain ⟨c0, c1, c2, c3⟩ := HX.out
  go_enter Tryd.func49, Tryd.ntmps49
  go_wp2_with fail
  rw [← hw0, ← hpb]
  clear hw0 hpb
  go_wp2_with fail
  go_at_call 62
  refine (HG.out _).mono ?_
  rintro e w2 ⟨rfl, b2⟩
  have HX2 : Hid (BoxClue (w2.alloc (.cells #[.int .i64 x0, .int .i64 A, .int .i64 B, .int .i64 C] 44)) pb x0 x1 x2 x3) := Lib.hid ((HX.out.below b2).below ((Below.refl _ _).alloc (Nat.le_refl _) _))
  have HB2 : Hid (Below w.heap.size w (w2.alloc (.cells #[.int .i64 x0, .int .i64 A, .int .i64 B, .int .i64 C] 44))) := Lib.hid ((HB.out.trans (b2.mono HB.out.size)).alloc (by have := HB.out.size; have := b2.size; omega) _)
  clear c0 c1 c2 c3 b2 HX
  obtain ⟨c0, c1, c2, c3⟩ := HX2.out
  go_wp2_with fail
  go_at_call 63
  refine (HU1.out _).mono ?_
  rintro e w' ⟨rfl, rfl⟩
  go_wp2_with fail
  go_at_call 63
  refine (HU2.out _).mono ?_
  rintro e w' ⟨rfl, rfl⟩
  go_wp2_with fail
  go_at_call 63
  refine (HU3.out _).mono ?_
  rintro e w' ⟨rfl, rfl⟩
  go_wp2
  first | go_end0 | refine bodyPost_ret (results_none rfl _ _ _) rfl ?_
  exact ⟨rfl, HB2.out⟩

set_option maxHeartbeats 2000000 in
theorem must_k (s x0 x1 x2 x3 : Int) (_hs : 1 ≤ s ∧ s ≤ 8) (h0 : inB x0 0 4 = false) (w : World) :
    Calls Tryd.prog 49 #[.agg #[.int .i64 x0, .int .i64 x1, .int .i64 x2, .int .i64 x3], .int .i64 s] w fun e w' => e = .panicked [{ v := .iface 44 (.agg #[.int .i64 x0, .int .i64 x1, .int .i64 x2, .int .i64 x3]), recovered := false }] ∧ Below w.heap.size w w' := by
  have HG := Lib.hid (fun w2 => greatest_no s x0 h0 w2)
  have HB : Hid (Below w.heap.size w (w.alloc (.cells #[.int .i64 x0, .int .i64 x1, .int .i64 x2, .int .i64 x3] 44))) := Lib.hid ((Below.refl _ _).alloc (Nat.le_refl _) _)
  have HX : Hid (BoxClue (w.alloc (.cells #[.int .i64 x0, .int .i64 x1, .int .i64 x2, .int .i64 x3] 44)) w.heap.size x0 x1 x2 x3) := Lib.hid (boxClue_new w x0 x1 x2 x3)
  clear h0
  obtain ⟨w0, hw0⟩ : ∃ w0, w0 = w.alloc (.cells #[.int .i64 x0, .int .i64 x1, .int .i64 x2, .int .i64 x3] 44) := ⟨_, rfl⟩
  obtain ⟨pb, hpb⟩ : ∃ pb, pb = w.heap.size := ⟨_, rfl⟩
  rw [← hw0] at HB HX
  rw [← hpb] at HX
  obtain ⟨c0, c1, c2, c3⟩ := HX.out
  go_enter Tryd.func49, Tryd.ntmps49
  go_wp2_with fail
  rw [← hw0, ← hpb]
  clear hw0 hpb
  go_wp2_with fail
  go_at_call 62
  refine (HG.out _).mono ?_
  rintro e w2 ⟨rfl, b2⟩
  have HX2 : Hid (BoxClue (w2.alloc (.cells #[.int .i64 0, .int .i64 0, .int .i64 0, .int .i64 0] 44)) pb x0 x1 x2 x3) := Lib.hid ((HX.out.below b2).below ((Below.refl _ _).alloc (Nat.le_refl _) _))
  have HB2 : Hid (Below w.heap.size w (w2.alloc (.cells #[.int .i64 0, .int .i64 0, .int .i64 0, .int .i64 0] 44))) := Lib.hid ((HB.out.trans (b2.mono HB.out.size)).alloc (by have := HB.out.size; have := b2.size; omega) _)
  clear c0 c1 c2 c3 b2 HX
  obtain ⟨c0, c1, c2, c3⟩ := HX2.out
  go_wp2
  exact ⟨rfl, rfl, HB2.out⟩

set_option maxHeartbeats 2000000 in
theorem must_a (s x0 x1 x2 x3 A B C : Int) (hs : 1 ≤ s ∧ s ≤ 8) (hA : grA s x0 = A) (hB : grB x0 = B) (hC : grC s x0 = C) (h0 : inB x0 0 4 = true) (h1 : inB x1 0 A = false) (w : World) :
    Calls Tryd.prog 49 #[.agg #[.int .i64 x0, .int .i64 x1, .int .i64 x2, .int .i64 x3], .int .i64 s] w fun e w' => e = .panicked [{ v := .iface 44 (.agg #[.int .i64 x0, .int .i64 x1, .int .i64 x2, .int .i64 x3]), recovered := false }] ∧ Below w.heap.size w w' := by
  have HG := Lib.hid (fun w2 => greatest_any s x0 hs h0 w2)
  have HB : Hid (Below w.heap.size w (w.alloc (.cells #[.int .i64 x0, .int .i64 x1, .int .i64 x2, .int .i64 x3] 44))) := Lib.hid ((Below.refl _ _).alloc (Nat.le_refl _) _)
  have HX : Hid (BoxClue (w.alloc (.cells #[.int .i64 x0, .int .i64 x1, .int .i64 x2, .int .i64 x3] 44)) w.heap.size x0 x1 x2 x3) := Lib.hid (boxClue_new w x0 x1 x2 x3)
  rw [hA, hB, hC] at HG
  have HU1 := Lib.hid (fun w2 => isUpTo_any A x1 w2)
  rw [h1] at HU1
  clear hA hB hC h0 h1
  obtain ⟨w0, hw0⟩ : ∃ w0, w0 = w.alloc (.cells #[.int .i64 x0, .int .i64 x1, .int .i64 x2, .int .i64 x3] 44) := ⟨_, rfl⟩
  obtain ⟨pb, hpb⟩ : ∃ pb, pb = w.heap.size := ⟨_, rfl⟩
  rw [← hw0] at HB HX
  rw [← hpb] at HX
  obtain ⟨c0, c1, c2, c3⟩ := HX.out
  go_enter Tryd.func49, Tryd.ntmps49
  go_wp2_with fail
  rw [← hw0, ← hpb]
  clear hw0 hpb
  go_wp2_with fail
  go_at_call 62
  refine (HG.out _).mono ?_
  rintro e w2 ⟨rfl, b2⟩
  have HX2 : Hid (BoxClue (w2.alloc (.cells #[.int .i64 x0, .int .i64 A, .int .i64 B, .int .i64 C] 44)) pb x0 x1 x2 x3) := Lib.hid ((HX.out.below b2).below ((Below.refl _ _).alloc (Nat.le_refl _) _))
  have HB2 : Hid (Below w.heap.size w (w2.alloc (.cells #[.int .i64 x0, .int .i64 A, .int .i64 B, .int .i64 C] 44))) := Lib.hid ((HB.out.trans (b2.mono HB.out.size)).alloc (by have := HB.out.size; have := b2.size; omega) _)
  clear c0 c1 c2 c3 b2 HX
  obtain ⟨c0, c1, c2, c3⟩ := HX2.out
  go_wp2_with fail
  go_at_call 63
  refine (HU1.out _).mono ?_
  rintro e w' ⟨rfl, rfl⟩
  go_wp2
  exact ⟨rfl, rfl, HB2.out⟩

set_option maxHeartbeats 2000000 in
theorem must_b (s x0 x1 x2 x3 A B C : Int) (hs : 1 ≤ s ∧ s ≤ 8) (hA : grA s x0 = A) (hB : grB x0 = B) (hC : grC s x0 = C) (h0 : inB x0 0 4 = true) (h1 : inB x1 0 A = true) (h2 : inB x2 0 B = false) (w : World) :
    Calls Tryd.prog 49 #[.agg #[.int .i64 x0, .int .i64 x1, .int .i64 x2, .int .i64 x3], .int .i64 s] w fun e w' => e = .panicked [{ v := .iface 44 (.agg #[.int .i64 x0, .int .i64 x1, .int .i64 x2, .int .i64 x3]), recovered := false }] ∧ Below w.heap.size w w' := by
  have HG := Lib.hid (fun w2 => greatest_any s x0 hs h0 w2)
  have HB : Hid (Below w.heap.size w (w.alloc (.cells #[.int .i64 x0, .int .i64 x1, .int .i64 x2, .int .i64 x3] 44))) := Lib.hid ((Below.refl _ _).alloc (Nat.le_refl _) _)
  have HX : Hid (BoxClue (w.alloc (.cells #[.int .i64 x0, .int .i64 x1, .int .i64 x2, .int .i64 x3] 44)) w.heap.size x0 x1 x2 x3) := Lib.hid (boxClue_new w x0 x1 x2 x3)
  rw [hA, hB, hC] at HG
  have HU1 := Lib.hid (fun w2 => isUpTo_any A x1 w2)
  rw [h1] at HU1
  have HU2 := Lib.hid (fun w2 => isUpTo_any B x2 w2)
  rw [h2] at HU2
  clear hA hB hC h0 h1 h2
  obtain ⟨w0, hw0⟩ : ∃ w0, w0 = w.alloc (.cells #[.int .i64 x0, .int .i64 x1, .int .i64 x2, .int .i64 x3] 44) := ⟨_, rfl⟩
  obtain ⟨pb, hpb⟩ : ∃ pb, pb = w.heap.size := ⟨_, rfl⟩
  rw [← hw0] at HB HX
  rw [← hpb] at HX
  obtain ⟨c0, c1, c2, c3⟩ := HX.out
  go_enter Tryd.func49, Tryd.ntmps49
  go_wp2_with fail
  rw [← hw0, ← hpb]
  clear hw0 hpb
  go_wp2_with fail
  go_at_call 62
  refine (HG.out _).mono ?_
  rintro e w2 ⟨rfl, b2⟩
  have HX2 : Hid (BoxClue (w2.alloc (.cells #[.int .i64 x0, .int .i64 A, .int .i64 B, .int .i64 C] 44)) pb x0 x1 x2 x3) := Lib.hid ((HX.out.below b2).below ((Below.refl _ _).alloc (Nat.le_refl _) _))
  have HB2 : Hid (Below w.heap.size w (w2.alloc (.cells #[.int .i64 x0, .int .i64 A, .int .i64 B, .int .i64 C] 44))) := Lib.hid ((HB.out.trans (b2.mono HB.out.size)).alloc (by have := HB.out.size; have := b2.size; omega) _)
  clear c0 c1 c2 c3 b2 HX
  obtain ⟨c0, c1, c2, c3⟩ := HX2.out
  go_wp2_with fail
  go_at_call 63
  refine (HU1.out _).mono ?_
  rintro e w' ⟨rfl, rfl⟩
  go_wp2_with fail
  go_at_call 63
  refine (HU2.out _).mono ?_
  rintro e w' ⟨rfl, rfl⟩
  go_wp2
  exact ⟨rfl, rfl, HB2.out⟩

set_option maxHeartbeats 2000000 in
theorem must_c (s x0 x1 x2 x3 A B C : Int) (hs : 1 ≤ s ∧ s ≤ 8) (hA : grA s x0 = A) (hB : grB x0 = B) (hC : grC s x0 = C) (h0 : inB x0 0 4 = true) (h1 : inB x1 0 A = true) (h2 : inB x2 0 B = true) (h3 : inB x3 0 C = false) (w : World) :
    Calls Tryd.prog 49 #[.agg #[.int .i64 x0, .int .i64 x1, .int .i64 x2, .int .i64 x3], .int .i64 s] w fun e w' => e = .panicked [{ v := .iface 44 (.agg #[.int .i64 x0, .int .i64 x1, .int .i64 x2, .int .i64 x3]), recovered := false }] ∧ Below w.heap.size w w' := by
  have HG := Lib.hid (fun w2 => greatest_any s x0 hs h0 w2)
  have HB : Hid (Below w.heap.size w (w.alloc (.cells #[.int .i64 x0, .int .i64 x1, .int .i64 x2, .int .i64 x3] 44))) := Lib.hid ((Below.refl _ _).alloc (Nat.le_refl _) _)
  have HX : Hid (BoxClue (w.alloc (.cells #[.int .i64 x0, .int .i64 x1, .int .i64 x2, .int .i64 x3] 44)) w.heap.size x0 x1 x2 x3) := Lib.hid (boxClue_new w x0 x1 x2 x3)
  rw [hA, hB, hC] at HG
  have HU1 := Lib.hid (fun w2 => isUpTo_any A x1 w2)
  rw [h1] at HU1
  have HU2 := Lib.hid (fun w2 => isUpTo_any B x2 w2)
  rw [h2] at HU2
  have HU3 := Lib.hid (fun w2 => isUpTo_any C x3 w2)
  rw [h3] at HU3
  clear hA hB hC h0 h1 h2 h3
  obtain ⟨w0, hw0⟩ : ∃ w0, w0 = w.alloc (.cells #[.int .i64 x0, .int .i64 x1, .int .i64 x2, .int .i64 x3] 44) := ⟨_, rfl⟩
  obtain ⟨pb, hpb⟩ : ∃ pb, pb = w.heap.size := ⟨_, rfl⟩
  rw [← hw0] at HB HX
  rw [← hpb] at HX
  obtain ⟨c0, c1, c2, c3⟩ := HX.out
  go_enter Tryd.func49, Tryd.ntmps49
  go_wp2_with fail
  rw [← hw0, ← hpb]
  clear hw0 hpb
  go_wp2_with fail
  go_at_call 62
  refine (HG.out _).mono ?_
  rintro e w2 ⟨rfl, b2⟩
  have HX2 : Hid (BoxClue (w2.alloc (.cells #[.int .i64 x0, .int .i64 A, .int .i64 B, .int .i64 C] 44)) pb x0 x1 x2 x3) := Lib.hid ((HX.out.below b2).below ((Below.refl _ _).alloc (Nat.le_refl _) _))
  have HB2 : Hid (Below w.heap.size w (w2.alloc (.cells #[.int .i64 x0, .int .i64 A, .int .i64 B, .int .i64 C] 44))) := Lib.hid ((HB.out.trans (b2.mono HB.out.size)).alloc (by have := HB.out.size; have := b2.size; omega) _)
  clear c0 c1 c2 c3 b2 HX
  obtain ⟨c0, c1, c2, c3⟩ := HX2.out
  go_wp2_with fail
  go_at_call 63
  refine (HU1.out _).mono ?_
  rintro e w' ⟨rfl, rfl⟩
  go_wp2_with fail
  go_at_call 63
  refine (HU2.out _).mono ?_
  rintro e w' ⟨rfl, rfl⟩
  go_wp2_with fail
  go_at_call 63
  refine (HU3.out _).mono ?_
  rintro e w' ⟨rfl, rfl⟩
  go_wp2
  exact ⟨rfl, rfl, HB2.out⟩

theorem mustBe_ok (s x0 x1 x2 x3 : Int) (hs : 1 ≤ s ∧ s ≤ 8) (h : clueB s (x0, x1, x2, x3) = true) (w : World) :
    Calls Tryd.prog 49 #[.agg #[.int .i64 x0, .int .i64 x1, .int .i64 x2, .int .i64 x3], .int .i64 s] w fun e w' => e = .returned (.tuple #[]) ∧ Below w.heap.size w w' := by
  rw [clueB_is, Bool.and_eq_true, Bool.and_eq_true, Bool.and_eq_true] at h
  exact must_ok s x0 x1 x2 x3 _ _ _ hs rfl rfl rfl h.1 h.2.1 h.2.2.1 h.2.2.2 w
theorem mustBe_no (s x0 x1 x2 x3 : Int) (hs : 1 ≤ s ∧ s ≤ 8) (h : clueB s (x0, x1, x2, x3) = false) (w : World) :
    Calls Tryd.prog 49 #[.agg #[.int .i64 x0, .int .i64 x1, .int .i64 x2, .int .i64 x3], .int .i64 s] w fun e w' => e = .panicked [{ v := .iface 44 (.agg #[.int .i64 x0, .int .i64 x1, .int .i64 x2, .int .i64 x3]), recovered := false }] ∧ Below w.heap.size w w' := by
  rw [clueB_is] at h
  simp only at h
  rcases h0 : inB x0 0 4 with _ | _
  · exact must_k s x0 x1 x2 x3 hs h0 w
  rcases h1 : inB x1 0 (grA s x0) with _ | _
  · exact must_a s x0 x1 x2 x3 _ _ _ hs rfl rfl rfl h0 h1 w
  rcases h2 : inB x2 0 (grB x0) with _ | _
  · exact must_b s x0 x1 x2 x3 _ _ _ hs rfl rfl rfl h0 h1 h2 w
  rw [h0, h1, h2] at h
  exact must_c s x0 x1 x2 x3 _ _ _ hs rfl rfl rfl h0 h1 h2 h w

@[go_sem] theorem assert_clue (v : Value) (w : World) : (Instr.typeAssert (.iface 44 v) 20 44 true).run Tryd.prog w = .ok (.tuple #[v, .bool true]) w := by kernel_rfl
@[go_sem] theorem assert_nil (w : World) : (Instr.typeAssert .nilIface 20 44 true).run Tryd.prog w = .ok (.tuple #[.agg #[.int .i64 0, .int .i64 0, .int .i64 0, .int .i64 0], .bool false]) w := by kernel_rfl
theorem catch_clue (p : Addr) (u : Value) (x0 x1 x2 x3 : Int) (older : List PanicEntry) (w : World) (hc : w.cell? p = some u) (hz : w.frozen? p = false) :
    CallsD Tryd.prog 48 #[.pointer (some p)] (.panicking ({ v := .iface 44 (.agg #[.int .i64 x0, .int .i64 x1, .int .i64 x2, .int .i64 x3]), recovered := false } :: older)) w fun e u' w' =>
      e = .returned (.tuple #[]) ∧ u' = .panicking ({ v := .iface 44 (.agg #[.int .i64 x0, .int .i64 x1, .int .i64 x2, .int .i64 x3]), recovered := true } :: older) ∧ w' = w.setCell p (.bool true) := by
  refine callsD_of_wpS Tryd.func48 rfl fun c₀ cs hu => ?_
  apply wpS_region
  simp [wpOpsS, go_sem, recoverD, hu, Tryd.ntmps48, hc, hz, bodyPostS, results, Tryd.results48]
theorem catch_idle (p : Addr) (u : Value) (w : World) (hc : w.cell? p = some u) (hz : w.frozen? p = false) :
    CallsD Tryd.prog 48 #[.pointer (some p)] .returning w fun e u' w' => e = .returned (.tuple #[]) ∧ u' = .returning ∧ w' = w.setCell p (.bool false) := by
  refine callsD_of_wpS Tryd.func48 rfl fun c₀ cs hu => ?_
  apply wpS_region
  simp [wpOpsS, go_sem, recoverD, hu, Tryd.ntmps48, hc, hz, bodyPostS, results, Tryd.results48]
  cases c₀
  simp_all
theorem all_no {n : Int} {cs : List RClue} {k : Nat} (hk : k < cs.length) (h : clueB n (cs.getD k zClue) = false) : (!cs.all (clueB n)) = true := by
  rw [Bool.not_eq_true', Bool.eq_false_iff]
  intro ha
  rw [List.all_eq_true] at ha
  have := ha cs[k] (List.getElem_mem hk)
  rw [List.getD_eq_getElem?_getD, List.getElem?_eq_getElem hk] at h
  rw [Option.getD_some] at h
  rw [this] at h; cases h
theorem all_yes {n : Int} {cs : List RClue} (h : ∀ k, k < cs.length → clueB n (cs.getD k zClue) = true) : (!cs.all (clueB n)) = false := by
  rw [Bool.not_eq_false', List.all_eq_true]
  intro c hc
  obtain ⟨k, hk, rfl⟩ := List.getElem_of_mem hc
  have := h k hk
  rwa [List.getD_eq_getElem?_getD, List.getElem?_eq_getElem hk, Option.getD_some] at this
set_option maxHeartbeats 4000000 in
theorem isAnyNone_any (n : Nat) (hn : 1 ≤ n ∧ n ≤ 8) (a : Option Addr) (len cap : Nat) (cs : List RClue) (hl : len ≤ 1048576) (w : World) (hc : CameClue w a len cs) :
    Calls Tryd.prog 35 #[.int .i64 (n : Int), .slice a len cap] w fun e w' => e = .returned (.bool (!cs.all (clueB (n : Int)))) ∧ Below w.heap.size w w' := by
  have hmf : ∀ (fn : Fn) (first cap : Array Value) (w : World), (Instr.makeFunc fn first cap).run Tryd.prog w = .ok (.func fn first cap) w := fun _ _ _ _ => rfl
  obtain ⟨r, hr⟩ : ∃ r, r = !cs.all (clueB (n : Int)) := ⟨_, rfl⟩
  rw [← hr]
  have HR := Lib.hid hr
  clear hr
  obtain ⟨w0, hw0⟩ : ∃ w0, w0 = w.alloc (.cells #[.bool false] 4) := ⟨_, rfl⟩
  obtain ⟨pb, hpb⟩ : ∃ pb, pb = w.heap.size := ⟨_, rfl⟩
  have HW0 : Hid (Below w.heap.size w w0) := Lib.hid (by rw [hw0]; exact (Below.refl _ _).alloc (Nat.le_refl _) _)
  have HPW : Hid (w.heap.size ≤ pb) := Lib.hid (by omega)
  have HPC : Hid (∀ w2, Below w0.heap.size w0 w2 → w2.cell? ⟨pb, 0, none⟩ = some (.bool false) ∧ w2.frozen? ⟨pb, 0, none⟩ = false) := Lib.hid (fun w2 h => by
    have c0 : w0.cell? ⟨pb, 0, none⟩ = some (.bool false) := by rw [hw0, hpb, World.cell?_alloc_new]; rfl
    have f0 : w0.frozen? ⟨pb, 0, none⟩ = false := by rw [hw0, hpb]; simp
    exact ⟨(h.cell (World.block_lt_of_cell? _ _ c0)).trans c0, by simp only [World.frozen?, h.block pb (World.block_lt_of_cell? _ _ c0)]; exact f0⟩)
  have HZ : Hid (cs.length = len) := Lib.hid hc.1
  have HC : Hid (CameClue w0 a len cs) := Lib.hid (hc.below HW0.out)
  clear hc
  go_enter_defers Tryd.func35, Tryd.ntmps35
  go_wp2_with fail
  rw [← hw0, ← hpb]
  clear hw0 hpb
  go_loopw [10] (fun i wr => ∃ k : Nat, k ≤ len ∧ i = .int .i64 (k : Int) ∧ Hid (∀ j, j < k → clueB (n : Int) (cs.getD j zClue) = true) ∧ Hid (Below w0.heap.size w0 wr)) (fun i _ => len - (intOf i).toNat)
  case atStart => exact ⟨0, Nat.zero_le _, rfl, Lib.hid (fun j h => absurd h (Nat.not_lt_zero _)), Lib.hid (Below.refl _ _)⟩
  case round =>
    obtain ⟨k, hk, rfl, HK, HB⟩ := hrel
    by_cases hlt : k < len
    · obtain ⟨b, off, rfl, hcell⟩ := (HC.out.below HB.out).2 (by omega)
      obtain ⟨e0, e1, e2, e3⟩ := hcell k hlt
      have HNO : Hid (clueB (n : Int) (cs.getD k zClue) = false → r = true) := Lib.hid (fun h => by rw [HR.out]; exact all_no (by rw [HZ.out]; exact hlt) h)
      obtain ⟨p, hp⟩ : ∃ p, p = cs.getD k zClue := ⟨_, rfl⟩
      rw [← hp] at e0 e1 e2 e3 HNO
      obtain ⟨x0, x1, x2, x3⟩ := p
      simp only at e0 e1 e2 e3
      have HP := Lib.hid hp
      have i1 : (0 : Int) ≤ (k : Int) := by omega
      have i2 : (k : Int) < (len : Int) := by omega
      have HBA : Hid (Below w0.heap.size w0 (wr.alloc (.cells #[.int .i64 x0, .int .i64 x1, .int .i64 x2, .int .i64 x3] 44))) := Lib.hid (HB.out.alloc HB.out.size _)
      clear hcell hp
      rcases hpb : clueB (n : Int) (x0, x1, x2, x3) with _ | _
      · have HE := Lib.hid (HNO.out hpb)
        have HT := Lib.hid (fun w2 => mustBe_no (n : Int) x0 x1 x2 x3 (by omega) hpb w2)
        clear hpb HNO
        go_wp2_with fail
        go_at_call 49
        refine (HT.out _).mono ?_
        rintro e w2 ⟨rfl, b2⟩
        have HB2 : Hid (Below w0.heap.size w0 w2) := Lib.hid (HBA.out.trans (b2.mono HBA.out.size))
        obtain ⟨c0, f0⟩ := HPC.out w2 HB2.out
        clear b2
        go_wp2
        refine leaves_cons (f := 48) (args := #[.pointer (some ⟨pb, 0, none⟩)]) (by simp) (by simp [go_sem]) ?_
        refine (catch_clue ⟨pb, 0, none⟩ (.bool false) x0 x1 x2 x3 [] _ c0 f0).mono ?_
        rintro e u' w'' ⟨rfl, rfl, rfl⟩
        simp [Leaves, settle, results, Tryd.results35, go_sem, c0]
        exact ⟨HE.out, (HW0.out.trans (HB2.out.mono HW0.out.size)).setCell HPW.out _⟩
      · have HK2 : Hid (∀ j, j < k + 1 → clueB (n : Int) (cs.getD j zClue) = true) := Lib.hid (fun j hj => by
          by_cases e : j = k
          · subst e; rw [← HP.out]; exact hpb
          · exact HK.out j (by omega))
        have HT := Lib.hid (fun w2 => mustBe_ok (n : Int) x0 x1 x2 x3 (by omega) hpb w2)
        clear hpb HNO
        go_wp2_with fail
        go_at_call 49
        refine (HT.out _).mono ?_
        rintro e w2 ⟨rfl, b2⟩
        have HB2 : Hid (Below w0.heap.size w0 w2) := Lib.hid (HBA.out.trans (b2.mono HBA.out.size))
        clear b2
        go_wp2
        go_roundw
        case rel => exact ⟨k + 1, by omega, by go_num, HK2, HB2⟩
        case measure => simp [intOf]; omega
    · have HE : Hid (r = false) := Lib.hid (by rw [HR.out]; exact all_yes (fun j hj => HK.out j (by rw [HZ.out] at hj; omega)))
      obtain ⟨c0, f0⟩ := HPC.out wr HB.out
      go_wp2
      trace_state
      refine leaves_cons (f := 48) (args := #[.pointer (some ⟨pb, 0, none⟩)]) (by simp) (by simp [go_sem]) ?_
      refine (catch_idle ⟨pb, 0, none⟩ (.bool false) _ (World.cell?_setCell_same _ _ _ c0) ((World.frozen?_setCell _ _ _ _).trans f0)).mono ?_
      rintro e u' w'' ⟨rfl, rfl, rfl⟩
      simp [Leaves, settle, results, Tryd.results35, go_sem, c0]
      exact ⟨HE.out, ((HW0.out.trans (HB.out.mono HW0.out.size)).setCell HPW.out _).setCell HPW.out _⟩

end Go.Proofs.YtodlpdbmiicdfabDoor
