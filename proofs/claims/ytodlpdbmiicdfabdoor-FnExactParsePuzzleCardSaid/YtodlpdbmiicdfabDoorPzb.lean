/- Chapter 9, the model: pzSoldiers, pzClue, pzGood, IsClue, IsPuzzle, pzHidden. -/
import Derived.Test.YtodlpdbmiicdfabDoorPza
namespace Go.Proofs.YtodlpdbmiicdfabDoor
open Go.ChangeShapes Go.WideShapes Go.ChangeAt Go.RowKit
open Pz

theorem pzSoldiers_any (s : Int) (w : World) :
    Calls Tryd.prog 30 #[.int .i64 s] w fun e w' => e = .returned (.bool (inB s 1 8)) ∧ w = w' := by
  have HI := Lib.hid (fun w2 => l1In_any s 1 8 w2)
  go_enter Tryd.func30, Tryd.ntmps30
  go_wp2_with (go_at_call 47; refine (HI.out _).mono ?_; rintro e w' ⟨rfl, rfl⟩)
  go_ret
  exact ⟨rfl, rfl⟩


set_option maxHeartbeats 1000000 in
theorem pzClue_0 (s : Nat) (hs : s ≤ 1000) (a b c : Int) (w : World) :
    Calls Tryd.prog 31 #[.int .i64 (s : Int), .agg #[.int .i64 0, .int .i64 a, .int .i64 b, .int .i64 c]] w fun e w' => e = .returned (.bool (clueB (s : Int) (0, a, b, c))) ∧ Below w.heap.size w w' := by
  have HB : Hid (Below w.heap.size w (w.alloc (.cells #[.int .i64 0, .int .i64 a, .int .i64 b, .int .i64 c] 44))) := Lib.hid ((Below.refl _ _).alloc (Nat.le_refl _) _)
  have HA := Lib.hid (fun w2 => l1In_any a 0 ((s : Int) - 1) w2)
  have HV := Lib.hid (fun w2 => l1In_any b 0 20 w2)
  have HC := Lib.hid (fun x y z w2 => l1In_any x y z w2)
  have hw : IntKind.i64.wrap ((s : Int) - 1) = (s : Int) - 1 := by rw [IntKind.wrap_i64]; omega
  rcases hx : inB a 0 ((s : Int) - 1) with _ | _
  · have HE : Hid (clueB (s : Int) (0, a, b, c) = false) := Lib.hid (by unfold clueB; simp [hx])
    rw [hx] at HA; clear hx
    go_enter Tryd.func31, Tryd.ntmps31
    go_wp2_with fail
    go_at_call 47
    refine (HA.out _).mono ?_
    rintro e w' ⟨rfl, rfl⟩
    go_wp2
    go_ret
    exact ⟨ret_bool (by rw [HE.out]), HB.out⟩
  rw [hx] at HA
  rcases hy : inB b 0 20 with _ | _
  · have HE : Hid (clueB (s : Int) (0, a, b, c) = false) := Lib.hid (by unfold clueB; simp [hx, hy])
    rw [hy] at HV; clear hx hy
    go_enter Tryd.func31, Tryd.ntmps31
    go_wp2_with fail
    go_at_call 47
    refine (HA.out _).mono ?_
    rintro e w' ⟨rfl, rfl⟩
    go_wp2_with fail
    go_at_call 47
    refine (HV.out _).mono ?_
    rintro e w' ⟨rfl, rfl⟩
    go_wp2
    go_ret
    exact ⟨ret_bool (by rw [HE.out]), HB.out⟩
  rw [hy] at HV
  have HE : Hid (clueB (s : Int) (0, a, b, c) = inB c 0 1) := Lib.hid (by unfold clueB; simp [hx, hy])
  clear hx hy
  go_enter Tryd.func31, Tryd.ntmps31
  go_wp2_with fail
  go_at_call 47
  refine (HA.out _).mono ?_
  rintro e w' ⟨rfl, rfl⟩
  go_wp2_with fail
  go_at_call 47
  refine (HV.out _).mono ?_
  rintro e w' ⟨rfl, rfl⟩
  go_wp2_with fail
  go_at_call 47
  refine (HC.out _ _ _ _).mono ?_
  rintro e w' ⟨rfl, rfl⟩
  go_wp2
  go_ret
  exact ⟨ret_bool (by rw [HE.out]), HB.out⟩
set_option maxHeartbeats 1000000 in
theorem pzClue_1 (s : Nat) (hs : s ≤ 1000) (a b c : Int) (w : World) :
    Calls Tryd.prog 31 #[.int .i64 (s : Int), .agg #[.int .i64 1, .int .i64 a, .int .i64 b, .int .i64 c]] w fun e w' => e = .returned (.bool (clueB (s : Int) (1, a, b, c))) ∧ Below w.heap.size w w' := by
  have HB : Hid (Below w.heap.size w (w.alloc (.cells #[.int .i64 1, .int .i64 a, .int .i64 b, .int .i64 c] 44))) := Lib.hid ((Below.refl _ _).alloc (Nat.le_refl _) _)
  have HA := Lib.hid (fun w2 => l1In_any a 0 ((s : Int) - 1) w2)
  have HV := Lib.hid (fun w2 => l1In_any b 0 20 w2)
  have HC := Lib.hid (fun x y z w2 => l1In_any x y z w2)
  have hw : IntKind.i64.wrap ((s : Int) - 1) = (s : Int) - 1 := by rw [IntKind.wrap_i64]; omega
  by_cases hx : a = 0
  rotate_left
  · have HE : Hid (clueB (s : Int) (1, a, b, c) = false) := Lib.hid (by unfold clueB; simp [hx])
    have g : (a == (0 : Int)) = false := by simp [hx]
    go_enter Tryd.func31, Tryd.ntmps31
    go_wp2
    go_ret
    exact ⟨ret_bool (by rw [HE.out]), HB.out⟩
  subst hx
  by_cases hy : b = 0
  rotate_left
  · have HE : Hid (clueB (s : Int) (1, 0, b, c) = false) := Lib.hid (by unfold clueB; simp [hy])
    have g : (b == (0 : Int)) = false := by simp [hy]
    go_enter Tryd.func31, Tryd.ntmps31
    go_wp2
    go_ret
    exact ⟨ret_bool (by rw [HE.out]), HB.out⟩
  subst hy
  have HE : Hid (clueB (s : Int) (1, 0, 0, c) = inB c 0 (s : Int)) := Lib.hid (by unfold clueB; simp)
  go_enter Tryd.func31, Tryd.ntmps31
  go_wp2_with fail
  go_at_call 47
  refine (HC.out _ _ _ _).mono ?_
  rintro e w' ⟨rfl, rfl⟩
  go_wp2
  go_ret
  exact ⟨ret_bool (by rw [HE.out]), HB.out⟩
set_option maxHeartbeats 1000000 in
theorem pzClue_2 (s : Nat) (hs : s ≤ 1000) (a b c : Int) (w : World) :
    Calls Tryd.prog 31 #[.int .i64 (s : Int), .agg #[.int .i64 2, .int .i64 a, .int .i64 b, .int .i64 c]] w fun e w' => e = .returned (.bool (clueB (s : Int) (2, a, b, c))) ∧ Below w.heap.size w w' := by
  have HB : Hid (Below w.heap.size w (w.alloc (.cells #[.int .i64 2, .int .i64 a, .int .i64 b, .int .i64 c] 44))) := Lib.hid ((Below.refl _ _).alloc (Nat.le_refl _) _)
  have HA := Lib.hid (fun w2 => l1In_any a 0 ((s : Int) - 1) w2)
  have HV := Lib.hid (fun w2 => l1In_any b 0 20 w2)
  have HC := Lib.hid (fun x y z w2 => l1In_any x y z w2)
  have hw : IntKind.i64.wrap ((s : Int) - 1) = (s : Int) - 1 := by rw [IntKind.wrap_i64]; omega
  by_cases hx : a = 0
  rotate_left
  · have HE : Hid (clueB (s : Int) (2, a, b, c) = false) := Lib.hid (by unfold clueB; simp [hx])
    have g : (a == (0 : Int)) = false := by simp [hx]
    go_enter Tryd.func31, Tryd.ntmps31
    go_wp2
    go_ret
    exact ⟨ret_bool (by rw [HE.out]), HB.out⟩
  subst hx
  by_cases hy : b = 0
  rotate_left
  · have HE : Hid (clueB (s : Int) (2, 0, b, c) = false) := Lib.hid (by unfold clueB; simp [hy])
    have g : (b == (0 : Int)) = false := by simp [hy]
    go_enter Tryd.func31, Tryd.ntmps31
    go_wp2
    go_ret
    exact ⟨ret_bool (by rw [HE.out]), HB.out⟩
  subst hy
  have HE : Hid (clueB (s : Int) (2, 0, 0, c) = inB c 0 20) := Lib.hid (by unfold clueB; simp)
  go_enter Tryd.func31, Tryd.ntmps31
  go_wp2_with fail
  go_at_call 47
  refine (HC.out _ _ _ _).mono ?_
  rintro e w' ⟨rfl, rfl⟩
  go_wp2
  go_ret
  exact ⟨ret_bool (by rw [HE.out]), HB.out⟩
set_option maxHeartbeats 1000000 in
theorem pzClue_3 (s : Nat) (hs : s ≤ 1000) (a b c : Int) (w : World) :
    Calls Tryd.prog 31 #[.int .i64 (s : Int), .agg #[.int .i64 3, .int .i64 a, .int .i64 b, .int .i64 c]] w fun e w' => e = .returned (.bool (clueB (s : Int) (3, a, b, c))) ∧ Below w.heap.size w w' := by
  have HB : Hid (Below w.heap.size w (w.alloc (.cells #[.int .i64 3, .int .i64 a, .int .i64 b, .int .i64 c] 44))) := Lib.hid ((Below.refl _ _).alloc (Nat.le_refl _) _)
  have HA := Lib.hid (fun w2 => l1In_any a 0 ((s : Int) - 1) w2)
  have HV := Lib.hid (fun w2 => l1In_any b 0 20 w2)
  have HC := Lib.hid (fun x y z w2 => l1In_any x y z w2)
  have hw : IntKind.i64.wrap ((s : Int) - 1) = (s : Int) - 1 := by rw [IntKind.wrap_i64]; omega
  by_cases hx : a = 0
  rotate_left
  · have HE : Hid (clueB (s : Int) (3, a, b, c) = false) := Lib.hid (by unfold clueB; simp [hx])
    have g : (a == (0 : Int)) = false := by simp [hx]
    go_enter Tryd.func31, Tryd.ntmps31
    go_wp2
    go_ret
    exact ⟨ret_bool (by rw [HE.out]), HB.out⟩
  subst hx
  by_cases hy : b = 0
  rotate_left
  · have HE : Hid (clueB (s : Int) (3, 0, b, c) = false) := Lib.hid (by unfold clueB; simp [hy])
    have g : (b == (0 : Int)) = false := by simp [hy]
    go_enter Tryd.func31, Tryd.ntmps31
    go_wp2
    go_ret
    exact ⟨ret_bool (by rw [HE.out]), HB.out⟩
  subst hy
  have HE : Hid (clueB (s : Int) (3, 0, 0, c) = inB c 0 8) := Lib.hid (by unfold clueB; simp)
  go_enter Tryd.func31, Tryd.ntmps31
  go_wp2_with fail
  go_at_call 47
  refine (HC.out _ _ _ _).mono ?_
  rintro e w' ⟨rfl, rfl⟩
  go_wp2
  go_ret
  exact ⟨ret_bool (by rw [HE.out]), HB.out⟩
set_option maxHeartbeats 1000000 in
theorem pzClue_4 (s : Nat) (hs : s ≤ 1000) (a b c : Int) (w : World) :
    Calls Tryd.prog 31 #[.int .i64 (s : Int), .agg #[.int .i64 4, .int .i64 a, .int .i64 b, .int .i64 c]] w fun e w' => e = .returned (.bool (clueB (s : Int) (4, a, b, c))) ∧ Below w.heap.size w w' := by
  have HB : Hid (Below w.heap.size w (w.alloc (.cells #[.int .i64 4, .int .i64 a, .int .i64 b, .int .i64 c] 44))) := Lib.hid ((Below.refl _ _).alloc (Nat.le_refl _) _)
  have HA := Lib.hid (fun w2 => l1In_any a 0 ((s : Int) - 1) w2)
  have HV := Lib.hid (fun w2 => l1In_any b 0 20 w2)
  have HC := Lib.hid (fun x y z w2 => l1In_any x y z w2)
  have hw : IntKind.i64.wrap ((s : Int) - 1) = (s : Int) - 1 := by rw [IntKind.wrap_i64]; omega
  rcases hx : inB a 0 ((s : Int) - 1) with _ | _
  · have HE : Hid (clueB (s : Int) (4, a, b, c) = false) := Lib.hid (by unfold clueB; simp [hx])
    rw [hx] at HA; clear hx
    go_enter Tryd.func31, Tryd.ntmps31
    go_wp2_with fail
    go_at_call 47
    refine (HA.out _).mono ?_
    rintro e w' ⟨rfl, rfl⟩
    go_wp2
    go_ret
    exact ⟨ret_bool (by rw [HE.out]), HB.out⟩
  rw [hx] at HA
  by_cases hy : b = 0
  rotate_left
  · have HE : Hid (clueB (s : Int) (4, a, b, c) = false) := Lib.hid (by unfold clueB; simp [hx, hy])
    have g : (b == (0 : Int)) = false := by simp [hy]
    clear hx
    go_enter Tryd.func31, Tryd.ntmps31
    go_wp2_with fail
    go_at_call 47
    refine (HA.out _).mono ?_
    rintro e w' ⟨rfl, rfl⟩
    go_wp2
    go_ret
    exact ⟨ret_bool (by rw [HE.out]), HB.out⟩
  subst hy
  have HE : Hid (clueB (s : Int) (4, a, 0, c) = inB c 0 20) := Lib.hid (by unfold clueB; simp [hx])
  clear hx
  go_enter Tryd.func31, Tryd.ntmps31
  go_wp2_with fail
  go_at_call 47
  refine (HA.out _).mono ?_
  rintro e w' ⟨rfl, rfl⟩
  go_wp2_with fail
  go_at_call 47
  refine (HC.out _ _ _ _).mono ?_
  rintro e w' ⟨rfl, rfl⟩
  go_wp2
  go_ret
  exact ⟨ret_bool (by rw [HE.out]), HB.out⟩
set_option maxHeartbeats 1000000 in
theorem pzClue_any (s : Nat) (hs : s ≤ 1000) (k a b c : Int) (w : World) :
    Calls Tryd.prog 31 #[.int .i64 (s : Int), .agg #[.int .i64 k, .int .i64 a, .int .i64 b, .int .i64 c]] w fun e w' => e = .returned (.bool (clueB (s : Int) (k, a, b, c))) ∧ Below w.heap.size w w' := by
  have HB : Hid (Below w.heap.size w (w.alloc (.cells #[.int .i64 k, .int .i64 a, .int .i64 b, .int .i64 c] 44))) := Lib.hid ((Below.refl _ _).alloc (Nat.le_refl _) _)
  have HA := Lib.hid (fun w2 => l1In_any a 0 ((s : Int) - 1) w2)
  have HV := Lib.hid (fun w2 => l1In_any b 0 20 w2)
  have HC := Lib.hid (fun x y z w2 => l1In_any x y z w2)
  have hw : IntKind.i64.wrap ((s : Int) - 1) = (s : Int) - 1 := by rw [IntKind.wrap_i64]; omega
  by_cases h0 : k = 0
  · subst h0; exact pzClue_0 s hs a b c w
  by_cases h1 : k = 1
  · subst h1; exact pzClue_1 s hs a b c w
  by_cases h2 : k = 2
  · subst h2; exact pzClue_2 s hs a b c w
  by_cases h3 : k = 3
  · subst h3; exact pzClue_3 s hs a b c w
  by_cases h4 : k = 4
  · subst h4; exact pzClue_4 s hs a b c w
  have HE : Hid (clueB (s : Int) (k, a, b, c) = false) := Lib.hid (by unfold clueB; simp [h0, h1, h2, h3, h4])
  have g0 : (k == (0 : Int)) = false := by simp [h0]
  have g1 : (k == (1 : Int)) = false := by simp [h1]
  have g2 : (k == (2 : Int)) = false := by simp [h2]
  have g3 : (k == (3 : Int)) = false := by simp [h3]
  have g4 : (k == (4 : Int)) = false := by simp [h4]
  go_enter Tryd.func31, Tryd.ntmps31
  go_wp2
  go_ret
  exact ⟨ret_bool (by rw [HE.out]), HB.out⟩


theorem pz_no1 {s : Int} {cs : List RClue} (h : inB s 1 8 = false) : goodP s cs = false := by unfold goodP; rw [h]; rfl
theorem pz_no2 {s : Int} {cs : List RClue} (h : ¬ cs.length ≤ 6) : goodP s cs = false := by unfold goodP; rw [decide_eq_false h]; simp
theorem pz_no3 {s : Int} {cs : List RClue} {k : Nat} (hk : k < cs.length) (h : clueB s (cs.getD k zClue) = false) : goodP s cs = false := by
  unfold goodP
  have : cs.all (clueB s) = false := by
    rw [List.all_eq_false]
    refine ⟨cs[k], List.getElem_mem hk, ?_⟩
    simp only [List.getD_eq_getElem?_getD, List.getElem?_eq_getElem hk, Option.getD_some] at h
    rw [h]; simp
  rw [this]; simp
theorem pz_yes {s : Int} {cs : List RClue} (h1 : inB s 1 8 = true) (h2 : cs.length ≤ 6) (h : ∀ k, k < cs.length → clueB s (cs.getD k zClue) = true) : goodP s cs = true := by
  unfold goodP
  rw [h1, decide_eq_true h2, Bool.true_and, Bool.true_and, List.all_eq_true]
  intro p hp
  obtain ⟨k, hk, rfl⟩ := List.getElem_of_mem hp
  have := h k hk
  simpa only [List.getD_eq_getElem?_getD, List.getElem?_eq_getElem hk, Option.getD_some] using this
theorem pz_of {s : Int} {cs : List RClue} (h : goodP s cs = true) : (∃ n : Nat, s = (n : Int) ∧ 1 ≤ n ∧ n ≤ 8) ∧ cs.length ≤ 6 ∧ ∀ k, k < cs.length → clueB s (cs.getD k zClue) = true := by
  unfold goodP at h
  rw [Bool.and_eq_true, Bool.and_eq_true, decide_eq_true_eq, List.all_eq_true] at h
  obtain ⟨h1, h2, h3⟩ := h
  have hb := inB_yes h1
  refine ⟨⟨s.toNat, by omega, by omega, by omega⟩, h2, fun k hk => ?_⟩
  simp only [List.getD_eq_getElem?_getD, List.getElem?_eq_getElem hk, Option.getD_some]
  exact h3 _ (List.getElem_mem hk)
set_option maxHeartbeats 4000000 in
theorem pzGood_any (w : World) (s : Int) (a : Option Addr) (len cap : Nat) (cs : List RClue) (hl : len ≤ 1048576) (hc : CameClue w a len cs) :
    Calls Tryd.prog 15 #[.agg #[.int .i64 s, .slice a len cap]] w fun e w' => e = .returned (.bool (goodP s cs)) ∧ Below w.heap.size w w' := by
  have HI := Lib.hid (fun w2 => pzSoldiers_any s w2)
  have HZ : Hid (cs.length = len) := Lib.hid hc.1
  obtain ⟨w0, hw0⟩ : ∃ w0, w0 = w.alloc (.cells #[.int .i64 s, .slice a len cap] 30) := ⟨_, rfl⟩
  have HW0 : Hid (Below w.heap.size w w0) := Lib.hid (by rw [hw0]; exact (Below.refl _ _).alloc (Nat.le_refl _) _)
  obtain ⟨pb, hpb⟩ : ∃ pb, pb = w.heap.size := ⟨_, rfl⟩
  have HPC : Hid (∀ w2, Below w0.heap.size w0 w2 → w2.cell? ⟨pb, 0, none⟩ = some (.int .i64 s) ∧ w2.cell? ⟨pb, 1, none⟩ = some (.slice a len cap)) := Lib.hid (fun w2 h => by
    have c0 : w0.cell? ⟨pb, 0, none⟩ = some (.int .i64 s) := by rw [hw0, hpb, World.cell?_alloc_new]; rfl
    have c1 : w0.cell? ⟨pb, 1, none⟩ = some (.slice a len cap) := by rw [hw0, hpb, World.cell?_alloc_new]; rfl
    exact ⟨(h.cell (World.block_lt_of_cell? _ _ c0)).trans c0, (h.cell (World.block_lt_of_cell? _ _ c1)).trans c1⟩)
  have HC : Hid (CameClue w0 a len cs) := Lib.hid (hc.below HW0.out)
  obtain ⟨c0, c1⟩ := HPC.out w0 (Below.refl _ _)
  clear hc
  rcases hb : inB s 1 8 with _ | _
  · have HE := Lib.hid (pz_no1 (cs := cs) hb)
    rw [hb] at HI
    clear hb
    go_enter Tryd.func15, Tryd.ntmps15
    go_wp2_with fail
    rw [← hw0, ← hpb]
    clear hw0 hpb
    go_wp2_with (go_at_call 30; refine (HI.out _).mono ?_; rintro e w' ⟨rfl, rfl⟩)
    go_ret
    exact ⟨ret_bool (by rw [HE.out]), HW0.out⟩
  by_cases h6 : len ≤ 6
  rotate_left
  · have HE := Lib.hid (pz_no2 (s := s) (cs := cs) (by rw [HZ.out]; exact h6))
    rw [hb] at HI
    clear hb
    go_enter Tryd.func15, Tryd.ntmps15
    go_wp2_with fail
    rw [← hw0, ← hpb]
    clear hw0 hpb
    go_wp2_with (go_at_call 30; refine (HI.out _).mono ?_; rintro e w' ⟨rfl, rfl⟩)
    go_ret
    exact ⟨ret_bool (by rw [HE.out]), HW0.out⟩
  have HY : Hid ((∀ k, k < cs.length → clueB s (cs.getD k zClue) = true) → goodP s cs = true) := Lib.hid (pz_yes hb (by rw [HZ.out]; exact h6))
  obtain ⟨n, hn⟩ : ∃ n : Nat, s = (n : Int) := ⟨s.toNat, by have := inB_yes hb; omega⟩
  have hn8 : n ≤ 8 := by have := inB_yes hb; omega
  have h61 : ¬ (6 : Int) < (len : Int) := by omega
  rw [hb] at HI
  clear hb
  subst hn
  go_enter Tryd.func15, Tryd.ntmps15
  go_wp2_with fail
  rw [← hw0, ← hpb]
  clear hw0 hpb
  go_wp2_with (go_at_call 30; refine (HI.out _).mono ?_; rintro e w' ⟨rfl, rfl⟩)
  go_loopw [18] (fun i wr => ∃ k : Nat, k ≤ len ∧ i = .int .i64 (k : Int) ∧ Hid (∀ j, j < k → clueB (n : Int) (cs.getD j zClue) = true) ∧ Hid (Below w0.heap.size w0 wr)) (fun i _ => len - (intOf i).toNat)
  case atStart => exact ⟨0, Nat.zero_le _, rfl, Lib.hid (fun j h => absurd h (Nat.not_lt_zero _)), Lib.hid (Below.refl _ _)⟩
  case round =>
    obtain ⟨k, hk, rfl, HK, HB⟩ := hrel
    clear c0 c1
    by_cases hlt : k < len
    · obtain ⟨b, off, rfl, hcell⟩ := (HC.out.below HB.out).2 (by omega)
      obtain ⟨e0, e1, e2, e3⟩ := hcell k hlt
      have HNO : Hid (clueB (n : Int) (cs.getD k zClue) = false → goodP (n : Int) cs = false) := Lib.hid (pz_no3 (by rw [HZ.out]; exact hlt))
      obtain ⟨p, hp⟩ : ∃ p, p = cs.getD k zClue := ⟨_, rfl⟩
      rw [← hp] at e0 e1 e2 e3 HNO
      obtain ⟨x0, x1, x2, x3⟩ := p
      simp only at e0 e1 e2 e3
      have HP := Lib.hid hp
      have HT := Lib.hid (fun w2 => pzClue_any n (by omega) x0 x1 x2 x3 w2)
      have i1 : (0 : Int) ≤ (k : Int) := by omega
      have i2 : (k : Int) < (len : Int) := by omega
      have HBA : Hid (Below w0.heap.size w0 (wr.alloc (.cells #[.int .i64 x0, .int .i64 x1, .int .i64 x2, .int .i64 x3] 44))) := Lib.hid (HB.out.alloc HB.out.size _)
      obtain ⟨c0, c1⟩ := HPC.out _ HBA.out
      clear hcell hp
      rcases hpb : clueB (n : Int) (x0, x1, x2, x3) with _ | _
      · have HE := Lib.hid (HNO.out hpb)
        rw [hpb] at HT
        clear hpb HNO
        go_wp2_with fail
        go_at_call 31
        refine (HT.out _).mono ?_
        rintro e w2 ⟨rfl, b2⟩
        have HB2 : Hid (Below w0.heap.size w0 w2) := Lib.hid (HBA.out.trans (b2.mono HBA.out.size))
        clear b2
        go_wp2
        go_ret
        exact ⟨ret_bool (by rw [HE.out]), HW0.out.trans (HB2.out.mono HW0.out.size)⟩
      · have HK2 : Hid (∀ j, j < k + 1 → clueB (n : Int) (cs.getD j zClue) = true) := Lib.hid (fun j hj => by
          by_cases e : j = k
          · subst e; rw [← HP.out]; exact hpb
          · exact HK.out j (by omega))
        rw [hpb] at HT
        clear hpb HNO
        go_wp2_with fail
        go_at_call 31
        refine (HT.out _).mono ?_
        rintro e w2 ⟨rfl, b2⟩
        have HB2 : Hid (Below w0.heap.size w0 w2) := Lib.hid (HBA.out.trans (b2.mono HBA.out.size))
        clear b2 c0 c1 e0 e1 e2 e3
        go_wp2
        go_roundw
        case rel => exact ⟨k + 1, by omega, by go_num, HK2, HB2⟩
        case measure => simp [intOf]; omega
    · have HE := Lib.hid (HY.out (fun j hj => HK.out j (by have := HZ.out; omega)))
      go_wp2
      go_ret
      exact ⟨ret_bool (by rw [HE.out]), HW0.out.trans (HB.out.mono HW0.out.size)⟩



end Go.Proofs.YtodlpdbmiicdfabDoor
