/- The draws of chapter 3. Written by a program of mine (tools/sp/w_dr3.py). -/
import Derived.Test.YtjdbmkphakpmbaaCo
namespace Go.Proofs.Ytjdbmkphakpmbaa
open Go.ChangeShapes Go.WideShapes Go.ChangeAt Go.RowKit
open Cu
theorem drawn_end {w w' : World} {a : Option Addr} {len cap A : Nat} (d : Drawn (w.alloc (.cells #[.slice a len cap, .int .i64 0, .int .u64 0] 63)) w' w.heap.size A) : Below w.heap.size w w' :=
  grownBy_below ((Below.refl w.heap.size w).alloc (Nat.le_refl _) _) d.grown (Nat.le_refl _) (Nat.le_refl _)
theorem wf_mem {xs : List Int} (h : (xs.all fun x => (Lit.int .i64 x).wf) = true) {x : Int} (hx : x ∈ xs) : (Lit.int .i64 x).wf = true := List.all_eq_true.1 h x hx
theorem wf_i64' {z : Int} (h1 : -9223372036854775808 ≤ z) (h2 : z ≤ 9223372036854775807) : (Lit.int .i64 z).wf = true := WalkArith.wf_i64 ⟨h1, h2⟩

set_option maxRecDepth 20000 in
set_option maxHeartbeats 4000000 in
theorem drawRectanglesOf_p (w0 : World) (a : Option Addr) (len cap : Nat) (hl : len ≤ 9223372036854775807) (hb : Bytes w0 a len) :
    Calls Try.prog 8 #[.slice a len cap] w0 fun e w' => ∃ x : Int, (Lit.int .i64 x).wf = true ∧ e = .returned (.int .i64 x) ∧ Below w0.heap.size w0 w' := by
  refine Sp.enter (N := 15) (args := [.slice a len cap]) Try.func8 rfl rfl (by kernel_rfl) ?_
  refine Sp.Cd.seq fun K1 hK1 => ?_
  refine Sp.Cd.region ?_
  refine Sp.L.pure (by kernel_rfl) (Sp.Runs.assign rfl) ?_
  refine Sp.L.nil ?_
  refine hK1 _ _ (Sp.Cd.sub (S' := [(0, _)]) ⟨rfl, trivial⟩ ?_)
  clear hK1 K1
  refine Sp.Cd.seq fun K2 hK2 => ?_
  refine Sp.Cd.region ?_
  refine Sp.L.pure (by kernel_rfl) (Sp.Runs.move rfl) ?_
  refine Sp.L.build1 rfl Sp.build_cur (by kernel_rfl) ?_
  refine Sp.L.box rfl Sp.box_cur (by kernel_rfl) ?_
  have D0 := drawn_refl (cur_new w0 a len cap hl hb)
  have HG : w0.heap.size < (w0.alloc (.cells #[.slice a len cap, .int .i64 0, .int .u64 0] 63)).heap.size := by rw [alloc_size]; omega
  have hb0 : ∀ w', Drawn (w0.alloc (.cells #[.slice a len cap, .int .i64 0, .int .u64 0] 63)) w' w0.heap.size (0 + 0) → True := fun _ _ => trivial
  clear hb0
  obtain ⟨wS, hwS⟩ : ∃ x, x = w0.alloc (.cells #[.slice a len cap, .int .i64 0, .int .u64 0] 63) := ⟨_, rfl⟩
  rw [← hwS] at D0 HG
  rw [← hwS]
  have HE : ∀ w' A', Drawn wS w' w0.heap.size A' → Below w0.heap.size w0 w' := fun w' A' d => by rw [hwS] at d; exact drawn_end d
  obtain ⟨g, hgg⟩ : ∃ x, x = w0.heap.size := ⟨_, rfl⟩
  rw [← hgg] at D0 HG HE
  rw [← hgg]
  replace HE : ∀ w' A', Drawn wS w' g A' → Below w0.heap.size w0 w' := fun w' A' d => by have h := HE w' A' d; rw [hgg] at h; exact h
  obtain ⟨w1, hw1⟩ : ∃ x, x = wS := ⟨_, rfl⟩
  have D : Hid (Drawn wS w1 g (0 + 0)) := Lib.hid (by rw [hw1]; exact D0)
  rw [← hw1]
  clear D0 hwS hw1 hgg hb
  refine Sp.L.pure (by kernel_rfl) (Sp.Runs.assign rfl) ?_
  refine Sp.L.nil ?_
  refine hK2 _ _ (Sp.Cd.sub (S' := [(3, _)]) ⟨rfl, trivial⟩ ?_)
  clear hK2 K2
  refine Sp.Cd.seq fun K3 hK3 => ?_
  refine Sp.Cd.seq fun K4 hK4 => ?_
  refine Sp.Cd.region ?_
  refine Sp.L.pure (by kernel_rfl) (Sp.Runs.move rfl) ?_
  refine Sp.L.call (by kernel_rfl) (one_p w1 g (0 + 0) 8 (by omega) (by omega) (by omega) D.out.cur) rfl rfl (by kernel_rfl) ?_
  rintro e w2 ⟨b1, rfl, d⟩
  replace D : Hid (Drawn wS w2 g (0 + 2)) := Lib.hid ((D.out.trans d).mono (by omega))
  clear d
  refine ⟨_, rfl, ?_⟩
  refine Sp.L.nil ?_
  refine hK4 _ _ (Sp.Cd.sub (S' := [(3, _), (8, _)]) ⟨rfl, rfl, trivial⟩ ?_)
  clear hK4 K4
  rcases b1 with _ | _
  · refine Sp.Cd.condF rfl ?_
    refine Sp.Cd.skip ?_
    refine hK3 _ _ (Sp.Cd.sub (S' := [(3, _)]) ⟨rfl, trivial⟩ ?_)
    clear hK3 K3
    refine Sp.Cd.seq fun K5 hK5 => ?_
    refine Sp.Cd.region ?_
    refine Sp.L.pure (by kernel_rfl) (Sp.Runs.move rfl) ?_
    refine Sp.L.call (by kernel_rfl) (pick_p w2 g (0 + 2) 200 (by omega) (by omega) (by omega) D.out.cur) rfl rfl (by kernel_rfl) ?_
    rintro e w3 ⟨x2, hx2, rfl, d⟩
    replace D : Hid (Drawn wS w3 g (0 + 4)) := Lib.hid ((D.out.trans d).mono (by omega))
    clear d
    refine ⟨_, rfl, ?_⟩
    refine Sp.L.pure (by kernel_rfl) (Sp.Runs.addI rfl rfl (Sp.wrapI (by omega) (by omega))) ?_
    refine Sp.L.pure (by kernel_rfl) (Sp.Runs.assign rfl) ?_
    refine Sp.L.nil ?_
    refine hK5 _ _ (Sp.Cd.sub (S' := [(2, _)]) ⟨rfl, trivial⟩ ?_)
    clear hK5 K5
    refine Sp.Cd.ret ?_
    refine Sp.Rt.body rfl rfl ?_
    exact ⟨_, wf_i64' (by omega) (by omega), rfl, HE _ _ D.out⟩
  · refine Sp.Cd.condT rfl ?_
    refine Sp.Cd.seq fun K6 hK6 => ?_
    refine Sp.Cd.region ?_
    refine Sp.L.pure (by kernel_rfl) (Sp.Runs.move rfl) ?_
    have CL := among_lit wS w2 g (0 + 2) 7 [0, (-1), 1, 1000000, 1000001, 720720, 4611686018427387904] rfl (by omega) (by omega) (by omega) HG D.out
    simp only [List.map_cons, List.map_nil] at CL
    refine Sp.L.lits (v := .slice (some ⟨w2.heap.size, 0, none⟩) 7 7) (w' := w2.alloc (.cells #[.int .i64 0, .int .i64 (-1), .int .i64 1, .int .i64 1000000, .int .i64 1000001, .int .i64 720720, .int .i64 4611686018427387904] 3)) rfl (by simp [go_sem]) (by kernel_rfl) ?_
    refine Sp.L.call (by kernel_rfl) (CL) rfl rfl (by kernel_rfl) ?_
    rintro e w3 ⟨x2, hx2, rfl, d⟩
    replace D : Hid (Drawn wS w3 g (0 + 4)) := Lib.hid ((d).mono (by omega))
    clear d
    clear CL
    have wf2 := wf_mem (by decide) hx2
    refine ⟨_, rfl, ?_⟩
    refine Sp.L.pure (by kernel_rfl) (Sp.Runs.assign rfl) ?_
    refine Sp.L.nil ?_
    refine hK6 _ _ (Sp.Cd.sub (S' := [(2, _)]) ⟨rfl, trivial⟩ ?_)
    clear hK6 K6
    refine Sp.Cd.ret ?_
    refine Sp.Rt.then ?_
    refine Sp.Rt.body rfl rfl ?_
    exact ⟨_, wf2, rfl, HE _ _ D.out⟩

set_option maxRecDepth 20000 in
set_option maxHeartbeats 4000000 in
theorem drawCountHollow_p (w0 : World) (a : Option Addr) (len cap : Nat) (hl : len ≤ 9223372036854775807) (hb : Bytes w0 a len) :
    Calls Try.prog 25 #[.slice a len cap] w0 fun e w' => ∃ x y : Int, (Lit.int .i64 x).wf = true ∧ (Lit.int .i64 y).wf = true ∧ e = .returned (.tuple #[.int .i64 x, .int .i64 y]) ∧ Below w0.heap.size w0 w' := by
  refine Sp.enter (N := 14) (args := [.slice a len cap]) Try.func25 rfl rfl (by kernel_rfl) ?_
  refine Sp.Cd.seq fun K1 hK1 => ?_
  refine Sp.Cd.region ?_
  refine Sp.L.pure (by kernel_rfl) (Sp.Runs.assign rfl) ?_
  refine Sp.L.pure (by kernel_rfl) (Sp.Runs.assign rfl) ?_
  refine Sp.L.nil ?_
  refine hK1 _ _ (Sp.Cd.sub (S' := [(0, _)]) ⟨rfl, trivial⟩ ?_)
  clear hK1 K1
  refine Sp.Cd.seq fun K2 hK2 => ?_
  refine Sp.Cd.region ?_
  refine Sp.L.pure (by kernel_rfl) (Sp.Runs.move rfl) ?_
  refine Sp.L.build1 rfl Sp.build_cur (by kernel_rfl) ?_
  refine Sp.L.box rfl Sp.box_cur (by kernel_rfl) ?_
  have D0 := drawn_refl (cur_new w0 a len cap hl hb)
  have HG : w0.heap.size < (w0.alloc (.cells #[.slice a len cap, .int .i64 0, .int .u64 0] 63)).heap.size := by rw [alloc_size]; omega
  have hb0 : ∀ w', Drawn (w0.alloc (.cells #[.slice a len cap, .int .i64 0, .int .u64 0] 63)) w' w0.heap.size (0 + 0) → True := fun _ _ => trivial
  clear hb0
  obtain ⟨wS, hwS⟩ : ∃ x, x = w0.alloc (.cells #[.slice a len cap, .int .i64 0, .int .u64 0] 63) := ⟨_, rfl⟩
  rw [← hwS] at D0 HG
  rw [← hwS]
  have HE : ∀ w' A', Drawn wS w' w0.heap.size A' → Below w0.heap.size w0 w' := fun w' A' d => by rw [hwS] at d; exact drawn_end d
  obtain ⟨g, hgg⟩ : ∃ x, x = w0.heap.size := ⟨_, rfl⟩
  rw [← hgg] at D0 HG HE
  rw [← hgg]
  replace HE : ∀ w' A', Drawn wS w' g A' → Below w0.heap.size w0 w' := fun w' A' d => by have h := HE w' A' d; rw [hgg] at h; exact h
  obtain ⟨w1, hw1⟩ : ∃ x, x = wS := ⟨_, rfl⟩
  have D : Hid (Drawn wS w1 g (0 + 0)) := Lib.hid (by rw [hw1]; exact D0)
  rw [← hw1]
  clear D0 hwS hw1 hgg hb
  refine Sp.L.pure (by kernel_rfl) (Sp.Runs.assign rfl) ?_
  refine Sp.L.nil ?_
  refine hK2 _ _ (Sp.Cd.sub (S' := [(4, _)]) ⟨rfl, trivial⟩ ?_)
  clear hK2 K2
  refine Sp.Cd.seq fun K3 hK3 => ?_
  refine Sp.Cd.region ?_
  refine Sp.L.pure (by kernel_rfl) (Sp.Runs.move rfl) ?_
  have CL := among_lit wS w1 g (0 + 0) 10 [2, 3, 4, 5, 6, 7, 10, 1000, 1001, (-1)] rfl (by omega) (by omega) (by omega) HG D.out
  simp only [List.map_cons, List.map_nil] at CL
  refine Sp.L.lits (v := .slice (some ⟨w1.heap.size, 0, none⟩) 10 10) (w' := w1.alloc (.cells #[.int .i64 2, .int .i64 3, .int .i64 4, .int .i64 5, .int .i64 6, .int .i64 7, .int .i64 10, .int .i64 1000, .int .i64 1001, .int .i64 (-1)] 3)) rfl (by simp [go_sem]) (by kernel_rfl) ?_
  refine Sp.L.call (by kernel_rfl) (CL) rfl rfl (by kernel_rfl) ?_
  rintro e w2 ⟨x1, hx1, rfl, d⟩
  replace D : Hid (Drawn wS w2 g (0 + 2)) := Lib.hid ((d).mono (by omega))
  clear d
  clear CL
  have wf1 := wf_mem (by decide) hx1
  refine ⟨_, rfl, ?_⟩
  refine Sp.L.pure (by kernel_rfl) (Sp.Runs.move rfl) ?_
  have CL := among_lit wS w2 g (0 + 2) 8 [0, 1, 2, 3, 4, 499, 500, (-1)] rfl (by omega) (by omega) (by omega) HG D.out
  simp only [List.map_cons, List.map_nil] at CL
  refine Sp.L.lits (v := .slice (some ⟨w2.heap.size, 0, none⟩) 8 8) (w' := w2.alloc (.cells #[.int .i64 0, .int .i64 1, .int .i64 2, .int .i64 3, .int .i64 4, .int .i64 499, .int .i64 500, .int .i64 (-1)] 3)) rfl (by simp [go_sem]) (by kernel_rfl) ?_
  refine Sp.L.call (by kernel_rfl) (CL) rfl rfl (by kernel_rfl) ?_
  rintro e w3 ⟨x2, hx2, rfl, d⟩
  replace D : Hid (Drawn wS w3 g (0 + 4)) := Lib.hid ((d).mono (by omega))
  clear d
  clear CL
  have wf2 := wf_mem (by decide) hx2
  refine ⟨_, rfl, ?_⟩
  refine Sp.L.pure (by kernel_rfl) (Sp.Runs.assign rfl) ?_
  refine Sp.L.pure (by kernel_rfl) (Sp.Runs.assign rfl) ?_
  refine Sp.L.nil ?_
  refine hK3 _ _ (Sp.Cd.sub (S' := [(2, _), (3, _)]) ⟨rfl, rfl, trivial⟩ ?_)
  clear hK3 K3
  refine Sp.Cd.ret ?_
  refine Sp.Rt.body2 rfl rfl ?_
  exact ⟨_, _, wf1, wf2, rfl, HE _ _ D.out⟩

set_option maxRecDepth 20000 in
set_option maxHeartbeats 4000000 in
theorem drawPlaceIn_p (w0 : World) (a : Option Addr) (len cap : Nat) (hl : len ≤ 9223372036854775807) (hb : Bytes w0 a len) :
    Calls Try.prog 30 #[.slice a len cap] w0 fun e w' => ∃ x y : Int, (Lit.int .i64 x).wf = true ∧ (Lit.int .i64 y).wf = true ∧ e = .returned (.tuple #[.int .i64 x, .int .i64 y]) ∧ Below w0.heap.size w0 w' := by
  refine Sp.enter (N := 14) (args := [.slice a len cap]) Try.func30 rfl rfl (by kernel_rfl) ?_
  refine Sp.Cd.seq fun K1 hK1 => ?_
  refine Sp.Cd.region ?_
  refine Sp.L.pure (by kernel_rfl) (Sp.Runs.assign rfl) ?_
  refine Sp.L.pure (by kernel_rfl) (Sp.Runs.assign rfl) ?_
  refine Sp.L.nil ?_
  refine hK1 _ _ (Sp.Cd.sub (S' := [(0, _)]) ⟨rfl, trivial⟩ ?_)
  clear hK1 K1
  refine Sp.Cd.seq fun K2 hK2 => ?_
  refine Sp.Cd.region ?_
  refine Sp.L.pure (by kernel_rfl) (Sp.Runs.move rfl) ?_
  refine Sp.L.build1 rfl Sp.build_cur (by kernel_rfl) ?_
  refine Sp.L.box rfl Sp.box_cur (by kernel_rfl) ?_
  have D0 := drawn_refl (cur_new w0 a len cap hl hb)
  have HG : w0.heap.size < (w0.alloc (.cells #[.slice a len cap, .int .i64 0, .int .u64 0] 63)).heap.size := by rw [alloc_size]; omega
  have hb0 : ∀ w', Drawn (w0.alloc (.cells #[.slice a len cap, .int .i64 0, .int .u64 0] 63)) w' w0.heap.size (0 + 0) → True := fun _ _ => trivial
  clear hb0
  obtain ⟨wS, hwS⟩ : ∃ x, x = w0.alloc (.cells #[.slice a len cap, .int .i64 0, .int .u64 0] 63) := ⟨_, rfl⟩
  rw [← hwS] at D0 HG
  rw [← hwS]
  have HE : ∀ w' A', Drawn wS w' w0.heap.size A' → Below w0.heap.size w0 w' := fun w' A' d => by rw [hwS] at d; exact drawn_end d
  obtain ⟨g, hgg⟩ : ∃ x, x = w0.heap.size := ⟨_, rfl⟩
  rw [← hgg] at D0 HG HE
  rw [← hgg]
  replace HE : ∀ w' A', Drawn wS w' g A' → Below w0.heap.size w0 w' := fun w' A' d => by have h := HE w' A' d; rw [hgg] at h; exact h
  obtain ⟨w1, hw1⟩ : ∃ x, x = wS := ⟨_, rfl⟩
  have D : Hid (Drawn wS w1 g (0 + 0)) := Lib.hid (by rw [hw1]; exact D0)
  rw [← hw1]
  clear D0 hwS hw1 hgg hb
  refine Sp.L.pure (by kernel_rfl) (Sp.Runs.assign rfl) ?_
  refine Sp.L.nil ?_
  refine hK2 _ _ (Sp.Cd.sub (S' := [(4, _)]) ⟨rfl, trivial⟩ ?_)
  clear hK2 K2
  refine Sp.Cd.seq fun K3 hK3 => ?_
  refine Sp.Cd.region ?_
  refine Sp.L.pure (by kernel_rfl) (Sp.Runs.move rfl) ?_
  have CL := among_lit wS w1 g (0 + 0) 9 [1, 2, 3, 5, 8, 1000, 1001, 0, (-1)] rfl (by omega) (by omega) (by omega) HG D.out
  simp only [List.map_cons, List.map_nil] at CL
  refine Sp.L.lits (v := .slice (some ⟨w1.heap.size, 0, none⟩) 9 9) (w' := w1.alloc (.cells #[.int .i64 1, .int .i64 2, .int .i64 3, .int .i64 5, .int .i64 8, .int .i64 1000, .int .i64 1001, .int .i64 0, .int .i64 (-1)] 3)) rfl (by simp [go_sem]) (by kernel_rfl) ?_
  refine Sp.L.call (by kernel_rfl) (CL) rfl rfl (by kernel_rfl) ?_
  rintro e w2 ⟨x1, hx1, rfl, d⟩
  replace D : Hid (Drawn wS w2 g (0 + 2)) := Lib.hid ((d).mono (by omega))
  clear d
  clear CL
  have wf1 := wf_mem (by decide) hx1
  refine ⟨_, rfl, ?_⟩
  refine Sp.L.pure (by kernel_rfl) (Sp.Runs.move rfl) ?_
  have CL := among_lit wS w2 g (0 + 2) 9 [0, 1, 2, 3, 7, 20, 999999, 1000000, (-1)] rfl (by omega) (by omega) (by omega) HG D.out
  simp only [List.map_cons, List.map_nil] at CL
  refine Sp.L.lits (v := .slice (some ⟨w2.heap.size, 0, none⟩) 9 9) (w' := w2.alloc (.cells #[.int .i64 0, .int .i64 1, .int .i64 2, .int .i64 3, .int .i64 7, .int .i64 20, .int .i64 999999, .int .i64 1000000, .int .i64 (-1)] 3)) rfl (by simp [go_sem]) (by kernel_rfl) ?_
  refine Sp.L.call (by kernel_rfl) (CL) rfl rfl (by kernel_rfl) ?_
  rintro e w3 ⟨x2, hx2, rfl, d⟩
  replace D : Hid (Drawn wS w3 g (0 + 4)) := Lib.hid ((d).mono (by omega))
  clear d
  clear CL
  have wf2 := wf_mem (by decide) hx2
  refine ⟨_, rfl, ?_⟩
  refine Sp.L.pure (by kernel_rfl) (Sp.Runs.assign rfl) ?_
  refine Sp.L.pure (by kernel_rfl) (Sp.Runs.assign rfl) ?_
  refine Sp.L.nil ?_
  refine hK3 _ _ (Sp.Cd.sub (S' := [(2, _), (3, _)]) ⟨rfl, rfl, trivial⟩ ?_)
  clear hK3 K3
  refine Sp.Cd.ret ?_
  refine Sp.Rt.body2 rfl rfl ?_
  exact ⟨_, _, wf1, wf2, rfl, HE _ _ D.out⟩

set_option maxRecDepth 20000 in
set_option maxHeartbeats 4000000 in
theorem drawSoldierAt_p (w0 : World) (a : Option Addr) (len cap : Nat) (hl : len ≤ 9223372036854775807) (hb : Bytes w0 a len) :
    Calls Try.prog 35 #[.slice a len cap] w0 fun e w' => ∃ x y z : Int, (Lit.int .i64 x).wf = true ∧ (Lit.int .i64 y).wf = true ∧ (Lit.int .i64 z).wf = true ∧ e = .returned (.tuple #[.int .i64 x, .int .i64 y, .int .i64 z]) ∧ Below w0.heap.size w0 w' := by
  refine Sp.enter (N := 21) (args := [.slice a len cap]) Try.func35 rfl rfl (by kernel_rfl) ?_
  refine Sp.Cd.seq fun K1 hK1 => ?_
  refine Sp.Cd.region ?_
  refine Sp.L.pure (by kernel_rfl) (Sp.Runs.assign rfl) ?_
  refine Sp.L.pure (by kernel_rfl) (Sp.Runs.assign rfl) ?_
  refine Sp.L.pure (by kernel_rfl) (Sp.Runs.assign rfl) ?_
  refine Sp.L.nil ?_
  refine hK1 _ _ (Sp.Cd.sub (S' := [(0, _)]) ⟨rfl, trivial⟩ ?_)
  clear hK1 K1
  refine Sp.Cd.seq fun K2 hK2 => ?_
  refine Sp.Cd.region ?_
  refine Sp.L.pure (by kernel_rfl) (Sp.Runs.move rfl) ?_
  refine Sp.L.build1 rfl Sp.build_cur (by kernel_rfl) ?_
  refine Sp.L.box rfl Sp.box_cur (by kernel_rfl) ?_
  have D0 := drawn_refl (cur_new w0 a len cap hl hb)
  have HG : w0.heap.size < (w0.alloc (.cells #[.slice a len cap, .int .i64 0, .int .u64 0] 63)).heap.size := by rw [alloc_size]; omega
  have hb0 : ∀ w', Drawn (w0.alloc (.cells #[.slice a len cap, .int .i64 0, .int .u64 0] 63)) w' w0.heap.size (0 + 0) → True := fun _ _ => trivial
  clear hb0
  obtain ⟨wS, hwS⟩ : ∃ x, x = w0.alloc (.cells #[.slice a len cap, .int .i64 0, .int .u64 0] 63) := ⟨_, rfl⟩
  rw [← hwS] at D0 HG
  rw [← hwS]
  have HE : ∀ w' A', Drawn wS w' w0.heap.size A' → Below w0.heap.size w0 w' := fun w' A' d => by rw [hwS] at d; exact drawn_end d
  obtain ⟨g, hgg⟩ : ∃ x, x = w0.heap.size := ⟨_, rfl⟩
  rw [← hgg] at D0 HG HE
  rw [← hgg]
  replace HE : ∀ w' A', Drawn wS w' g A' → Below w0.heap.size w0 w' := fun w' A' d => by have h := HE w' A' d; rw [hgg] at h; exact h
  obtain ⟨w1, hw1⟩ : ∃ x, x = wS := ⟨_, rfl⟩
  have D : Hid (Drawn wS w1 g (0 + 0)) := Lib.hid (by rw [hw1]; exact D0)
  rw [← hw1]
  clear D0 hwS hw1 hgg hb
  refine Sp.L.pure (by kernel_rfl) (Sp.Runs.assign rfl) ?_
  refine Sp.L.nil ?_
  refine hK2 _ _ (Sp.Cd.sub (S' := [(5, _)]) ⟨rfl, trivial⟩ ?_)
  clear hK2 K2
  refine Sp.Cd.seq fun K3 hK3 => ?_
  refine Sp.Cd.region ?_
  refine Sp.L.pure (by kernel_rfl) (Sp.Runs.move rfl) ?_
  have CL := among_lit wS w1 g (0 + 0) 7 [1, 2, 3, 5, 8, 1001, 0] rfl (by omega) (by omega) (by omega) HG D.out
  simp only [List.map_cons, List.map_nil] at CL
  refine Sp.L.lits (v := .slice (some ⟨w1.heap.size, 0, none⟩) 7 7) (w' := w1.alloc (.cells #[.int .i64 1, .int .i64 2, .int .i64 3, .int .i64 5, .int .i64 8, .int .i64 1001, .int .i64 0] 3)) rfl (by simp [go_sem]) (by kernel_rfl) ?_
  refine Sp.L.call (by kernel_rfl) (CL) rfl rfl (by kernel_rfl) ?_
  rintro e w2 ⟨x1, hx1, rfl, d⟩
  replace D : Hid (Drawn wS w2 g (0 + 2)) := Lib.hid ((d).mono (by omega))
  clear d
  clear CL
  have wf1 := wf_mem (by decide) hx1
  refine ⟨_, rfl, ?_⟩
  refine Sp.L.pure (by kernel_rfl) (Sp.Runs.move rfl) ?_
  have CL := among_lit wS w2 g (0 + 2) 7 [0, 1, 2, 3, 1000, 1001, (-1)] rfl (by omega) (by omega) (by omega) HG D.out
  simp only [List.map_cons, List.map_nil] at CL
  refine Sp.L.lits (v := .slice (some ⟨w2.heap.size, 0, none⟩) 7 7) (w' := w2.alloc (.cells #[.int .i64 0, .int .i64 1, .int .i64 2, .int .i64 3, .int .i64 1000, .int .i64 1001, .int .i64 (-1)] 3)) rfl (by simp [go_sem]) (by kernel_rfl) ?_
  refine Sp.L.call (by kernel_rfl) (CL) rfl rfl (by kernel_rfl) ?_
  rintro e w3 ⟨x2, hx2, rfl, d⟩
  replace D : Hid (Drawn wS w3 g (0 + 4)) := Lib.hid ((d).mono (by omega))
  clear d
  clear CL
  have wf2 := wf_mem (by decide) hx2
  refine ⟨_, rfl, ?_⟩
  refine Sp.L.pure (by kernel_rfl) (Sp.Runs.move rfl) ?_
  refine Sp.L.call (by kernel_rfl) (pick_p w3 g (0 + 4) 8 (by omega) (by omega) (by omega) D.out.cur) rfl rfl (by kernel_rfl) ?_
  rintro e w4 ⟨x3, hx3, rfl, d⟩
  replace D : Hid (Drawn wS w4 g (0 + 6)) := Lib.hid ((D.out.trans d).mono (by omega))
  clear d
  refine ⟨_, rfl, ?_⟩
  refine Sp.L.pure (by kernel_rfl) (Sp.Runs.move rfl) ?_
  refine Sp.L.call (by kernel_rfl) (pick_p w4 g (0 + 6) 8 (by omega) (by omega) (by omega) D.out.cur) rfl rfl (by kernel_rfl) ?_
  rintro e w5 ⟨x4, hx4, rfl, d⟩
  replace D : Hid (Drawn wS w5 g (0 + 8)) := Lib.hid ((D.out.trans d).mono (by omega))
  clear d
  refine ⟨_, rfl, ?_⟩
  refine Sp.L.pure (by kernel_rfl) (Sp.Runs.quoI rfl rfl (by decide) ((congrArg _ (Sp.tdiv_nn (by omega))).trans (Sp.wrapI (by omega) (by omega)))) ?_
  refine Sp.L.pure (by kernel_rfl) (Sp.Runs.subI rfl rfl (Sp.wrapI (by omega) (by omega))) ?_
  refine Sp.L.pure (by kernel_rfl) (Sp.Runs.assign rfl) ?_
  refine Sp.L.pure (by kernel_rfl) (Sp.Runs.assign rfl) ?_
  refine Sp.L.pure (by kernel_rfl) (Sp.Runs.assign rfl) ?_
  refine Sp.L.nil ?_
  refine hK3 _ _ (Sp.Cd.sub (S' := [(2, _), (3, _), (4, _)]) ⟨rfl, rfl, rfl, trivial⟩ ?_)
  clear hK3 K3
  refine Sp.Cd.ret ?_
  refine Sp.Rt.body3 rfl rfl ?_
  exact ⟨_, _, _, wf1, wf2, wf_i64' (by omega) (by omega), rfl, HE _ _ D.out⟩

set_option maxRecDepth 20000 in
set_option maxHeartbeats 4000000 in
theorem drawGreatestHollow_p (w0 : World) (a : Option Addr) (len cap : Nat) (hl : len ≤ 9223372036854775807) (hb : Bytes w0 a len) :
    Calls Try.prog 28 #[.slice a len cap] w0 fun e w' => ∃ x y : Int, (Lit.int .i64 x).wf = true ∧ (Lit.int .i64 y).wf = true ∧ e = .returned (.tuple #[.int .i64 x, .int .i64 y]) ∧ Below w0.heap.size w0 w' := by
  have B0 : Hid (Below w0.heap.size w0 w0) := Lib.hid (Below.refl _ _)
  refine Sp.enter (N := 10) (args := [.slice a len cap]) Try.func28 rfl rfl (by kernel_rfl) ?_
  refine Sp.Cd.seq fun K1 hK1 => ?_
  refine Sp.Cd.region ?_
  refine Sp.L.pure (by kernel_rfl) (Sp.Runs.assign rfl) ?_
  refine Sp.L.pure (by kernel_rfl) (Sp.Runs.assign rfl) ?_
  refine Sp.L.nil ?_
  refine hK1 _ _ (Sp.Cd.sub (S' := [(0, _)]) ⟨rfl, trivial⟩ ?_)
  clear hK1 K1
  refine Sp.Cd.seq fun K2 hK2 => ?_
  refine Sp.Cd.region ?_
  refine Sp.L.pure (by kernel_rfl) (Sp.Runs.move rfl) ?_
  refine Sp.L.call (by kernel_rfl) (drawRectanglesOf_p w0 a len cap hl hb) rfl rfl (by kernel_rfl) ?_
  rintro e w1 ⟨x, wx, rfl, b⟩
  replace B0 := Lib.hid (B0.out.trans (b.mono B0.out.size))
  clear b
  refine ⟨_, rfl, ?_⟩
  refine Sp.L.pure (by kernel_rfl) (Sp.Runs.move rfl) ?_
  refine Sp.L.pure (by kernel_rfl) (Sp.Runs.lenL Try.underlying22 rfl) ?_
  refine Sp.L.pure (by kernel_rfl) (Sp.Runs.remI rfl rfl (by decide) (Sp.tmod_nn (by omega))) ?_
  refine Sp.L.pure (by kernel_rfl) (Sp.Runs.addI rfl rfl (Sp.wrapI (by omega) (by omega))) ?_
  refine Sp.L.pure (by kernel_rfl) (Sp.Runs.assign rfl) ?_
  refine Sp.L.pure (by kernel_rfl) (Sp.Runs.assign rfl) ?_
  refine Sp.L.nil ?_
  refine hK2 _ _ (Sp.Cd.sub (S' := [(2, _), (3, _)]) ⟨rfl, rfl, trivial⟩ ?_)
  clear hK2 K2
  refine Sp.Cd.ret ?_
  refine Sp.Rt.body2 rfl rfl ?_
  exact ⟨x, _, wx, wf_i64' (by omega) (by omega), rfl, B0.out⟩
end Go.Proofs.Ytjdbmkphakpmbaa
