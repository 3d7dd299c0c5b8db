/- Chapter 9, the program: copied, without, DropClue. -/
import Derived.Test.YtodlpdbmiicdfabZc
import Derived.Test.YtodlpdbmiicdfabZd
import Derived.Test.YtodlpdbmiicdfabPzj
import Derived.Test.YtodlpdbmiicdfabRPuzzle
namespace Go.Proofs.Ytodlpdbmiicdfab
open Go.ChangeShapes Go.WideShapes Go.ChangeAt Go.RowKit
open Pz

theorem blk_new (w : World) (t : TypeId) (xs : List Value) : Blk (w.alloc (.cells xs.toArray t)) w.heap.size t xs := by
  unfold Blk; exact (MapKept.heap_alloc w _).1
theorem Blk.alloc {w : World} {g : Nat} {t : TypeId} {xs : List Value} (h : Blk w g t xs) (o : Obj) : Blk (w.alloc o) g t xs := h.below ((Below.refl _ _).alloc (Nat.le_refl _) o) h.lt

set_option maxHeartbeats 4000000 in
theorem copied_any (w : World) (s : Int) (a : Option Addr) (len cap : Nat) (cs : List RClue) (h0 : 0 < len) (hl : len ≤ 6) (hc : CameClue w a len cs) :
    Calls Try.prog 64 #[.agg #[.int .i64 s, .slice a len cap]] w fun e w' => ∃ g c, e = .returned (.agg #[.int .i64 s, .slice (some ⟨g, 0, none⟩) len c]) ∧ OwnClue w' (w.heap.size + 2) (.slice (some ⟨g, 0, none⟩) len c) cs ∧ Below w.heap.size w w' := by
  have HC := Lib.hid hc
  have HZ : Hid (cs.length = len) := Lib.hid hc.1
  obtain ⟨b, off, rfl, _⟩ := hc.2 h0
  have HCL := Lib.hid (fun w2 (h : Below w.heap.size w w2) => cloneClues_any w2 b off len cap cs (by omega) (HC.out.below h))
  have HST : Hid (KZ2 w s (some ⟨b, off, none⟩) len cap ((w.alloc (.cells #[.int .i64 s, .slice (some ⟨b, off, none⟩) len cap] 31)).alloc (.cells #[.int .i64 0, .slice none 0 0] 31))) := Lib.hid (KZ2.start ..)
  have c0 := HST.out.one.c0
  have c1 := HST.out.one.c1
  clear hc
  go_enter Try.func64, Try.ntmps64
  go_wp2_with fail
  go_region_held_law (fun w' => w'.cell? ⟨w.heap.size, 0, none⟩ = some (.int .i64 s) ∧ w'.cell? ⟨w.heap.size, 1, none⟩ = some (.slice (some ⟨b, off, none⟩) len cap)) (first | go_keep | exact ⟨k5.one.c0, k5.one.c1⟩ | exact ⟨cell_far (cell_far k5.one.c0 (by omega)) (by omega), cell_far (cell_far k5.one.c1 (by omega)) (by omega)⟩)
    (first
      | (go_at_call 71; refine (HCL.out _ (by exact ⟨HST.out.one.down.os, HST.out.one.down.tape, HST.out.one.down.output, HST.out.one.down.size, HST.out.one.down.block⟩)).mono ?_; rintro e w5 ⟨v5, rfl, o5, b5⟩; obtain ⟨g5, cp5, rfl, _, _⟩ := o5.point (by rw [HZ.out]; exact h0); have k5 : KZ2 w s (some ⟨b, off, none⟩) len cap w5 := HST.out.more ⟨b5.os, b5.tape, b5.output, b5.size, b5.block⟩; have s0 := k5.r0; have s1 := k5.r1; have g0 := k5.f0; have g1 := k5.f1))
  have HK5 : Hid (KZ2 w s (some ⟨b, off, none⟩) len cap w5) := Lib.hid k5
  rw [HZ.out] at o5 ⊢
  have HO5 : Hid (OwnClue w5 (w.heap.size + 2) (.slice (some ⟨g5, 0, none⟩) len cp5) cs) := Lib.hid (o5.mono HST.out.big)
  clear o5 b5 k5 g0 g1
  go_wp2
  (try simp only [Exit.inBlock, Exit.then])
  refine bodyPost_ret (results_oneZ rfl _ _ (w.heap.size + 1) s (.slice (some ⟨g5, 0, none⟩) len cp5) rfl rfl (setZ0 s0 s1) (setZ1 s0 s1)) rfl ?_
  exact ⟨g5, cp5, rfl, ownZ_set (ownZ_set HO5.out (by omega) 0 _) (by omega) 1 _, HK5.out.one.down.setCell (Nat.le_succ _) _ |>.setCell (Nat.le_succ _) _⟩

theorem own_far {w : World} {B g cap n b : Nat} {ps : List RClue} (h : OwnClue w B (.slice (some ⟨g, 0, none⟩) n cap) ps) (hb : b ≠ g) (j : Nat) (x : Value) : OwnClue (w.setCell ⟨b, j, none⟩ x) B (.slice (some ⟨g, 0, none⟩) n cap) ps := by
  unfold OwnClue at h ⊢
  refine h.kept (set_grown w b j x) (.inr (fun e => hb ?_))
  simp [Value.ownBlock] at e
  omega
set_option maxHeartbeats 8000000 in
theorem without_any (w : World) (s : Int) (a : Option Addr) (len cap : Nat) (cs : List RClue) (T : Nat) (hT : T < len) (hl : len ≤ 6) (hc : CameClue w a len cs) :
    Calls Try.prog 59 #[.agg #[.int .i64 s, .slice a len cap], .int .i64 (T : Int)] w fun e w' => ∃ v, e = .returned (.agg #[.int .i64 s, v]) ∧ OwnClue w' w.heap.size v (without cs T) ∧ Below w.heap.size w w' := by
  have HC := Lib.hid hc
  have HZ : Hid (cs.length = len) := Lib.hid hc.1
  obtain ⟨m, hm⟩ : ∃ m, len = T + 1 + m := ⟨len - (T + 1), by omega⟩
  have HCP := Lib.hid (fun w2 (h : Below w.heap.size w w2) => copied_any w2 s a len cap cs (by omega) hl (HC.out.below h))
  have HST : Hid (KZ2 w s a len cap ((w.alloc (.cells #[.int .i64 s, .slice a len cap] 31)).alloc (.cells #[.int .i64 0, .slice none 0 0] 31))) := Lib.hid (KZ2.start ..)
  have c0 := HST.out.one.c0
  have c1 := HST.out.one.c1
  have HM := Lib.hid hm
  have i1 : IntKind.i64.wrap ((T : Int) + 1) = (T : Int) + 1 := IntWalk.i64_in _ (by omega)
  clear hc hm
  go_enter Try.func59, Try.ntmps59
  go_wp2_with fail
  go_at_call 64
  refine (HCP.out _ HST.out.one.down).mono ?_
  rintro e w2 ⟨g, c, rfl, o2, b2⟩
  have HK2 : Hid (KZ2 w s a len cap w2) := Lib.hid (HST.out.more b2)
  have HGB : Hid (w.heap.size + 2 ≤ g ∧ g < w2.heap.size) := Lib.hid (by
    obtain ⟨g', c', e1, h1, h2⟩ := o2.point (by rw [HZ.out]; omega)
    injection e1 with e1
    injection e1 with e1
    injection e1 with e1
    subst e1
    have := HST.out.big
    exact ⟨by omega, h2⟩)
  have HO2 : Hid (OwnClue w2 (w.heap.size + 2) (.slice (some ⟨g, 0, none⟩) len c) cs) := Lib.hid (o2.mono (by have := HST.out.big; omega))
  clear b2 o2 c0 c1
  -- the copy lies in a box of its own
  obtain ⟨G, hG⟩ : ∃ G, G = w2.heap.size := ⟨_, rfl⟩
  obtain ⟨w3, hw3⟩ : ∃ w3, w3 = w2.alloc (.cells #[.int .i64 s, .slice (some ⟨g, 0, none⟩) len c] 31) := ⟨_, rfl⟩
  have HB3 : Hid (Blk w3 G 31 [.int .i64 s, .slice (some ⟨g, 0, none⟩) len c]) := Lib.hid (by rw [hw3, hG]; exact blk_new w2 _ [_, _])
  have HR3 : Hid (Blk w3 (w.heap.size + 1) 31 [.int .i64 0, .slice none 0 0]) := Lib.hid (by rw [hw3]; exact Blk.alloc (HK2.out.res) _)
  have HO3 : Hid (OwnClue w3 (w.heap.size + 2) (.slice (some ⟨g, 0, none⟩) len c) cs) := Lib.hid (by rw [hw3]; exact ownClue_alloc HO2.out _)
  have HW3 : Hid (Below w.heap.size w w3) := Lib.hid (by rw [hw3]; exact HK2.out.one.down.alloc HK2.out.one.down.size _)
  have HGG : Hid (G ≠ g ∧ w.heap.size + 1 ≠ g ∧ w.heap.size + 1 ≠ G ∧ w.heap.size ≤ G ∧ w.heap.size ≤ g ∧ G < w3.heap.size) := Lib.hid (by
    have := HGB.out; have := HB3.out.lt; refine ⟨?_, ?_, ?_, ?_, ?_, ?_⟩ <;> omega)
  have d0 : w3.cell? ⟨G, 0, none⟩ = some (.int .i64 s) := HB3.out.cell 0
  have d1 : w3.cell? ⟨G, 1, none⟩ = some (.slice (some ⟨g, 0, none⟩) len c) := HB3.out.cell 1
  have HD := Lib.hid (deleteClue_any w3 (w.heap.size + 2) g c T m cs (by rw [HZ.out]; exact HM.out) (by rw [HZ.out]; exact hl) (by rw [← HM.out]; exact HO3.out))
  rw [← HM.out] at HD
  go_wp2_with fail
  rw [← hw3, ← hG]
  clear hw3 hG
  go_wp2_with fail
  go_at_call 70
  refine HD.out.mono ?_
  rintro e w4 ⟨rfl, o4, g4⟩
  have HB4 : Hid (Blk w4 G 31 [.int .i64 s, .slice (some ⟨g, 0, none⟩) len c]) := Lib.hid (HB3.out.grown g4 (fun e => HGG.out.1 (Option.some.inj e).symm))
  have HR4 : Hid (Blk w4 (w.heap.size + 1) 31 [.int .i64 0, .slice none 0 0]) := Lib.hid (HR3.out.grown g4 (fun e => HGG.out.2.1 (Option.some.inj e).symm))
  have HW4 : Hid (Below w.heap.size w w4) := Lib.hid (grownBy_below HW3.out g4 (Nat.le_refl _) HGG.out.2.2.2.2.1)
  have HO4 : Hid (OwnClue w4 (w.heap.size + 2) (.slice (some ⟨g, 0, none⟩) (T + m) c) (without cs T)) := Lib.hid o4
  clear o4 g4 d0 d1
  obtain ⟨w5, hw5⟩ : ∃ w5, w5 = w4.setCell ⟨G, 1, none⟩ (.slice (some ⟨g, 0, none⟩) (T + m) c) := ⟨_, rfl⟩
  have HB5 : Hid (Blk w5 G 31 [.int .i64 s, .slice (some ⟨g, 0, none⟩) (T + m) c]) := Lib.hid (by rw [hw5]; exact HB4.out.set 1 _)
  have HR5 : Hid (Blk w5 (w.heap.size + 1) 31 [.int .i64 0, .slice none 0 0]) := Lib.hid (by rw [hw5]; exact HR4.out.grown (set_grown w4 G 1 _) (fun e => HGG.out.2.2.1 (Option.some.inj e).symm))
  have HO5 : Hid (OwnClue w5 (w.heap.size + 2) (.slice (some ⟨g, 0, none⟩) (T + m) c) (without cs T)) := Lib.hid (by rw [hw5]; exact own_far HO4.out HGG.out.1 1 _)
  have HW5 : Hid (Below w.heap.size w w5) := Lib.hid (by rw [hw5]; exact HW4.out.setCell (p := ⟨G, 1, none⟩) HGG.out.2.2.2.1 _)
  have b0 : w4.cell? ⟨G, 0, none⟩ = some (.int .i64 s) := HB4.out.cell 0
  have b1 : w4.cell? ⟨G, 1, none⟩ = some (.slice (some ⟨g, 0, none⟩) len c) := HB4.out.cell 1
  have f1 : w4.frozen? ⟨G, 1, none⟩ = false := HB4.out.free 1
  have e0 : w5.cell? ⟨G, 0, none⟩ = some (.int .i64 s) := HB5.out.cell 0
  have e1 : w5.cell? ⟨G, 1, none⟩ = some (.slice (some ⟨g, 0, none⟩) (T + m) c) := HB5.out.cell 1
  have r0 : w5.cell? ⟨w.heap.size + 1, 0, none⟩ = some (.int .i64 0) := HR5.out.cell 0
  have r1 : w5.cell? ⟨w.heap.size + 1, 1, none⟩ = some (.slice none 0 0) := HR5.out.cell 1
  have q0 : w5.frozen? ⟨w.heap.size + 1, 0, none⟩ = false := HR5.out.free 0
  have q1 : w5.frozen? ⟨w.heap.size + 1, 1, none⟩ = false := HR5.out.free 1
  rw [hw5] at e0 e1 r0 r1 q0 q1
  go_wp2
  (try simp only [Exit.inBlock, Exit.then])
  rw [← hw5] at r0 r1 ⊢
  refine bodyPost_ret (results_oneZ rfl _ _ (w.heap.size + 1) s (.slice (some ⟨g, 0, none⟩) (T + m) c) rfl rfl (setZ0 r0 r1) (setZ1 r0 r1)) rfl ?_
  exact ⟨_, rfl, (ownZ_set (ownZ_set HO5.out (by omega) 0 _) (by omega) 1 _).mono (by omega), HW5.out.setCell (Nat.le_succ _) _ |>.setCell (Nat.le_succ _) _⟩

end Go.Proofs.Ytodlpdbmiicdfab
