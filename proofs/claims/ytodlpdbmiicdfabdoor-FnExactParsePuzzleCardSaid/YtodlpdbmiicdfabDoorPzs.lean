/- Chapter 9: the model's ParsePuzzle. -/
import Derived.Test.YtodlpdbmiicdfabDoorPzq
import Derived.Test.YtodlpdbmiicdfabDoorZx
namespace Go.Proofs.YtodlpdbmiicdfabDoor
open Go.ChangeShapes Go.WideShapes Go.ChangeAt Go.RowKit
open Pz Rd

theorem lenParsePuzzle_1 (s : ByteArray) (_hls : s.size ≤ 1048576) : (outParsePuzzle_1 s).length ≤ 1048576 := by
  unfold outParsePuzzle_1
  split
  · rename_i h
    unfold parP at h
    simp only [Bool.and_eq_true] at h
    obtain ⟨_, hl, _⟩ := pz_of h.2.2.1
    omega
  · exact Nat.zero_le _
set_option maxHeartbeats 4000000 in
set_option maxRecDepth 20000 in
theorem specParsePuzzle_any (w : World) (s : ByteArray) (_ws : s.size ≤ maxLen) (hls : s.size ≤ 1048576) :
    Calls Tryd.prog 10 #[.string s] w fun e w' => ∃ v0, e = .returned (.tuple #[.agg #[.int .i64 (outParsePuzzle_0 s), v0], .bool (outParsePuzzle_2 s)]) ∧ OwnClue w' w.heap.size v0 (outParsePuzzle_1 s) ∧ Below w.heap.size w w' := by
  obtain ⟨w0, hw0⟩ : ∃ w0, w0 = w.alloc (.cells #[.int .i64 0, .slice none 0 0] 30) := ⟨_, rfl⟩
  have HB0 : Hid (Below w.heap.size w w0) := Lib.hid (by rw [hw0]; exact (Below.refl _ _).alloc (Nat.le_refl _) _)
  have HK0 : Hid (Blk w0 w.heap.size 30 [.int .i64 0, .slice none 0 0]) := Lib.hid (by rw [hw0]; exact heap_alloc_new w _)
  have HZ0 : Hid (w0.heap.size = w.heap.size + 1) := Lib.hid (by rw [hw0]; exact pz_size1 _ _)
  have HP := Lib.hid (pzParse_any w0 s hls)
  have HO : Hid (outParsePuzzle_2 s = parP s ∧ (parP s = true → outParsePuzzle_0 s = soldZ s ∧ outParsePuzzle_1 s = cluesZ s) ∧ (parP s = false → outParsePuzzle_0 s = 0 ∧ outParsePuzzle_1 s = [])) := Lib.hid (by
    unfold outParsePuzzle_0 outParsePuzzle_1 outParsePuzzle_2
    exact ⟨rfl, fun h => by rw [h]; exact ⟨rfl, rfl⟩, fun h => by rw [h]; exact ⟨rfl, rfl⟩⟩)
  obtain ⟨b, hb⟩ : ∃ b, b = parP s := ⟨_, rfl⟩
  rw [← hb] at HP HO
  clear hb
  go_enter Tryd.func10, Tryd.ntmps10
  go_wp2_with fail
  rw [← hw0]
  clear hw0
  go_at_call 23
  refine HP.out.mono ?_
  rintro e w1 ⟨x, ao, len, cap, rfl, hx, b1⟩
  have HX := Lib.hid hx
  have B1 : Hid (Below w0.heap.size w0 w1) := Lib.hid b1
  have hG : w.heap.size < w1.heap.size := by have := b1.size; have := HZ0.out; omega
  have HK1 := HK0.out.below b1 HK0.out.lt
  have HB1 : Hid (Below w.heap.size w w1) := Lib.hid (HB0.out.trans (b1.mono HB0.out.size))
  have c0 : w1.cell? ⟨w.heap.size, 0, none⟩ = some (.int .i64 0) := HK1.cell 0
  have c1 : w1.cell? ⟨w.heap.size, 1, none⟩ = some (.slice none 0 0) := HK1.cell 1
  have e0 : w1.frozen? ⟨w.heap.size, 0, none⟩ = false := HK1.free 0
  have e1 : w1.frozen? ⟨w.heap.size, 1, none⟩ = false := HK1.free 1
  have hne : w.heap.size ≠ w1.heap.size := by omega
  have HAL : Hid (∀ (w3 : World) (o : Obj) (a : Addr) (u : Value), w3.cell? a = some u → (w3.alloc o).cell? a = some u) := Lib.hid (fun w3 o a u h => (World.cell?_alloc_lt _ _ _ (World.block_lt_of_cell? _ _ h)).trans h)
  have HBE : Hid (∀ (v1 v2 : Value) (o : Obj), Below w.heap.size w (((w1.setCell ⟨w.heap.size, 0, none⟩ v1).setCell ⟨w.heap.size, 1, none⟩ v2).alloc o)) := Lib.hid (fun v1 v2 o =>
    ((HB1.out.setCell (Nat.le_refl _) _).setCell (Nat.le_refl _) _).alloc (by simp [World.setCell]; omega) _)
  clear hx b1 HK1 HP
  rcases b with _ | _
  · have HE := Lib.hid (HO.out.2.2 rfl)
    have HE2 := Lib.hid HO.out.1
    go_wp2
    (try simp only [Exit.inBlock, Exit.then])
    refine bodyPost_ret (results_cellZ rfl _ _ w.heap.size 0 (.slice none 0 0) rfl rfl (HAL.out _ _ _ _ (setZ0 c0 c1)) (HAL.out _ _ _ _ (setZ1 c0 c1))) rfl ?_
    exact ⟨.slice none 0 0, by rw [HE.out.1, HE2.out]; exact rfl, by rw [HE.out.2]; exact ownClue_nil _ _, HBE.out _ _ _⟩
  · have HE := Lib.hid (HO.out.2.1 rfl)
    have HE2 := Lib.hid HO.out.1
    have HXX := Lib.hid (HX.out rfl).1
    have HXO := Lib.hid (HX.out rfl).2
    have HZZ := HZ0.out
    go_wp2
    (try simp only [Exit.inBlock, Exit.then])
    refine bodyPost_ret (results_cellZ rfl _ _ w.heap.size x (.slice ao len cap) rfl rfl (HAL.out _ _ _ _ (setZ0 c0 c1)) (HAL.out _ _ _ _ (setZ1 c0 c1))) rfl ?_
    exact ⟨.slice ao len cap, by rw [HE.out.1, HE2.out, ← HXX.out]; exact rfl, by rw [HE.out.2]; exact ((ownZ_set (ownZ_set HXO.out (by omega) 0 _) (by omega) 1 _).below ((Below.refl _ _).alloc (Nat.le_refl _) _) (Nat.le_refl _)).mono (by omega), HBE.out _ _ _⟩

end Go.Proofs.YtodlpdbmiicdfabDoor
