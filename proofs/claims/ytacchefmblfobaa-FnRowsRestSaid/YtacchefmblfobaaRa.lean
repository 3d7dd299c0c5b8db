/- Chapter 1's functions: one contract each, whatever row is given. Written by a program of mine (tools/mk/mk_ra.py). -/
import Derived.Test.YtacchefmblfobaaC1LawTickRow
import Derived.Test.YtacchefmblfobaaC1LawRestOf
import Derived.Test.YtacchefmblfobaaC1LawTurnsOfEach
import Derived.Test.YtacchefmblfobaaC1LawFacingPairs
import Derived.Test.YtacchefmblfobaaC1LawIsAtRest
import Derived.Test.YtacchefmblfobaaC1LawMirrorRow
import Derived.Test.YtacchefmblfobaaC1LawTurnedRow
import Derived.Test.YtacchefmblfobaaC1LawNumberOfRow
import Derived.Test.YtacchefmblfobaaC1LawCountTurns
import Derived.Test.YtacchefmblfobaaC1LawRowAfter
import Derived.Test.YtacchefmblfobaaC1LawsB
import Derived.Test.YtacchefmblfobaaC1RowNum
import Derived.Test.YtacchefmblfobaaRaa
namespace Go.Proofs.Ytacchefmblfobaa
open Go.ChangeShapes Go.WideShapes Go.ChangeAt Go.RowKit

theorem mir_to (l : List Bool) : C1.mirTo l 0 = Rw.mir l := by unfold C1.mirTo Rw.mir; rw [List.drop_zero, List.map_reverse]
set_option maxRecDepth 20000 in
theorem specTicksToRest_any (s : ByteArray) (hs : s.size ≤ maxLen) (w : World) :
    Calls Try.prog 10 #[.string s] w fun e w' => e = .returned (.tuple #[.int .i64 (rowI Rw.ticksOf s), .bool (C1.goodB s)]) ∧ Below w.heap.size w w' := by
  rcases hg : C1.goodB s with _ | _
  · unfold rowI; rw [hg]
    exact (C1.specTicks_no s hs hg w).mono fun _ _ ⟨h, hw⟩ => ⟨h, hw ▸ Below.refl _ _⟩
  · obtain ⟨h, h1, h2⟩ := row_of hg
    have H := C1.specTicks_yes (bits s) h1 h2 w
    rw [← h] at H
    unfold rowI; rw [hg]
    exact H
set_option maxRecDepth 20000 in
theorem implTicksToRest_any (s : ByteArray) (hs : s.size ≤ maxLen) (w : World) :
    Calls Try.prog 9 #[.string s] w fun e w' => e = .returned (.tuple #[.int .i64 (rowI Rw.ticksOf s), .bool (C1.goodB s)]) ∧ Below w.heap.size w w' := by
  rcases hg : C1.goodB s with _ | _
  · unfold rowI; rw [hg]
    exact (C1.implTicks_no s hs hg w).mono fun _ _ ⟨h, hw⟩ => ⟨h, hw ▸ Below.refl _ _⟩
  · obtain ⟨h, h1, h2⟩ := row_of hg
    have H := C1.implTicks_yes (bits s) h1 h2 w
    rw [← h] at H
    unfold rowI; rw [hg]
    exact H
set_option maxRecDepth 20000 in
theorem specCountTurns_any (s : ByteArray) (hs : s.size ≤ maxLen) (w : World) :
    Calls Try.prog 14 #[.string s] w fun e w' => e = .returned (.tuple #[.int .i64 (rowI Rw.countOf s), .bool (C1.goodB s)]) ∧ Below w.heap.size w w' := by
  rcases hg : C1.goodB s with _ | _
  · unfold rowI; rw [hg]
    exact (C1.specCountTurns_no s hs hg w).mono fun _ _ ⟨h, hw⟩ => ⟨h, hw ▸ Below.refl _ _⟩
  · obtain ⟨h, h1, h2⟩ := row_of hg
    have H := C1.specCountTurns_yes (bits s) h1 h2 w
    rw [← h] at H
    unfold rowI; rw [hg]
    exact H
set_option maxRecDepth 20000 in
theorem implCountTurns_any (s : ByteArray) (hs : s.size ≤ maxLen) (w : World) :
    Calls Try.prog 13 #[.string s] w fun e w' => e = .returned (.tuple #[.int .i64 (rowI Rw.countOf s), .bool (C1.goodB s)]) ∧ Below w.heap.size w w' := by
  rcases hg : C1.goodB s with _ | _
  · unfold rowI; rw [hg]
    exact (C1.implCountTurns_no s hs hg w).mono fun _ _ ⟨h, hw⟩ => ⟨h, hw ▸ Below.refl _ _⟩
  · obtain ⟨h, h1, h2⟩ := row_of hg
    have H := C1.implCountTurns_yes (bits s) h1 h2 w
    rw [← h] at H
    unfold rowI; rw [hg]
    exact H
set_option maxRecDepth 20000 in
theorem specNumberOfRow_any (s : ByteArray) (hs : s.size ≤ maxLen) (w : World) :
    Calls Try.prog 41 #[.string s] w fun e w' => e = .returned (.tuple #[.int .i64 (rowI Rw.numberOf s), .bool (C1.goodB s)]) ∧ Below w.heap.size w w' := by
  rcases hg : C1.goodB s with _ | _
  · unfold rowI; rw [hg]
    exact (C1.specNumberOfRow_no s hs hg w).mono fun _ _ ⟨h, hw⟩ => ⟨h, hw ▸ Below.refl _ _⟩
  · obtain ⟨h, h1, h2⟩ := row_of hg
    have H := C1.specNumberOfRow_yes (bits s) h1 h2 w
    rw [← h] at H
    unfold rowI; rw [hg]
    exact H
set_option maxRecDepth 20000 in
theorem implNumberOfRow_any (s : ByteArray) (hs : s.size ≤ maxLen) (w : World) :
    Calls Try.prog 33 #[.string s] w fun e w' => e = .returned (.tuple #[.int .i64 (rowI Rw.numberOf s), .bool (C1.goodB s)]) ∧ Below w.heap.size w w' := by
  rcases hg : C1.goodB s with _ | _
  · unfold rowI; rw [hg]
    exact (C1.implNumberOfRow_no s hs hg w).mono fun _ _ ⟨h, hw⟩ => ⟨h, hw ▸ Below.refl _ _⟩
  · obtain ⟨h, h1, h2⟩ := row_of hg
    have H := C1.implNumberOfRow_yes (bits s) h1 h2 w
    rw [← h] at H
    unfold rowI; rw [hg]
    exact H
set_option maxRecDepth 20000 in
theorem specRestOf_any (s : ByteArray) (hs : s.size ≤ maxLen) (w : World) :
    Calls Try.prog 12 #[.string s] w fun e w' => e = .returned (.tuple #[.string (rowS Rw.restOf s), .bool (C1.goodB s)]) ∧ Below w.heap.size w w' := by
  rcases hg : C1.goodB s with _ | _
  · unfold rowS; rw [hg]
    exact (C1.specRestOf_no s hs hg w).mono fun _ _ ⟨h, hw⟩ => ⟨h, hw ▸ Below.refl _ _⟩
  · obtain ⟨h, h1, h2⟩ := row_of hg
    have H := C1.specRestOf_yes (bits s) h1 h2 w
    rw [← h] at H
    unfold rowS; rw [hg]
    exact H
set_option maxRecDepth 20000 in
theorem implRestOf_any (s : ByteArray) (hs : s.size ≤ maxLen) (w : World) :
    Calls Try.prog 11 #[.string s] w fun e w' => e = .returned (.tuple #[.string (rowS Rw.restOf s), .bool (C1.goodB s)]) ∧ Below w.heap.size w w' := by
  rcases hg : C1.goodB s with _ | _
  · unfold rowS; rw [hg]
    exact (C1.implRestOf_no s hs hg w).mono fun _ _ ⟨h, hw⟩ => ⟨h, hw ▸ Below.refl _ _⟩
  · obtain ⟨h, h1, h2⟩ := row_of hg
    have H := C1.implRestOf_yes (bits s) h1 h2 w
    rw [← h] at H
    unfold rowS; rw [hg]
    exact H
set_option maxRecDepth 20000 in
theorem specTickRow_any (s : ByteArray) (hs : s.size ≤ maxLen) (w : World) :
    Calls Try.prog 20 #[.string s] w fun e w' => e = .returned (.tuple #[.string (rowS Rw.tick s), .bool (C1.goodB s)]) ∧ Below w.heap.size w w' := by
  rcases hg : C1.goodB s with _ | _
  · unfold rowS; rw [hg]
    exact (C1.specTickRow_no s hs hg w).mono fun _ _ ⟨h, hw⟩ => ⟨h, hw ▸ Below.refl _ _⟩
  · obtain ⟨h, h1, h2⟩ := row_of hg
    have H := C1.specTickRow_yes (bits s) h1 h2 w
    rw [← h] at H
    unfold rowS; rw [hg]
    exact H
set_option maxRecDepth 20000 in
theorem implTickRow_any (s : ByteArray) (hs : s.size ≤ maxLen) (w : World) :
    Calls Try.prog 19 #[.string s] w fun e w' => e = .returned (.tuple #[.string (rowS Rw.tick s), .bool (C1.goodB s)]) ∧ Below w.heap.size w w' := by
  rcases hg : C1.goodB s with _ | _
  · unfold rowS; rw [hg]
    exact (C1.implTickRow_no s hs hg w).mono fun _ _ ⟨h, hw⟩ => ⟨h, hw ▸ Below.refl _ _⟩
  · obtain ⟨h, h1, h2⟩ := row_of hg
    have H := C1.implTickRow_yes (bits s) h1 h2 w
    rw [← h] at H
    unfold rowS; rw [hg]
    exact H
set_option maxRecDepth 20000 in
theorem specMirrorRow_any (s : ByteArray) (hs : s.size ≤ maxLen) (w : World) :
    Calls Try.prog 24 #[.string s] w fun e w' => e = .returned (.tuple #[.string (rowS Rw.mir s), .bool (C1.goodB s)]) ∧ Below w.heap.size w w' := by
  rcases hg : C1.goodB s with _ | _
  · unfold rowS; rw [hg]
    exact (C1.specMirrorRow_no s hs hg w).mono fun _ _ ⟨h, hw⟩ => ⟨h, hw ▸ Below.refl _ _⟩
  · obtain ⟨h, h1, h2⟩ := row_of hg
    have H := C1.specMirrorRow_yes (bits s) h1 h2 w
    rw [mir_to] at H
    rw [← h] at H
    unfold rowS; rw [hg]
    exact H
set_option maxRecDepth 20000 in
theorem implMirrorRow_any (s : ByteArray) (hs : s.size ≤ maxLen) (w : World) :
    Calls Try.prog 23 #[.string s] w fun e w' => e = .returned (.tuple #[.string (rowS Rw.mir s), .bool (C1.goodB s)]) ∧ Below w.heap.size w w' := by
  rcases hg : C1.goodB s with _ | _
  · unfold rowS; rw [hg]
    exact (C1.implMirrorRow_no s hs hg w).mono fun _ _ ⟨h, hw⟩ => ⟨h, hw ▸ Below.refl _ _⟩
  · obtain ⟨h, h1, h2⟩ := row_of hg
    have H := C1.implMirrorRow_yes (bits s) h1 h2 w
    rw [mir_to] at H
    rw [← h] at H
    unfold rowS; rw [hg]
    exact H
set_option maxRecDepth 20000 in
theorem specTurnedRow_any (s : ByteArray) (hs : s.size ≤ maxLen) (w : World) :
    Calls Try.prog 26 #[.string s] w fun e w' => e = .returned (.tuple #[.string (rowS (fun l => l.map (!·)) s), .bool (C1.goodB s)]) ∧ Below w.heap.size w w' := by
  rcases hg : C1.goodB s with _ | _
  · unfold rowS; rw [hg]
    exact (C1.specTurnedRow_no s hs hg w).mono fun _ _ ⟨h, hw⟩ => ⟨h, hw ▸ Below.refl _ _⟩
  · obtain ⟨h, h1, h2⟩ := row_of hg
    have H := C1.specTurnedRow_yes (bits s) h1 h2 w
    rw [← h] at H
    unfold rowS; rw [hg]
    exact H
set_option maxRecDepth 20000 in
theorem implTurnedRow_any (s : ByteArray) (hs : s.size ≤ maxLen) (w : World) :
    Calls Try.prog 25 #[.string s] w fun e w' => e = .returned (.tuple #[.string (rowS (fun l => l.map (!·)) s), .bool (C1.goodB s)]) ∧ Below w.heap.size w w' := by
  rcases hg : C1.goodB s with _ | _
  · unfold rowS; rw [hg]
    exact (C1.implTurnedRow_no s hs hg w).mono fun _ _ ⟨h, hw⟩ => ⟨h, hw ▸ Below.refl _ _⟩
  · obtain ⟨h, h1, h2⟩ := row_of hg
    have H := C1.implTurnedRow_yes (bits s) h1 h2 w
    rw [← h] at H
    unfold rowS; rw [hg]
    exact H
set_option maxRecDepth 20000 in
theorem specIsAtRest_any (s : ByteArray) (hs : s.size ≤ maxLen) (w : World) :
    Calls Try.prog 22 #[.string s] w fun e w' => e = .returned (.tuple #[.bool (rowB C1.restB s), .bool (C1.goodB s)]) ∧ Below w.heap.size w w' := by
  rcases hg : C1.goodB s with _ | _
  · unfold rowB; rw [hg]
    exact (C1.specIsAtRest_no s hs hg w).mono fun _ _ ⟨h, hw⟩ => ⟨h, hw ▸ Below.refl _ _⟩
  · obtain ⟨h, h1, h2⟩ := row_of hg
    have H := C1.specIsAtRest_yes (bits s) h1 h2 w
    rw [← h] at H
    unfold rowB; rw [hg]
    exact H
set_option maxRecDepth 20000 in
theorem implIsAtRest_any (s : ByteArray) (hs : s.size ≤ maxLen) (w : World) :
    Calls Try.prog 21 #[.string s] w fun e w' => e = .returned (.tuple #[.bool (rowB C1.restB s), .bool (C1.goodB s)]) ∧ Below w.heap.size w w' := by
  rcases hg : C1.goodB s with _ | _
  · unfold rowB; rw [hg]
    exact (C1.implIsAtRest_no s hs hg w).mono fun _ _ ⟨h, hw⟩ => ⟨h, hw ▸ Below.refl _ _⟩
  · obtain ⟨h, h1, h2⟩ := row_of hg
    have H := C1.implIsAtRest_yes (bits s) h1 h2 w
    rw [← h] at H
    unfold rowB; rw [hg]
    exact H
set_option maxRecDepth 20000 in
theorem specTurnsOfEach_any (s : ByteArray) (hs : s.size ≤ maxLen) (w : World) :
    Calls Try.prog 16 #[.string s] w fun e w' => ∃ v, e = .returned (.tuple #[v, .bool (C1.goodB s)]) ∧ Own w' w.heap.size v (rowL turnsL s) ∧ Below w.heap.size w w' := by
  rcases hg : C1.goodB s with _ | _
  · unfold rowL; rw [hg]
    exact C1.specTurnsOfEach_no s hs hg w
  · obtain ⟨h, h1, h2⟩ := row_of hg
    have H := C1.specTurnsOfEach_yes (bits s) h1 h2 w
    rw [← h] at H
    unfold rowL; rw [hg]
    exact H
set_option maxRecDepth 20000 in
theorem implTurnsOfEach_any (s : ByteArray) (hs : s.size ≤ maxLen) (w : World) :
    Calls Try.prog 15 #[.string s] w fun e w' => ∃ v, e = .returned (.tuple #[v, .bool (C1.goodB s)]) ∧ Own w' w.heap.size v (rowL turnsL s) ∧ Below w.heap.size w w' := by
  rcases hg : C1.goodB s with _ | _
  · unfold rowL; rw [hg]
    exact C1.implTurnsOfEach_no s hs hg w
  · obtain ⟨h, h1, h2⟩ := row_of hg
    have H := C1.implTurnsOfEach_yes (bits s) h1 h2 w
    rw [← h] at H
    unfold rowL; rw [hg]
    exact H
set_option maxRecDepth 20000 in
theorem specFacingPairs_any (s : ByteArray) (hs : s.size ≤ maxLen) (w : World) :
    Calls Try.prog 18 #[.string s] w fun e w' => ∃ v, e = .returned (.tuple #[v, .bool (C1.goodB s)]) ∧ Own w' w.heap.size v (rowL Rw.pairs s) ∧ Below w.heap.size w w' := by
  rcases hg : C1.goodB s with _ | _
  · unfold rowL; rw [hg]
    exact C1.specFacingPairs_no s hs hg w
  · obtain ⟨h, h1, h2⟩ := row_of hg
    have H := C1.specFacingPairs_yes (bits s) h1 h2 w
    rw [← h] at H
    unfold rowL; rw [hg]
    exact H
set_option maxRecDepth 20000 in
theorem implFacingPairs_any (s : ByteArray) (hs : s.size ≤ maxLen) (w : World) :
    Calls Try.prog 17 #[.string s] w fun e w' => ∃ v, e = .returned (.tuple #[v, .bool (C1.goodB s)]) ∧ Own w' w.heap.size v (rowL Rw.pairs s) ∧ Below w.heap.size w w' := by
  rcases hg : C1.goodB s with _ | _
  · unfold rowL; rw [hg]
    exact C1.implFacingPairs_no s hs hg w
  · obtain ⟨h, h1, h2⟩ := row_of hg
    have H := C1.implFacingPairs_yes (bits s) h1 h2 w
    rw [← h] at H
    unfold rowL; rw [hg]
    exact H
set_option maxRecDepth 20000 in
theorem implIsRow_any (s : ByteArray) (hs : s.size ≤ maxLen) (w : World) :
    Calls Try.prog 28 #[.string s] w fun e w' => e = .returned (.bool (C1.goodB s)) ∧ Below w.heap.size w w' :=
  (C1.isRow_any s w hs).mono fun _ _ ⟨h, hw⟩ => ⟨h, hw ▸ Below.refl _ _⟩
set_option maxRecDepth 20000 in
theorem specIsRow_any (s : ByteArray) (hs : s.size ≤ maxLen) (w : World) :
    Calls Try.prog 29 #[.string s] w fun e w' => e = .returned (.bool (C1.goodB s)) ∧ Below w.heap.size w w' :=
  (C1.specIsRow_any s w hs).mono fun _ _ ⟨h, hw⟩ => ⟨h, hw ▸ Below.refl _ _⟩

def bMake (n k : Int) : Bool := decide (1 ≤ n ∧ n ≤ 60 ∧ 0 ≤ k ∧ k < ((2 ^ n.toNat : Nat) : Int))
def oMake (n k : Int) : ByteArray := cond (bMake n k) (Rw.str (Rw.make n.toNat k.toNat)) ByteArray.empty
theorem bMake_yes {n k : Int} (h : bMake n k = true) : 1 ≤ n ∧ n ≤ 60 ∧ 0 ≤ k ∧ k < ((2 ^ n.toNat : Nat) : Int) := of_decide_eq_true h
theorem bMake_no {n k : Int} (h : bMake n k = false) : C1.noRow n k := by
  have h := of_decide_eq_false h
  unfold C1.noRow C1.p2
  by_cases h1 : 1 ≤ n ∧ n ≤ 60
  · by_cases h2 : k < 0
    · exact Or.inr (Or.inl h2)
    · refine Or.inr (Or.inr (Int.not_lt.1 fun h3 => h ⟨h1.1, h1.2, by omega, h3⟩))
  · exact Or.inl h1
set_option maxRecDepth 20000 in
theorem specRowOfNumber_any (n k : Int) (w : World) :
    Calls Try.prog 39 #[.int .i64 n, .int .i64 k] w fun e w' => e = .returned (.tuple #[.string (oMake n k), .bool (bMake n k)]) ∧ Below w.heap.size w w' := by
  rcases hg : bMake n k with _ | _
  · unfold oMake; rw [hg]
    exact (C1.specRowOfNumber_no n k (bMake_no hg) w).mono fun _ _ ⟨h, hw⟩ => ⟨h, hw ▸ Below.refl _ _⟩
  · obtain ⟨h1, h2, h3, h4⟩ := bMake_yes hg
    have H := C1.specRowOfNumber_yes n.toNat k.toNat (by omega) (by omega) (by unfold C1.p2; omega) w
    rw [Int.toNat_of_nonneg (by omega : 0 ≤ n), Int.toNat_of_nonneg h3] at H
    unfold oMake; rw [hg]
    exact H.mono fun _ _ ⟨h, hw⟩ => ⟨h, hw ▸ Below.refl _ _⟩
set_option maxRecDepth 20000 in
theorem implRowOfNumber_any (n k : Int) (w : World) :
    Calls Try.prog 34 #[.int .i64 n, .int .i64 k] w fun e w' => e = .returned (.tuple #[.string (oMake n k), .bool (bMake n k)]) ∧ Below w.heap.size w w' := by
  rcases hg : bMake n k with _ | _
  · unfold oMake; rw [hg]
    exact (C1.implRowOfNumber_no n k (bMake_no hg) w).mono fun _ _ ⟨h, hw⟩ => ⟨h, hw ▸ Below.refl _ _⟩
  · obtain ⟨h1, h2, h3, h4⟩ := bMake_yes hg
    have H := C1.implRowOfNumber_yes n.toNat k.toNat (by omega) (by omega) (by unfold C1.p2; omega) w
    rw [Int.toNat_of_nonneg (by omega : 0 ≤ n), Int.toNat_of_nonneg h3] at H
    unfold oMake; rw [hg]
    exact H
def bAfter (s : ByteArray) (t : Int) : Bool := C1.goodB s && decide (0 ≤ t ∧ t ≤ 1000000)
def oAfter (s : ByteArray) (t : Int) : ByteArray := cond (bAfter s t) (Rw.str (Rw.afterOf t.toNat (bits s))) ByteArray.empty
theorem bAfter_yes {s : ByteArray} {t : Int} (h : bAfter s t = true) : C1.goodB s = true ∧ 0 ≤ t ∧ t ≤ 1000000 := by
  have h := Bool.and_eq_true_iff.1 h
  exact ⟨h.1, of_decide_eq_true h.2⟩
theorem bAfter_no {s : ByteArray} {t : Int} (h : bAfter s t = false) : C1.noAfter s t := by
  unfold C1.noAfter
  rcases hg : C1.goodB s with _ | _
  · exact Or.inl rfl
  · unfold bAfter at h; rw [hg, Bool.true_and] at h
    have h := of_decide_eq_false h
    omega
set_option maxRecDepth 20000 in
theorem specRowAfter_any (s : ByteArray) (hs : s.size ≤ maxLen) (t : Int) (w : World) :
    Calls Try.prog 37 #[.string s, .int .i64 t] w fun e w' => e = .returned (.tuple #[.string (oAfter s t), .bool (bAfter s t)]) ∧ Below w.heap.size w w' := by
  rcases hg : bAfter s t with _ | _
  · unfold oAfter; rw [hg]
    exact (C1.specRowAfter_no s hs t (bAfter_no hg) w).mono fun _ _ ⟨h, hw⟩ => ⟨h, by first | exact hw ▸ Below.refl _ _ | exact hw⟩
  · obtain ⟨h0, h3, h4⟩ := bAfter_yes hg
    obtain ⟨h, h1, h2⟩ := row_of h0
    have H := C1.specRowAfter_yes (bits s) t.toNat (by omega) h1 h2 w
    rw [Int.toNat_of_nonneg h3, ← h] at H
    unfold oAfter; rw [hg]
    exact H
set_option maxRecDepth 20000 in
theorem implRowAfter_any (s : ByteArray) (hs : s.size ≤ maxLen) (t : Int) (w : World) :
    Calls Try.prog 36 #[.string s, .int .i64 t] w fun e w' => e = .returned (.tuple #[.string (oAfter s t), .bool (bAfter s t)]) ∧ Below w.heap.size w w' := by
  rcases hg : bAfter s t with _ | _
  · unfold oAfter; rw [hg]
    exact (C1.implRowAfter_no s hs t (bAfter_no hg) w).mono fun _ _ ⟨h, hw⟩ => ⟨h, by first | exact hw ▸ Below.refl _ _ | exact hw⟩
  · obtain ⟨h0, h3, h4⟩ := bAfter_yes hg
    obtain ⟨h, h1, h2⟩ := row_of h0
    have H := C1.implRowAfter_yes (bits s) t.toNat (by omega) h1 h2 w
    rw [Int.toNat_of_nonneg h3, ← h] at H
    unfold oAfter; rw [hg]
    exact H
end Go.Proofs.Ytacchefmblfobaa
