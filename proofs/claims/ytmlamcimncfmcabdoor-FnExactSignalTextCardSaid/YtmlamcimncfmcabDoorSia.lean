/- Chapter 8: the model's signals: siSoldiers, siSignal, siList, AreSignals, siTime, siAt, siComes, siMeet, siFirst. -/
import Derived.Test.YtmlamcimncfmcabDoorRSignal
import Derived.Test.YtmlamcimncfmcabDoorIn
import Derived.Test.YtmlamcimncfmcabDoorUp
import Derived.Test.YtmlamcimncfmcabDoorDrew
import Derived.Test.YtmlamcimncfmcabDoorLeast
import Derived.Test.YtmlamcimncfmcabDoorMost
import Derived.BigQuiet
namespace Go.Proofs.YtmlamcimncfmcabDoor
open Go.ChangeShapes Go.WideShapes Go.ChangeAt Go.RowKit

namespace Si
def sigB (n : Int) (p : RSignal) : Bool := inB n 1 100 && (inB p.1 0 (n - 1) && inB p.2.2 1 10)
def listB (n : Int) (ps : List RSignal) : Bool := inB ps.length 1 10 && ps.all (sigB n)
/-- a signal of n soldiers, as numbers -/
structure OkS (n f s : Nat) : Prop where
  n1 : 1 ≤ n
  n2 : n ≤ 100
  f1 : f < n
  s1 : 1 ≤ s
  s2 : s ≤ 10
theorem sig_nat {n : Int} {p : RSignal} (h : sigB n p = true) : ∃ m f s : Nat, n = m ∧ p = ((f : Int), p.2.1, (s : Int)) ∧ OkS m f s := by
  unfold sigB at h
  rw [Bool.and_eq_true, Bool.and_eq_true] at h
  have h1 := inB_yes h.1
  have h2 := inB_yes h.2.1
  have h3 := inB_yes h.2.2
  refine ⟨n.toNat, p.1.toNat, p.2.2.toNat, by omega, Prod.ext (show p.1 = ((p.1.toNat : Nat) : Int) by omega) (Prod.ext rfl (show p.2.2 = ((p.2.2.toNat : Nat) : Int) by omega)), by omega, by omega, by omega, by omega, by omega⟩
theorem sig_of {n f s : Nat} (l : Bool) (h : OkS n f s) : sigB n ((f : Int), l, (s : Int)) = true := by
  unfold sigB
  obtain ⟨a, b, c, d, e⟩ := h
  rw [inB_of (by omega), inB_of (by simp only; omega), inB_of (by simp only; omega)]; rfl
def beg (n f : Nat) (l : Bool) : Nat := if l then 2 * (n - 1) - f else f
theorem beg_le {n f : Nat} {l : Bool} (h : f < n) : beg n f l ≤ 2 * (n - 1) := by unfold beg; split <;> omega
/-- how far around -/
def arN (n f : Nat) (l : Bool) (s t : Nat) : Nat := (beg n f l + t / s) % (2 * (n - 1))
def posN (n f : Nat) (l : Bool) (s t : Nat) : Nat := if n = 1 then 0 else min (arN n f l s t) (2 * (n - 1) - arN n f l s t)
theorem posN_one (f : Nat) (l : Bool) (s t : Nat) : posN 1 f l s t = 0 := rfl
theorem posN_lt {n f s : Nat} (l : Bool) (t : Nat) (h : OkS n f s) : posN n f l s t < n := by
  unfold posN
  have := h.n1
  split
  · omega
  · have : arN n f l s t < 2 * (n - 1) := Nat.mod_lt _ (by omega)
    omega
def comesB (n s t : Nat) : Bool := decide (t = 0) || (decide (1 < n) && decide (t % s = 0))
def meetB (n f : Nat) (l : Bool) (s g : Nat) (m : Bool) (u t : Nat) : Bool := (comesB n s t || comesB n u t) && decide (posN n f l s t = posN n g m u t)
def firstN (n f : Nat) (l : Bool) (s p : Nat) : Nat := if n = 1 then 0 else min ((p + 2 * (2 * (n - 1)) - beg n f l) % (2 * (n - 1))) ((3 * (2 * (n - 1)) - p - beg n f l) % (2 * (n - 1))) * s
theorem firstN_le {n f s : Nat} (l : Bool) (p : Nat) (h : OkS n f s) : firstN n f l s p ≤ 2000 := by
  unfold firstN
  split
  · omega
  · obtain ⟨a, b, c, d, e⟩ := h
    have h1 : (p + 2 * (2 * (n - 1)) - beg n f l) % (2 * (n - 1)) < 2 * (n - 1) := Nat.mod_lt _ (by omega)
    have h2 : min ((p + 2 * (2 * (n - 1)) - beg n f l) % (2 * (n - 1))) ((3 * (2 * (n - 1)) - p - beg n f l) % (2 * (n - 1))) ≤ 200 := by omega
    have := Nat.mul_le_mul h2 e
    omega
def toN (ps : List RSignal) : List (Nat × Bool × Nat) := ps.map fun p => (p.1.toNat, p.2.1, p.2.2.toNat)
theorem list_no1 {n : Int} {ps : List RSignal} (h : inB ps.length 1 10 = false) : listB n ps = false := by unfold listB; rw [h]; rfl
theorem list_no2 {n : Int} {ps : List RSignal} {k : Nat} (hk : k < ps.length) (h : sigB n (ps.getD k zSignal) = false) : listB n ps = false := by
  unfold listB
  have : ps.all (sigB n) = false := by
    rw [List.all_eq_false]
    refine ⟨ps[k], List.getElem_mem hk, ?_⟩
    simp only [List.getD_eq_getElem?_getD, List.getElem?_eq_getElem hk, Option.getD_some] at h
    rw [h]; simp
  rw [this]; simp
theorem list_yes {n : Int} {ps : List RSignal} (h1 : inB ps.length 1 10 = true) (h : ∀ k, k < ps.length → sigB n (ps.getD k zSignal) = true) : listB n ps = true := by
  unfold listB
  rw [h1, Bool.true_and, List.all_eq_true]
  intro p hp
  obtain ⟨k, hk, rfl⟩ := List.getElem_of_mem hp
  have := h k hk
  simpa only [List.getD_eq_getElem?_getD, List.getElem?_eq_getElem hk, Option.getD_some] using this
/-- what a list of signals gives, one by one -/
theorem list_each {n : Nat} {ps : List RSignal} (h : listB n ps = true) : 1 ≤ ps.length ∧ ps.length ≤ 10 ∧ ∀ k, k < ps.length → sigB n (ps.getD k zSignal) = true := by
  unfold listB at h
  rw [Bool.and_eq_true, List.all_eq_true] at h
  have := inB_yes h.1
  refine ⟨by omega, by omega, fun k hk => ?_⟩
  have := h.2 _ (List.getElem_mem hk)
  simpa only [List.getD_eq_getElem?_getD, List.getElem?_eq_getElem hk, Option.getD_some] using this
end Si
open Si
/-- a signal's own cells -/
def BoxS (w : World) (g : Nat) (f : Int) (l : Bool) (s : Int) : Prop := w.cell? ⟨g, 0, none⟩ = some (.int .i64 f) ∧ w.cell? ⟨g, 1, none⟩ = some (.bool l) ∧ w.cell? ⟨g, 2, none⟩ = some (.int .i64 s)
theorem BoxS.below {w w' : World} {g : Nat} {f s : Int} {l : Bool} (h : BoxS w g f l s) (hb : Below w.heap.size w w') : BoxS w' g f l s :=
  ⟨(hb.cell (World.block_lt_of_cell? w _ h.1)).trans h.1, (hb.cell (World.block_lt_of_cell? w _ h.2.1)).trans h.2.1, (hb.cell (World.block_lt_of_cell? w _ h.2.2)).trans h.2.2⟩
theorem alloc_size1 (w : World) (o : Obj) : (w.alloc o).heap.size = w.heap.size + 1 := Array.size_push _
theorem own_drew {w : World} {B : Nat} {v : Value} {zs : List Int} (h : Own w B v zs) (n : Nat) : Own (w.drewN n) B v zs := h

theorem boxS_new (w : World) (f s : Int) (l : Bool) : BoxS (w.alloc (.cells #[.int .i64 f, .bool l, .int .i64 s] 26)) w.heap.size f l s :=
  ⟨by rw [World.cell?_alloc_new]; rfl, by rw [World.cell?_alloc_new]; rfl, by rw [World.cell?_alloc_new]; rfl⟩

set_option maxHeartbeats 400000 in
theorem siSoldiers_any (t : Int) (w : World) :
    Calls Tryd.prog 18 #[.int .i64 t] w fun e w' => e = .returned (.bool (inB t 1 100)) ∧ w = w' := by
  have HI := Lib.hid (l1In_any t 1 100 w)
  go_enter Tryd.func18, Tryd.ntmps18
  go_wp2_with (go_at_call 19; refine HI.out.mono ?_; rintro e w' ⟨rfl, rfl⟩)
  go_ret
  exact ⟨rfl, rfl⟩


set_option maxHeartbeats 1000000 in
theorem siSignal_any (n x y : Int) (l : Bool) (w : World) :
    Calls Tryd.prog 11 #[.int .i64 n, .agg #[.int .i64 x, .bool l, .int .i64 y]] w fun e w' => e = .returned (.bool (sigB n (x, l, y))) ∧ Below w.heap.size w w' := by
  have HA := Lib.hid (fun w2 => siSoldiers_any n w2)
  have HI := Lib.hid (fun w2 => l1In_any x 0 (n - 1) w2)
  have HJ := Lib.hid (fun w2 => l1In_any y 1 10 w2)
  have HB : Hid (Below w.heap.size w (w.alloc (.cells #[.int .i64 x, .bool l, .int .i64 y] 26))) := Lib.hid ((Below.refl _ _).alloc (Nat.le_refl _) _)
  rcases ha : inB n 1 100 with _ | _
  · have HE : Hid (sigB n (x, l, y) = false) := Lib.hid (by unfold sigB; rw [ha]; rfl)
    rw [ha] at HA
    clear ha
    go_enter Tryd.func11, Tryd.ntmps11
    go_wp2_with (go_at_call 18; refine (HA.out _).mono ?_; rintro e w' ⟨rfl, rfl⟩)
    go_ret
    exact ⟨ret_bool (by rw [HE.out]), HB.out⟩
  obtain ⟨n1, n2⟩ := inB_yes ha
  rcases hb : inB x 0 (n - 1) with _ | _
  · have HE : Hid (sigB n (x, l, y) = false) := Lib.hid (by unfold sigB; simp only; rw [ha, hb]; rfl)
    rw [ha] at HA
    rw [hb] at HI
    clear ha hb
    go_enter Tryd.func11, Tryd.ntmps11
    go_wp2_with (first | (go_at_call 18; refine (HA.out _).mono ?_; rintro e w' ⟨rfl, rfl⟩) | (go_at_call 19; refine (HI.out _).mono ?_; rintro e w' ⟨rfl, rfl⟩))
    go_ret
    exact ⟨ret_bool (by rw [HE.out]), HB.out⟩
  · have HE : Hid (sigB n (x, l, y) = inB y 1 10) := Lib.hid (by unfold sigB; simp only; rw [ha, hb]; rfl)
    rw [ha] at HA
    rw [hb] at HI
    clear ha hb
    go_enter Tryd.func11, Tryd.ntmps11
    go_wp2_with fail
    go_at_call 18
    refine (HA.out _).mono ?_
    rintro e w' ⟨rfl, rfl⟩
    go_wp2_with fail
    go_at_call 19
    refine (HI.out _).mono ?_
    rintro e w' ⟨rfl, rfl⟩
    go_wp2_with fail
    go_at_call 19
    refine (HJ.out _).mono ?_
    rintro e w' ⟨rfl, rfl⟩
    go_wp2
    go_ret
    exact ⟨ret_bool (by rw [HE.out]), HB.out⟩



end Go.Proofs.YtmlamcimncfmcabDoor
