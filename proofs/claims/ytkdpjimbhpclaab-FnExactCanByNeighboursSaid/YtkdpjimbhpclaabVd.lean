/- Chapter 7, the program: give, giveRun. -/
import Derived.Test.YtkdpjimbhpclaabVc
namespace Go.Proofs.Ytkdpjimbhpclaab
open Go.ChangeShapes Go.WideShapes Go.ChangeAt Go.RowKit
open Rx Od

namespace Ed
set_option maxRecDepth 20000 in
theorem give_any (w : World) (b N : Nat) (S : Int → Bool) (X : Int) (h : Fst w b N S) (hN : N ≤ 90000) (h1 : 0 ≤ X) (h2 : X ≤ 1000) :
    Calls Try.prog 78 #[.map (some b), .int .i64 X] w fun e w' => e = .returned (.tuple #[]) ∧ Fst w' b (N + 1) (flipS S X) ∧ w.grownBy w' (some b) := by
  have hwf : (Lit.int .i64 X).wf = true := WalkArith.wf_i64 (by omega)
  have HF := Lib.hid h
  have HD : Hid (S X = true → ∀ x, (S x && decide (x ≠ X)) = flipS S X x) := Lib.hid (fun hs x => by
    by_cases e : x = X
    · subst e; rw [flip_same, hs]; simp
    · rw [flip_other _ _ _ e]; simp [e])
  rcases hs : S X with _ | _
  · have HS := Lib.hid hs
    clear h
    go_enter Try.func78, Try.ntmps78
    go_wp2_with (first | (at_lookup; refine wpList_has _ rfl _ _ _ rfl Try.underlying66 rfl HF.out X rfl hwf ?_; rw [hs]) | (at_mapUpdate; refine wpList_put _ rfl _ _ _ _ rfl Try.underlying66 rfl HF.out (by omega) X rfl rfl hwf HS.out ?_; intro w1 hF1 hG1; go_frame))
    go_end0
    exact ⟨rfl, hF1, hG1⟩
  · have HS := Lib.hid hs
    clear h
    go_enter Try.func78, Try.ntmps78
    go_wp2_with (first | (at_lookup; refine wpList_has _ rfl _ _ _ rfl Try.underlying66 rfl HF.out X rfl hwf ?_; rw [hs]) | (at_delete; refine wpList_del _ rfl _ _ _ _ rfl rfl Try.underlying66 rfl HF.out X rfl hwf ?_; intro w1 hF1 hG1; go_frame))
    refine bodyPost_ret (results_none rfl _ _ _) rfl ?_
    exact ⟨rfl, (hF1.congr (HD.out HS.out)).mono (Nat.le_succ _), hG1⟩

/-- the edges as keys -/
def edS (d : List Bool) : Int → Bool := fun x => decide (0 ≤ x) && edge d x.toNat
theorem edS_nat (d : List Bool) (k : Nat) : edS d (k : Int) = edge d k := by
  unfold edS
  rw [decide_eq_true (by omega), Int.toNat_natCast]; rfl
theorem edS_zeros (n : Nat) (x : Int) : edS (zeros n) x = false := by
  unfold edS
  rw [edge_zeros, Bool.and_false]
theorem edS_turn (d : List Bool) (a b : Nat) (hab : a < b) (hb : b ≤ d.length) (x : Int) : flipS (flipS (edS d) (a : Int)) (b : Int) x = edS (turnTo d a b) x := by
  unfold flipS edS
  by_cases hx : 0 ≤ x
  · obtain ⟨k, rfl⟩ : ∃ k : Nat, x = (k : Int) := ⟨x.toNat, by omega⟩
    rw [decide_eq_true hx, Int.toNat_natCast, edge_turn _ _ _ _ hab hb, show decide ((k : Int) = (a : Int)) = decide (k = a) from by simp; omega, show decide ((k : Int) = (b : Int)) = decide (k = b) from by simp; omega]; rfl
  · rw [decide_eq_false hx, decide_eq_false (show ¬ x = (a : Int) by omega), decide_eq_false (show ¬ x = (b : Int) by omega)]; rfl
theorem edS_pos {d : List Bool} {x : Int} (h : edS d x = true) : ∃ k : Nat, x = (k : Int) ∧ k ≤ d.length ∧ edge d k = true := by
  unfold edS at h
  simp only [Bool.and_eq_true, decide_eq_true_eq] at h
  refine ⟨x.toNat, by omega, ?_, h.2⟩
  by_cases e : x.toNat ≤ d.length
  · exact e
  · rw [edge_over d _ (by omega)] at h; cases h.2

theorem grownBy_alloc2 {w w' : World} {o : Obj} {r : Option Nat} (h : (w.alloc o).grownBy w' r) : w.grownBy w' r :=
  ⟨h.os, h.tape, h.output, Nat.le_trans (by simp) h.size, fun i hi hr => (h.block i (by simp; omega) hr).trans (heap_alloc_old _ _ hi)⟩

/-- a cell of a block that has not turned -/
theorem cell_grown {w w2 : World} {r : Option Nat} (k : w.grownBy w2 r) {g j : Nat} {v : Value} (hg : g < w.heap.size) (hr : some g ≠ r) (h : w.cell? ⟨g, j, none⟩ = some v) : w2.cell? ⟨g, j, none⟩ = some v := by
  have e := k.block g hg hr
  rw [← h]
  unfold World.cell?
  simp only [e]
set_option maxRecDepth 20000 in
theorem giveRun_any (w : World) (b N : Nat) (d : List Bool) (A B : Nat) (h : Fst w b N (edS d)) (hN : N ≤ 80000) (hAB : A ≤ B) (hB : B < d.length) (hd : d.length ≤ 60) :
    Calls Try.prog 60 #[.map (some b), .agg #[.int .i64 (A : Int), .int .i64 (B : Int)]] w fun e w' => e = .returned (.tuple #[]) ∧ Fst w' b (N + 2) (edS (turnTo d A (B + 1))) ∧ w.grownBy w' (some b) := by
  have HE := Lib.hid (edS_turn d A (B + 1) (by omega) (by omega))
  have hbl := h.lt
  have c1 : (w.alloc (.cells #[.int .i64 (A : Int), .int .i64 (B : Int)] 69)).cell? ⟨w.heap.size, 1, none⟩ = some (.int .i64 (B : Int)) := by rw [World.cell?_alloc_new]; rfl
  have HGA := Lib.hid (World.grownBy_alloc w (.cells #[.int .i64 (A : Int), .int .i64 (B : Int)] 69) (some b))
  have hF : Fst (w.alloc (.cells #[.int .i64 (A : Int), .int .i64 (B : Int)] 69)) b N (edS d) := h.kept (World.grownBy_alloc w _ none) (by simp)
  have HG := Lib.hid (give_any _ b N (edS d) A hF (by omega) (by omega) (by omega))
  have HC2 : Hid (∀ w2, (w.alloc (.cells #[.int .i64 (A : Int), .int .i64 (B : Int)] 69)).grownBy w2 (some b) → w2.cell? ⟨w.heap.size, 1, none⟩ = some (.int .i64 (B : Int))) :=
    Lib.hid (fun w2 k => cell_grown k (by simp) (by simp; omega) c1)
  have HG2 := Lib.hid (fun w2 (h2 : Fst w2 b (N + 1) (flipS (edS d) (A : Int))) => give_any w2 b (N + 1) _ ((B : Int) + 1) h2 (by omega) (by omega) (by omega))
  have i1 : IntKind.i64.wrap ((B : Int) + 1) = (B : Int) + 1 := IntWalk.i64_in _ (by omega)
  have hB60 : B ≤ 60 := by omega
  clear h hF c1
  go_enter Try.func60, Try.ntmps60
  go_wp2_with fail
  go_at_call 78
  refine HG.out.mono ?_
  rintro e w2 ⟨rfl, h2, k2⟩
  have c2 := HC2.out w2 k2
  have HK := Lib.hid (grownBy_trans HGA.out k2)
  have HC := Lib.hid (HG2.out w2 h2)
  clear h2 k2
  go_wp2_with fail
  go_at_call 78
  refine HC.out.mono ?_
  rintro e w3 ⟨rfl, h3, k3⟩
  have HK3 := Lib.hid (grownBy_trans HK.out k3)
  have HF3 := Lib.hid (h3.congr HE.out)
  clear h3 k3
  go_wp2
  go_end0
  exact ⟨rfl, HF3.out, HK3.out⟩
end Ed

end Go.Proofs.Ytkdpjimbhpclaab
