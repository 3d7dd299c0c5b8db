/- Chapter 2, the model's functions. -/
import Derived.Test.YtjbomclildkjaaaDoorOwn
import Derived.Test.YtjbomclildkjaaaDoorHe
namespace Go.Proofs.YtjbomclildkjaaaDoor
open Go.ChangeShapes Go.WideShapes Go.ChangeAt Go.RowKit

def inB (n lo hi : Int) : Bool := decide (lo ≤ n ∧ n ≤ hi)
def allB (zs : List Int) (lo hi : Int) : Bool := zs.all fun n => inB n lo hi
def allTo (zs : List Int) (lo hi : Int) (k : Nat) : Prop := ∀ j, j < k → inB (zs.getD j 0) lo hi = true
def goodH (zs : List Int) : Bool := inB zs.length 1 40 && allB zs 1 100
theorem allTo_zero (zs : List Int) (lo hi : Int) : allTo zs lo hi 0 := fun _ h => absurd h (Nat.not_lt_zero _)
theorem allTo_succ {zs : List Int} {lo hi : Int} {k : Nat} (h : allTo zs lo hi k) (hk : inB (zs.getD k 0) lo hi = true) : allTo zs lo hi (k + 1) := by
  intro j hj
  by_cases e : j = k
  · subst e; exact hk
  · exact h j (by omega)
theorem allB_of {zs : List Int} {lo hi : Int} (h : allTo zs lo hi zs.length) : allB zs lo hi = true := by
  unfold allB
  rw [List.all_eq_true]
  intro x hx
  obtain ⟨j, hj, rfl⟩ := List.getElem_of_mem hx
  have := h j hj
  simpa [List.getD_eq_getElem?_getD, hj] using this
theorem allB_not {zs : List Int} {lo hi : Int} {k : Nat} (hk : k < zs.length) (h : inB (zs.getD k 0) lo hi = false) : allB zs lo hi = false := by
  unfold allB
  rw [List.all_eq_false]
  refine ⟨zs[k], List.getElem_mem hk, ?_⟩
  have : inB zs[k] lo hi = false := by simpa [List.getD_eq_getElem?_getD, hk] using h
  simp [this]
theorem Own.came {w : World} {B : Nat} {v : Value} {zs : List Int} (h : Own w B v zs) : ∃ ao cap, v = .slice ao zs.length cap ∧ Came w ao zs.length zs := by
  rcases Nat.eq_zero_or_pos zs.length with h0 | h0
  · obtain ⟨ao, cap, rfl⟩ := h.any
    exact ⟨ao, cap, rfl, rfl, fun hp => absurd hp (by omega)⟩
  · obtain ⟨g, cap, rfl, _, _⟩ := h.point h0
    exact ⟨_, cap, rfl, rfl, fun _ => ⟨g, 0, rfl, fun j hj => by rw [Nat.zero_add]; exact h.cell rfl j hj⟩⟩
theorem Own.cameC {w : World} {B : Nat} {v : Value} {zs : List Int} (h : Own w B v zs) : ∃ ao cap, v = .slice ao zs.length cap ∧ Came w ao zs.length zs ∧ zs.length ≤ cap ∧ cap ≤ 9223372036854775807 := by
  obtain ⟨ao, cap, rfl, hc⟩ := h.came
  refine ⟨ao, cap, rfl, hc, ?_⟩
  unfold Own at h
  rcases h.2 with ⟨e, h0⟩ | ⟨g, cap', cur, hv, _, _, hn, hcap, _⟩
  · injection e with e1 e2 e3; omega
  · injection hv with e1 e2 e3; subst e3; unfold maxLen at hcap; exact ⟨hn, by omega⟩
/-- good heights as numbers from 1 to 100 -/
theorem goodH_nat {zs : List Int} (h : goodH zs = true) : ∃ hs : List Nat, zs = asInts hs ∧ 1 ≤ hs.length ∧ hs.length ≤ 40 ∧ ∀ x ∈ hs, 1 ≤ x ∧ x ≤ 100 := by
  unfold goodH inB allB at h
  simp only [Bool.and_eq_true, decide_eq_true_eq, List.all_eq_true] at h
  obtain ⟨⟨h1, h2⟩, h3⟩ := h
  refine ⟨zs.map Int.toNat, ?_, by simp; omega, by simp; omega, fun x hx => ?_⟩
  · unfold asInts
    rw [List.map_map]
    symm
    refine (List.map_congr_left (fun z hz => ?_)).trans (List.map_id _)
    have := h3 z hz
    unfold inB at this
    simp only [decide_eq_true_eq] at this
    simp only [Function.comp_apply, id]
    omega
  · simp only [List.mem_map] at hx
    obtain ⟨z, hz, rfl⟩ := hx
    have := h3 z hz
    unfold inB at this
    simp only [decide_eq_true_eq] at this
    omega
theorem toNat_asInts (hs : List Nat) : (asInts hs).map Int.toNat = hs := by
  unfold asInts; rw [List.map_map]; exact (List.map_congr_left (fun x _ => by simp)).trans (List.map_id _)
theorem nat_goodH {hs : List Nat} (h1 : 1 ≤ hs.length) (h2 : hs.length ≤ 40) (h3 : ∀ x ∈ hs, 1 ≤ x ∧ x ≤ 100) : goodH (asInts hs) = true := by
  unfold goodH inB allB
  simp only [Bool.and_eq_true, decide_eq_true_eq, List.all_eq_true, asInts_len]
  refine ⟨⟨by omega, by omega⟩, fun x hx => ?_⟩
  unfold asInts at hx
  simp only [List.mem_map] at hx
  obtain ⟨y, hy, rfl⟩ := hx
  have := h3 y hy
  unfold inB
  simp only [decide_eq_true_eq]
  omega
theorem getD_mem0 {hs : List Nat} {j : Nat} (hj : j < hs.length) : hs.getD j 0 ∈ hs := by
  simp only [List.getD_eq_getElem?_getD, List.getElem?_eq_getElem hj, Option.getD_some]; exact List.getElem_mem hj

set_option maxRecDepth 20000 in
set_option maxHeartbeats 400000 in
theorem l1In_any (n lo hi : Int) (w : World) :
    Calls Tryd.prog 69 #[.int .i64 n, .int .i64 lo, .int .i64 hi] w fun e w' => e = .returned (.bool (inB n lo hi)) ∧ w = w' := by
  by_cases h1 : lo ≤ n <;> by_cases h2 : n ≤ hi
  all_goals
    go_enter Tryd.func69, Tryd.ntmps69
    go_wp2
    go_ret
    exact ⟨by simp [inB, h1, h2], rfl⟩



theorem seen_done {w : World} {B j : Nat} {v : Value} {hs : List Nat} (h : j = hs.length) (o : Own w B v (asInts (He.seenTo hs j))) : Own w B v (asInts (He.seen hs)) := by
  subst h; exact o



end Go.Proofs.YtjbomclildkjaaaDoor
