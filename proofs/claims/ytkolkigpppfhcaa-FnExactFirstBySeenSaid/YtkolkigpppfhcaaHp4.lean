/- seenFromRight; what a method of heights answers. -/
import Derived.Test.YtkolkigpppfhcaaHp3
namespace Go.Proofs.Ytkolkigpppfhcaa
open Go.ChangeShapes Go.WideShapes Go.ChangeAt Go.RowKit

/-- an owned slice's block -/
theorem Own.blk {w : World} {B g cap n : Nat} {zs : List Int} (h : Own w B (.slice (some ⟨g, 0, none⟩) n cap) zs) : B ≤ g ∧ ∃ cs, Blk w g 3 cs ∧ zs.length = n ∧ n ≤ cap ∧ cap ≤ maxLen ∧ cs.length = cap ∧ cs.take n = vals zs := by
  unfold Own at h
  obtain ⟨h0, h2⟩ := h
  rcases h2 with ⟨e, _⟩ | ⟨g', cap', cur, hv, hg, hh, hn, hcap, hsz, htake⟩
  · cases e
  · cases hv
    refine ⟨hg, cur.toList, by unfold Blk; simpa using hh, rfl, hn, hcap, by rw [Array.length_toList, hsz]; omega, ?_⟩
    rw [Nat.mul_one] at htake
    exact htake
theorem Blk.own {w : World} {B g cap n : Nat} {zs : List Int} {cs : List Value} (hB : B ≤ g) (h : Blk w g 3 cs) (hz : zs.length = n) (hn : n ≤ cap) (hm : cap ≤ maxLen) (hc : cs.length = cap) (ht : cs.take n = vals zs) : Own w B (.slice (some ⟨g, 0, none⟩) n cap) zs := by
  subst hz
  unfold Own
  exact ⟨by simp, .inr ⟨g, cap, cs.toArray, rfl, hB, h, hn, hm, by simpa using hc, by simpa [vals] using ht⟩⟩

set_option maxHeartbeats 1000000 in
theorem reverse_own (w : World) (B : Nat) (v : Value) (zs : List Int) (hz : zs.length ≤ 1000000000) (h : Own w B v zs) :
    Calls Try.prog 28 #[v] w fun e w' => e = .returned (.tuple #[]) ∧ Own w' B v zs.reverse ∧ w.grownBy w' v.ownBlock := by
  rcases h.shape with ⟨rfl, h0⟩ | ⟨g, cap, rfl, _, _⟩
  · obtain rfl : zs = [] := List.eq_nil_of_length_eq_zero h0
    have H := Lib.hid h
    clear h h0 hz
    go_enter Try.func28, Try.ntmps28
    go_wp2
    go_loop [2, 3] (fun i j => i = .int .i64 0 ∧ j = .int .i64 (-1)) (fun _ _ => 0)
    case atStart => exact ⟨rfl, rfl⟩
    case round =>
      obtain ⟨rfl, rfl⟩ := hrel
      go_wp2
      go_end0
      exact ⟨rfl, H.out, World.grownBy.refl _ _⟩
  · obtain ⟨hB, cs, hb, hn, hc, hm, hcl, ht⟩ := h.blk
    have hs : splice cs 0 (vals zs) = cs := splice_same cs 0 (vals zs) (by rw [length_vals]; omega) (fun j hj => by
      rw [← ht, List.getElem?_take, if_pos (by rw [length_vals] at hj; exact hj), Nat.zero_add])
    refine (reverse_any w g 0 zs.length cap _ cs zs rfl hz (by omega) (by rw [hs]; exact hb)).mono ?_
    rintro e w' ⟨he, hb', hg⟩
    refine ⟨he, hb'.own hB (by simp) hc hm ?_ ?_, hg⟩
    · rw [length_splice _ _ _ (by rw [length_vals, List.length_reverse]; omega)]; exact hcl
    · unfold splice
      rw [List.take_zero, List.nil_append, List.take_append_of_le_length (by rw [length_vals, List.length_reverse]; omega), List.take_of_length_le (by rw [length_vals, List.length_reverse]; omega)]


/-- what a method of heights answers for a list -/
def ofGood {α : Type} (none : α) (f : List Nat → α) (zs : List Int) : α := if goodH zs then f (heights zs) else none

end Go.Proofs.Ytkolkigpppfhcaa
